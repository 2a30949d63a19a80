/-
  addInt by its contract: the encoding of an integer is appended.
-/
import Derived.Test.YtdjmfjmijpfijaaDec1
import Derived.Deep.LoopGhost
import Derived.WalkMore
namespace Go.Proofs.Ytdjmfjmijpfijaa
open Go.RowKit
set_option linter.unusedVariables false
set_option linter.unusedSimpArgs false
/-- the bytes that are written behind the first i rounds -/
def dg (f : UInt8) (m i : Nat) : List UInt8 := (Wr.digs i (m / 256 ^ (8 - i))).map (· ^^^ f)
theorem dg_len (f : UInt8) (m i : Nat) : (dg f m i).length ≤ i := by unfold dg; rw [List.length_map]; exact Wr.digs_len _ _

theorem pow_256 (i : Nat) (h : i < 8) : 2 ^ (56 - 8 * i) = 256 ^ (7 - i) := by
  rw [show (256 : Nat) = 2 ^ 8 from rfl, ← Nat.pow_mul]
  congr 1
  omega
theorem dg_zero (f : UInt8) (m i : Nat) (hi : i < 8) (hq : m / 2 ^ (56 - 8 * i) = 0) : dg f m (i + 1) = dg f m i := by
  rw [pow_256 i hi] at hq
  unfold dg
  rw [show 8 - (i + 1) = 7 - i by omega, hq, Wr.digs_zero, show 8 - i = (7 - i) + 1 by omega, Nat.pow_succ, ← Nat.div_div_eq_div_mul, hq, Nat.zero_div, Wr.digs_zero]
theorem dg_step (f : UInt8) (m i : Nat) (hi : i < 8) (hq : m / 2 ^ (56 - 8 * i) ≠ 0) : dg f m (i + 1) = dg f m i ++ [UInt8.ofNat (m / 2 ^ (56 - 8 * i)) ^^^ f] := by
  rw [pow_256 i hi] at hq ⊢
  unfold dg
  rw [show 8 - (i + 1) = 7 - i by omega, Wr.digs_step _ _ hq, List.map_append, show 8 - i = (7 - i) + 1 by omega, Nat.pow_succ, ← Nat.div_div_eq_div_mul, List.map_singleton]
theorem dg_full (f : UInt8) (m : Nat) : dg f m 8 = (Wr.digs 8 m).map (· ^^^ f) := by unfold dg; simp
theorem Onto.store {base : Nat} {w w1 : World} {v : Value} {n k cap g : Nat} {l t : List UInt8} {x b : UInt8} (h : Onto base w v w1 (.slice (some ⟨g, 0, none⟩) k cap) k (BV (l ++ x :: t))) (hl : l.length = n) :
    Onto base w v (w1.setCell ⟨g, n, none⟩ (.int .u8 (b.toNat : Int))) (.slice (some ⟨g, 0, none⟩) k cap) k (BV (l ++ b :: t)) := by
  obtain ⟨h1, h2⟩ := h.own.stored n (.int .u8 (b.toNat : Int))
  have he : (BV (l ++ x :: t)).set n (.int .u8 (b.toNat : Int)) = BV (l ++ b :: t) := by
    rw [BV_append, List.set_append_right _ _ (by rw [BV_len]; omega), BV_len, hl, Nat.sub_self, BV_append]
    rfl
  rw [he] at h1
  exact h.trans ⟨h1, h2, .inl rfl⟩
theorem xor_mod (q : Nat) (f : UInt8) : bits .xor .u8 ((q : Int) % 256) (f.toNat : Int) = ((UInt8.ofNat q ^^^ f).toNat : Int) := by
  have h := xor_byte (UInt8.ofNat q) f
  rw [← h]
  congr 1
theorem xor_top (k : Nat) (hk : k ≤ 8) (f : UInt8) : bits .xor .u8 (128 + (k : Int)) (f.toNat : Int) = ((UInt8.ofNat (128 + k) ^^^ f).toNat : Int) := by
  have h := xor_mod (128 + k) f
  rw [← h]
  congr 1
  omega

set_option maxHeartbeats 1000000 in
set_option maxRecDepth 100000 in
theorem addInt_pos (base : Nat) (A : Option Addr) (n c m : Nat) (z : Int) (l : List UInt8) (w : World) (hown : w.ownsRow base 5 1 (.slice A n c) n (BV l)) (hb : base ≤ w.heap.size) (hn : n ≤ 17592186044416) (hm : m < 9223372036854775808) (hmz : z = (m : Int)) :
    Calls Try.prog 31 #[.slice A n c, .int .i64 z] w fun e w' => ∃ v, e = .returned v ∧ Onto base w (.slice A n c) w' v (n + (1 + (Wr.digs 8 m).length)) (BV (l ++ (UInt8.ofNat (128 + (Wr.digs 8 m).length) ^^^ 0) :: (Wr.digs 8 m).map (· ^^^ 0))) := by
  obtain ⟨i0, hi, hz0, hz1, hz2⟩ := info_parts byteInfo
  have HI := hide hi
  have HZ0 := hide hz0
  have HZ1 := hide hz1
  have HZ2 := hide hz2
  have HO := hide (Onto.refl hown)
  clear hi hz0 hz1 hz2 hown
  subst hmz
  go_enter Try.func31, Try.ntmps31
  go_wp2
  go_step3
  go_wp2_with (at_builtin; refine wpList_append_any _ rfl (.tmp 14) (.tmp 15) 23 rfl base 5 i0 (.int .u8 0) 1 1 Try.underlying23 HI.out HZ0.out HZ1.out HZ2.out rfl (by omega) (.slice A n c) n (BV l) rfl (HO.out.own.alloc _) _ (some ⟨w.heap.size, 0, none⟩) 1 1 [.int .u8 0] rfl (reads_new w (.int .u8 0) _) (by simp [Value.oneCell']) (by unfold maxLen; omega) (by omega) (by simp; omega) ?_; intro v1 w1 hown1 hgrow1 hat1)
  have hO1 : Onto base w (.slice A n c) w1 v1 (n + 1) (BV (l ++ 0 :: dg 0 m 0)) := by
    have := (HO.out.alloc (.cells #[.int .u8 0] 5)).append hown1 hgrow1 hat1
    simpa [BV, dg, Wr.digs] using this
  obtain ⟨g1, c1, rfl, hc1⟩ := hO1.form (by omega)
  have HO1 := hide hO1
  clear hown1 hgrow1 hat1 hO1
  go_step3
  go_wp2
  go_loopw [0, 7] (fun v p wr => ∃ (i g cap : Nat), i ≤ 8 ∧ p = .int .i64 (56 - 8 * (i : Int)) ∧ v = .slice (some ⟨g, 0, none⟩) (n + 1 + (dg 0 m i).length) cap ∧ n + 1 + (dg 0 m i).length ≤ cap ∧ Onto base w (.slice A n c) wr v (n + 1 + (dg 0 m i).length) (BV (l ++ 0 :: dg 0 m i))) (fun _ p _ => (64 + intOf p).toNat)
  case atStart => exact ⟨0, g1, c1, by omega, by go_num, rfl, hc1, HO1.out⟩
  case round =>
    obtain ⟨i, g, cap, hi, rfl, rfl, hcap, hO⟩ := hrel
    have HO2 := hide hO
    have hsz := hO.grow.size
    clear hO
    have hdl := dg_len 0 m i
    by_cases hi8 : i < 8
    · have hD0 := dg_zero 0 m i hi8
      have hDS := dg_step 0 m i hi8
      have hxm := xor_mod (m / 2 ^ (56 - 8 * i)) 0
      rw [show ((0 : UInt8).toNat : Int) = 0 from rfl] at hxm
      have hqq : (m : Int) / 2 ^ (56 - 8 * i) = ((m / 2 ^ (56 - 8 * i) : Nat) : Int) := by
        rw [Int.natCast_ediv, Int.natCast_pow]; rfl
      have hbt := (UInt8.ofNat (m / 2 ^ (56 - 8 * i)) ^^^ 0).toNat_lt
      generalize hQ : m / 2 ^ (56 - 8 * i) = q at *
      clear hQ
      have HD0 := hide hD0
      have HDS := hide hDS
      clear hD0 hDS
      generalize hBB : UInt8.ofNat q ^^^ 0 = b at *
      clear hBB
      generalize hDG : dg 0 m i = D at *
      clear hDG
      by_cases hq : q = 0
      · have hq0 : ((q : Int) == 0) = true := by rw [beq_iff_eq]; omega
        have HE := hide (HD0.out hq)
        clear hq
        go_wp2
        go_roundw
        case rel => exact ⟨i + 1, g, cap, by omega, by go_num, by rw [HE.out], by rw [HE.out]; exact hcap, by rw [HE.out]; exact HO2.out⟩
        case measure => simp [intOf]; omega
      · have hq0 : ((q : Int) == 0) = false := by rw [beq_eq_false_iff_ne]; omega
        have HE := hide (HDS.out hq)
        clear hq
        go_wp2_with (at_builtin; refine wpList_append_any _ rfl (.tmp 27) (.tmp 34) 23 rfl base 5 i0 (.int .u8 0) 1 1 Try.underlying23 HI.out HZ0.out HZ1.out HZ2.out rfl (by omega) (.slice (some ⟨g, 0, none⟩) (n + 1 + D.length) cap) (n + 1 + D.length) (BV (l ++ 0 :: D)) rfl (HO2.out.own.alloc _) _ (some ⟨wr.heap.size, 0, none⟩) 1 1 [.int .u8 (b.toNat : Int)] rfl (reads_new wr _ _) (by simp [Value.oneCell']) (by unfold maxLen; omega) (by omega) (by simp; omega) ?_; intro v2 w2 hown2 hgrow2 hat2)
        have hO3 : Onto base w (.slice A n c) w2 v2 (n + 1 + (D ++ [b]).length) (BV (l ++ 0 :: (D ++ [b]))) := by
          have := (HO2.out.alloc (.cells #[.int .u8 (b.toNat : Int)] 5)).append hown2 hgrow2 hat2
          rw [show n + 1 + (D ++ [b]).length = n + 1 + D.length + 1 by simp; omega]
          simpa [BV] using this
        obtain ⟨g2, c2, rfl, hc2⟩ := hO3.form (by omega)
        have HO3 := hide hO3
        clear hown2 hgrow2 hat2 hO3
        go_wp2
        go_roundw
        case rel => exact ⟨i + 1, g2, c2, by omega, by go_num, by rw [HE.out], by rw [HE.out]; exact hc2, by rw [HE.out]; exact HO3.out⟩
        case measure => simp [intOf]; omega
    · obtain rfl : i = 8 := by omega
      have hdf := dg_full 0 m
      have hx := xor_top (Wr.digs 8 m).length (Wr.digs_len 8 m) 0
      rw [show ((0 : UInt8).toNat : Int) = 0 from rfl] at hx
      have hbt := (UInt8.ofNat (128 + (Wr.digs 8 m).length) ^^^ 0).toNat_lt
      have hlen : (dg 0 m 8).length = (Wr.digs 8 m).length := by rw [hdf, List.length_map]
      rw [hlen, hdf] at HO2
      rw [hlen] at hcap hdl ⊢
      have HDF := hide hdf
      clear hdf hlen
      generalize hTT : (Wr.digs 8 m).map (· ^^^ 0) = T at *
      generalize hKK : (Wr.digs 8 m).length = K at *
      generalize hBB : UInt8.ofNat (128 + K) ^^^ 0 = b at *
      have HTT := hide hTT
      have HKK := hide hKK
      have HBB := hide hBB
      clear hBB hKK hTT
      have hcell : wr.cell? ⟨g, n, none⟩ = some (.int .u8 0) := by
        rw [HO2.out.own.cellAt n (by omega)]
        have hl : (BV l).length = n := by
          have := HO.out.own.1
          omega
        rw [BV_append, List.getElem?_append_right (by omega), hl, Nat.sub_self]
        rfl
      have hfree := HO2.out.own.frozenAt n
      have hsum : (128 : Int) + ((n : Int) + 1 + (K : Int)) - (n : Int) - 1 = 128 + (K : Int) := by omega
      have hl : l.length = n := by
        have := HO.out.own.1
        simpa [BV] using this
      have HL := hide hl
      clear hl
      go_wp2
      rw [Exit.noGoto_ret]
      go_ret
      refine ⟨.slice (some ⟨g, 0, none⟩) (n + 1 + K) cap, rfl, ?_⟩
      have := HO2.out.store (b := b) HL.out
      rw [HKK.out, HTT.out, HBB.out, show n + (1 + K) = n + 1 + K by omega]
      exact this

set_option maxHeartbeats 1000000 in
set_option maxRecDepth 100000 in
theorem addInt_neg (base : Nat) (A : Option Addr) (n c m : Nat) (z : Int) (l : List UInt8) (w : World) (hown : w.ownsRow base 5 1 (.slice A n c) n (BV l)) (hb : base ≤ w.heap.size) (hn : n ≤ 17592186044416) (hm : m < 9223372036854775808) (hz : z < 0) (hmz : -1 - z = (m : Int)) :
    Calls Try.prog 31 #[.slice A n c, .int .i64 z] w fun e w' => ∃ v, e = .returned v ∧ Onto base w (.slice A n c) w' v (n + (1 + (Wr.digs 8 m).length)) (BV (l ++ (UInt8.ofNat (128 + (Wr.digs 8 m).length) ^^^ 255) :: (Wr.digs 8 m).map (· ^^^ 255))) := by
  obtain ⟨i0, hi, hz0, hz1, hz2⟩ := info_parts byteInfo
  have HI := hide hi
  have HZ0 := hide hz0
  have HZ1 := hide hz1
  have HZ2 := hide hz2
  have HO := hide (Onto.refl hown)
  clear hi hz0 hz1 hz2 hown
  have hz2 : -9223372036854775808 ≤ z := by omega
  go_enter Try.func31, Try.ntmps31
  go_wp2
  go_step3
  go_wp2_with (at_builtin; refine wpList_append_any _ rfl (.tmp 14) (.tmp 15) 23 rfl base 5 i0 (.int .u8 0) 1 1 Try.underlying23 HI.out HZ0.out HZ1.out HZ2.out rfl (by omega) (.slice A n c) n (BV l) rfl (HO.out.own.alloc _) _ (some ⟨w.heap.size, 0, none⟩) 1 1 [.int .u8 0] rfl (reads_new w (.int .u8 0) _) (by simp [Value.oneCell']) (by unfold maxLen; omega) (by omega) (by simp; omega) ?_; intro v1 w1 hown1 hgrow1 hat1)
  have hO1 : Onto base w (.slice A n c) w1 v1 (n + 1) (BV (l ++ 0 :: dg 255 m 0)) := by
    have := (HO.out.alloc (.cells #[.int .u8 0] 5)).append hown1 hgrow1 hat1
    simpa [BV, dg, Wr.digs] using this
  obtain ⟨g1, c1, rfl, hc1⟩ := hO1.form (by omega)
  have HO1 := hide hO1
  clear hown1 hgrow1 hat1 hO1
  go_step3
  go_wp2
  go_loopw [0, 7] (fun v p wr => ∃ (i g cap : Nat), i ≤ 8 ∧ p = .int .i64 (56 - 8 * (i : Int)) ∧ v = .slice (some ⟨g, 0, none⟩) (n + 1 + (dg 255 m i).length) cap ∧ n + 1 + (dg 255 m i).length ≤ cap ∧ Onto base w (.slice A n c) wr v (n + 1 + (dg 255 m i).length) (BV (l ++ 0 :: dg 255 m i))) (fun _ p _ => (64 + intOf p).toNat)
  case atStart => exact ⟨0, g1, c1, by omega, by go_num, rfl, hc1, HO1.out⟩
  case round =>
    obtain ⟨i, g, cap, hi, rfl, rfl, hcap, hO⟩ := hrel
    have HO2 := hide hO
    have hsz := hO.grow.size
    clear hO
    have hdl := dg_len 255 m i
    by_cases hi8 : i < 8
    · have hD0 := dg_zero 255 m i hi8
      have hDS := dg_step 255 m i hi8
      have hxm := xor_mod (m / 2 ^ (56 - 8 * i)) 255
      rw [show ((255 : UInt8).toNat : Int) = 255 from rfl] at hxm
      have hqq : (m : Int) / 2 ^ (56 - 8 * i) = ((m / 2 ^ (56 - 8 * i) : Nat) : Int) := by
        rw [Int.natCast_ediv, Int.natCast_pow]; rfl
      have hbt := (UInt8.ofNat (m / 2 ^ (56 - 8 * i)) ^^^ 255).toNat_lt
      generalize hQ : m / 2 ^ (56 - 8 * i) = q at *
      clear hQ
      have HD0 := hide hD0
      have HDS := hide hDS
      clear hD0 hDS
      generalize hBB : UInt8.ofNat q ^^^ 255 = b at *
      clear hBB
      generalize hDG : dg 255 m i = D at *
      clear hDG
      by_cases hq : q = 0
      · have hq0 : ((q : Int) == 0) = true := by rw [beq_iff_eq]; omega
        have HE := hide (HD0.out hq)
        clear hq
        go_wp2
        go_roundw
        case rel => exact ⟨i + 1, g, cap, by omega, by go_num, by rw [HE.out], by rw [HE.out]; exact hcap, by rw [HE.out]; exact HO2.out⟩
        case measure => simp [intOf]; omega
      · have hq0 : ((q : Int) == 0) = false := by rw [beq_eq_false_iff_ne]; omega
        have HE := hide (HDS.out hq)
        clear hq
        go_wp2_with (at_builtin; refine wpList_append_any _ rfl (.tmp 27) (.tmp 34) 23 rfl base 5 i0 (.int .u8 0) 1 1 Try.underlying23 HI.out HZ0.out HZ1.out HZ2.out rfl (by omega) (.slice (some ⟨g, 0, none⟩) (n + 1 + D.length) cap) (n + 1 + D.length) (BV (l ++ 0 :: D)) rfl (HO2.out.own.alloc _) _ (some ⟨wr.heap.size, 0, none⟩) 1 1 [.int .u8 (b.toNat : Int)] rfl (reads_new wr _ _) (by simp [Value.oneCell']) (by unfold maxLen; omega) (by omega) (by simp; omega) ?_; intro v2 w2 hown2 hgrow2 hat2)
        have hO3 : Onto base w (.slice A n c) w2 v2 (n + 1 + (D ++ [b]).length) (BV (l ++ 0 :: (D ++ [b]))) := by
          have := (HO2.out.alloc (.cells #[.int .u8 (b.toNat : Int)] 5)).append hown2 hgrow2 hat2
          rw [show n + 1 + (D ++ [b]).length = n + 1 + D.length + 1 by simp; omega]
          simpa [BV] using this
        obtain ⟨g2, c2, rfl, hc2⟩ := hO3.form (by omega)
        have HO3 := hide hO3
        clear hown2 hgrow2 hat2 hO3
        go_wp2
        go_roundw
        case rel => exact ⟨i + 1, g2, c2, by omega, by go_num, by rw [HE.out], by rw [HE.out]; exact hc2, by rw [HE.out]; exact HO3.out⟩
        case measure => simp [intOf]; omega
    · obtain rfl : i = 8 := by omega
      have hdf := dg_full 255 m
      have hx := xor_top (Wr.digs 8 m).length (Wr.digs_len 8 m) 255
      rw [show ((255 : UInt8).toNat : Int) = 255 from rfl] at hx
      have hbt := (UInt8.ofNat (128 + (Wr.digs 8 m).length) ^^^ 255).toNat_lt
      have hlen : (dg 255 m 8).length = (Wr.digs 8 m).length := by rw [hdf, List.length_map]
      rw [hlen, hdf] at HO2
      rw [hlen] at hcap hdl ⊢
      have HDF := hide hdf
      clear hdf hlen
      generalize hTT : (Wr.digs 8 m).map (· ^^^ 255) = T at *
      generalize hKK : (Wr.digs 8 m).length = K at *
      generalize hBB : UInt8.ofNat (128 + K) ^^^ 255 = b at *
      have HTT := hide hTT
      have HKK := hide hKK
      have HBB := hide hBB
      clear hBB hKK hTT
      have hcell : wr.cell? ⟨g, n, none⟩ = some (.int .u8 0) := by
        rw [HO2.out.own.cellAt n (by omega)]
        have hl : (BV l).length = n := by
          have := HO.out.own.1
          omega
        rw [BV_append, List.getElem?_append_right (by omega), hl, Nat.sub_self]
        rfl
      have hfree := HO2.out.own.frozenAt n
      have hsum : (128 : Int) + ((n : Int) + 1 + (K : Int)) - (n : Int) - 1 = 128 + (K : Int) := by omega
      have hl : l.length = n := by
        have := HO.out.own.1
        simpa [BV] using this
      have HL := hide hl
      clear hl
      go_wp2
      rw [Exit.noGoto_ret]
      go_ret
      refine ⟨.slice (some ⟨g, 0, none⟩) (n + 1 + K) cap, rfl, ?_⟩
      have := HO2.out.store (b := b) HL.out
      rw [HKK.out, HTT.out, HBB.out, show n + (1 + K) = n + 1 + K by omega]
      exact this

end Go.Proofs.Ytdjmfjmijpfijaa
