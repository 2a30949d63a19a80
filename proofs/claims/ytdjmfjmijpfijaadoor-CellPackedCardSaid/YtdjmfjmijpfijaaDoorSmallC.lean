/-
  Cells: plain words, and bit, Back, Dots of the code, Has, bit, Dots of the reference, by contract.
-/
import Derived.Test.YtdjmfjmijpfijaaDoorBase
namespace Go.Proofs.YtdjmfjmijpfijaaDoor
open Go.RowKit
set_option linter.unusedVariables false
set_option linter.unusedSimpArgs false
namespace Ce
/-- is the dot k + 1 among those of a cell -/
def on (c k : Nat) : Bool := c / 2 ^ k % 2 == 1
/-- the dots up to one of them -/
def dotsTo (c i : Nat) : List Int := ((List.range i).filter (on c)).map fun k : Nat => 1 + (k : Int)
def dots (c : Nat) : List Int := dotsTo c 6
def back (c : Nat) : Nat := c / 8 % 8 + c % 8 * 8
theorem dotsTo_on (c i : Nat) (h : on c i = true) : dotsTo c (i + 1) = dotsTo c i ++ [1 + (i : Int)] := by
  unfold dotsTo
  rw [List.range_succ, List.filter_append, List.map_append]
  simp [h]
theorem dotsTo_off (c i : Nat) (h : on c i = false) : dotsTo c (i + 1) = dotsTo c i := by
  unfold dotsTo
  rw [List.range_succ, List.filter_append, List.map_append]
  simp [h]
theorem dotsTo_len (c : Nat) : ∀ i, (dotsTo c i).length ≤ i
  | 0 => Nat.le_refl _
  | i + 1 => by
    have := dotsTo_len c i
    cases h : on c i
    · rw [dotsTo_off c i h]; omega
    · rw [dotsTo_on c i h, List.length_append]; simp; omega
set_option maxRecDepth 100000 in
theorem and_bit (c k : Nat) (hc : c < 256) (hk : k < 8) : (c &&& 2 ^ k) = if on c k then 2 ^ k else 0 := by
  have H : ∀ k : Fin 8, ∀ c : Fin 256, (c.val &&& 2 ^ k.val) = if on c.val k.val then 2 ^ k.val else 0 := by decide +kernel
  exact H ⟨k, hk⟩ ⟨c, hc⟩
end Ce
theorem intInfo : (Tryd.prog.info? 3).map (fun i => (i.zero, i.size, i.bytes)) = some (some (.int .i64 0), 1, 8) := by kernel_rfl

set_option maxHeartbeats 400000 in
set_option maxRecDepth 100000 in
theorem bit_any (d : Nat) (w : World) (h6 : d < 6) :
    Calls Tryd.prog 36 #[.int .i64 (1 + (d : Int))] w fun e w' => e = .returned (.int .u8 ((2 ^ d : Nat) : Int)) ∧ w = w' := by
  obtain rfl | rfl | rfl | rfl | rfl | rfl : d = 0 ∨ d = 1 ∨ d = 2 ∨ d = 3 ∨ d = 4 ∨ d = 5 := by omega
  all_goals
    go_enter Tryd.func36, Tryd.ntmps36
    go_wp2
    go_ret
    exact ⟨by rfl, rfl⟩
set_option maxHeartbeats 400000 in
set_option maxRecDepth 100000 in
theorem back_any (c : UInt8) (w : World) :
    Calls Tryd.prog 28 #[.int .u8 ((c.toNat : Nat) : Int)] w fun e w' => e = .returned (.int .u8 ((Ce.back c.toNat : Nat) : Int)) ∧ w = w' := by
  have hc := c.toNat_lt
  unfold Ce.back
  generalize c.toNat = n at *
  have H : ∀ a b : Fin 8, bits .or .u8 ((a.val : Int) * 8) (b.val : Int) = ((b.val + a.val * 8 : Nat) : Int) := by decide +kernel
  have hb := H ⟨n % 8, by omega⟩ ⟨n / 8 % 8, by omega⟩
  simp only [] at hb
  rw [Int.natCast_emod, Int.natCast_emod, Int.natCast_ediv] at hb
  clear H
  go_enter Tryd.func28, Tryd.ntmps28
  go_wp2
  go_ret
  exact ⟨by show Ending.returned (Value.int IntKind.u8 _) = _; first | rfl | (congr 2; done), rfl⟩
set_option maxHeartbeats 1000000 in
set_option maxRecDepth 100000 in
theorem dots_any (c : UInt8) (w : World) :
    Calls Tryd.prog 30 #[.int .u8 ((c.toNat : Nat) : Int)] w fun e w' => ∃ v, e = .returned v ∧ w'.ownsRow w.heap.size 3 1 v (Ce.dots c.toNat).length ((Ce.dots c.toNat).map (Value.int .i64)) ∧ Below w.heap.size w w' := by
  obtain ⟨i0, hi, hz0, hz1, hz2⟩ := info_parts intInfo
  have HI := hide hi
  have HZ0 := hide hz0
  have HZ1 := hide hz1
  have HZ2 := hide hz2
  have hc := c.toNat_lt
  generalize c.toNat = n at *
  have HC := hide hc
  clear hi hz0 hz1 hz2 hc
  go_enter Tryd.func30, Tryd.ntmps30
  go_upto_region 3 with fail
  go_loopw [3, 5] (fun s3 s5 wr => ∃ i : Nat, i ≤ 6 ∧ s5 = .int .i64 (i : Int) ∧ wr.ownsRow w.heap.size 3 1 s3 (Ce.dotsTo n i).length ((Ce.dotsTo n i).map (Value.int .i64)) ∧ Below w.heap.size w wr) (fun _ s5 _ => 6 - (intOf s5).toNat)
  case atStart => exact ⟨0, by omega, rfl, World.ownsRow_nil _ _ _ _, Below.refl _ _⟩
  case round =>
    obtain ⟨i, hi, rfl, hown, hbel⟩ := hrel
    obtain ⟨wd, rfl⟩ : ∃ wd, wd = wr := ⟨wr, rfl⟩
    by_cases hlt : i < 6
    · have CB := hide (fun W => bit_any i W hlt)
      have hi0 : (0 : Int) ≤ (i : Int) := by omega
      have hi6 : (i : Int) < 6 := by omega
      have hp : 2 ^ i < 256 := by exact show 2 ^ i < 2 ^ 8 from Nat.pow_lt_pow_right (by omega) (by omega)
      have hand := u8_and_nat n (2 ^ i) HC.out hp
      rw [Ce.and_bit n i HC.out (by omega)] at hand
      have hpp : (2 ^ i : Nat) ≠ 0 := by have := Nat.one_le_two_pow (n := i); omega
      have hlen := Ce.dotsTo_len n i
      cases hon : Ce.on n i with
      | true =>
        have hd := Ce.dotsTo_on n i hon
        rw [hon, if_pos rfl] at hand
        generalize 2 ^ i = p at *
        have HLT := hide hlt
        have HD := hide hd
        have HO := hide hown
        have HB := hide hbel
        have hsz := hbel.size
        have hp0 : ¬ ((p : Int) = 0) := by omega
        clear hon hd hown hbel hlt hp hpp
        generalize Ce.dotsTo n i = cur at *
        go_wp2_with (first
          | (go_at_call 36; refine (CB.out _).mono ?_; rintro e w1 ⟨rfl, rfl⟩)
          | (at_builtin; refine wpList_append_any _ rfl (.tmp 14) (.tmp 17) 22 rfl w.heap.size 3 i0 (.int .i64 0) 1 8 Tryd.underlying22 HI.out HZ0.out HZ1.out HZ2.out rfl (by omega) _ cur.length (cur.map (Value.int .i64)) rfl (HO.out.alloc _) _ (some ⟨wd.heap.size, 0, none⟩) 1 1 [.int .i64 (1 + (i : Int))] rfl (reads_new wd _ _) (by simp [Value.oneCell']) (by unfold maxLen; omega) (by omega) (by simp; omega) ?_; intro v2 w2 hown2 hgrow2 hat2; have HO2 := hide hown2; have HB2 := hide (HB.out.trans ((below_alloc' wd _ (Nat.le_refl _)).mono hsz |>.trans (below_grown hgrow2 (HO.out.alloc _) (by simp; omega)))); clear hown2 hgrow2 hat2))
        exact ⟨⟨i + 1, HLT.out, by go_num, by rw [HD.out, List.length_append, List.map_append]; exact HO2.out, HB2.out⟩, by have := HLT.out; simp [intOf]; omega⟩
      | false =>
        have hd := Ce.dotsTo_off n i hon
        rw [hon, if_neg (by simp)] at hand
        generalize 2 ^ i = p at *
        have HLT := hide hlt
        have HD := hide hd
        have HO := hide hown
        have HB := hide hbel
        clear hon hd hown hbel hlt hp hpp
        generalize Ce.dotsTo n i = cur at *
        go_wp2_with (first
          | (go_at_call 36; refine (CB.out _).mono ?_; rintro e w1 ⟨rfl, rfl⟩))
        exact ⟨⟨i + 1, HLT.out, by go_num, by rw [HD.out]; exact HO.out, HB.out⟩, by have := HLT.out; simp [intOf]; omega⟩
    · obtain rfl : i = 6 := by omega
      have HO := hide hown
      have HB := hide hbel
      clear hown hbel
      go_wp2
      go_ret
      exact ⟨_, rfl, HO.out, HB.out⟩

/-- of the reference -/
theorem half_pow (c j : Nat) : c / 2 ^ j / 2 = c / 2 ^ (j + 1) := by rw [Nat.pow_succ, Nat.div_div_eq_div_mul]
set_option maxHeartbeats 1000000 in
set_option maxRecDepth 100000 in
theorem has_any (c : UInt8) (k : Nat) (w : World) (hk : k < 6) :
    Calls Tryd.prog 38 #[.int .u8 ((c.toNat : Nat) : Int), .int .i64 (1 + (k : Int))] w fun e w' => e = .returned (.bool (Ce.on c.toNat k)) ∧ w = w' := by
  have hc := c.toNat_lt
  generalize c.toNat = n at *
  have HC := hide hc
  have hwr : IntKind.i64.wrap (n : Int) = (n : Int) := by rw [IntWalk.i64_in _ (by omega)]
  clear hc
  go_enter Tryd.func38, Tryd.ntmps38
  go_upto_region 3 with fail
  go_loopw [5, 6] (fun s5 s6 wr => ∃ i : Nat, i ≤ k ∧ s6 = .int .i64 (1 + (i : Int)) ∧ s5 = .int .i64 ((n / 2 ^ i : Nat) : Int) ∧ w = wr) (fun _ s6 _ => k + 1 - (intOf s6).toNat)
  case atStart => exact ⟨0, by omega, rfl, by simp, by first | rfl | trivial⟩
  case round =>
    obtain ⟨i, hi, rfl, rfl, rfl⟩ := hrel
    by_cases hlt : i < k
    · have h1 : 1 + (i : Int) < 1 + (k : Int) := by omega
      have h2 := half_pow n i
      have h3 : n / 2 ^ i < 256 := Nat.lt_of_le_of_lt (Nat.div_le_self _ _) HC.out
      generalize n / 2 ^ i = q at *
      have h4 : (0 : Int) ≤ (q : Int) := by omega
      have h5 : (q : Int) < 256 := by omega
      have HH := hide h2
      have HL := hide hlt
      have hi0 : (0 : Int) ≤ (i : Int) := by omega
      have hi6 : (i : Int) < 6 := by omega
      clear h2 h3 hlt
      go_wp2
      exact ⟨⟨i + 1, HL.out, by go_num, by rw [← HH.out]; first | rfl | go_num, by first | rfl | trivial⟩, by have := HL.out; simp [intOf]; omega⟩
    · obtain rfl : i = k := by omega
      have h3 : n / 2 ^ i < 256 := Nat.lt_of_le_of_lt (Nat.div_le_self _ _) HC.out
      have hon : Ce.on n i = decide (((n / 2 ^ i : Nat) : Int) % 2 = 1) := by
        unfold Ce.on
        by_cases h : n / 2 ^ i % 2 = 1
        · rw [h, decide_eq_true (by omega)]; rfl
        · rw [decide_eq_false (by omega)]; simpa using h
      have HON := hide hon
      generalize n / 2 ^ i = q at *
      have h4 : (0 : Int) ≤ (q : Int) := by omega
      have h5 : (q : Int) < 256 := by omega
      clear hon h3
      go_wp2
      go_ret
      exact ⟨by rw [HON.out]; first | rfl, by first | rfl | trivial⟩
set_option maxHeartbeats 1000000 in
set_option maxRecDepth 100000 in
theorem refDots_any (c : UInt8) (w : World) :
    Calls Tryd.prog 20 #[.int .u8 ((c.toNat : Nat) : Int)] w fun e w' => ∃ v, e = .returned v ∧ w'.ownsRow w.heap.size 3 1 v (Ce.dots c.toNat).length ((Ce.dots c.toNat).map (Value.int .i64)) ∧ Below w.heap.size w w' := by
  obtain ⟨i0, hi, hz0, hz1, hz2⟩ := info_parts intInfo
  have HI := hide hi
  have HZ0 := hide hz0
  have HZ1 := hide hz1
  have HZ2 := hide hz2
  have CH := hide (fun k W hk => has_any c k W hk)
  generalize c.toNat = n at *
  clear hi hz0 hz1 hz2
  go_enter Tryd.func20, Tryd.ntmps20
  go_upto_region 3 with fail
  go_loopw [3, 4] (fun s3 s4 wr => ∃ i : Nat, i ≤ 6 ∧ s4 = .int .i64 (1 + (i : Int)) ∧ wr.ownsRow w.heap.size 3 1 s3 (Ce.dotsTo n i).length ((Ce.dotsTo n i).map (Value.int .i64)) ∧ Below w.heap.size w wr) (fun _ s4 _ => 7 - (intOf s4).toNat)
  case atStart => exact ⟨0, by omega, rfl, World.ownsRow_nil _ _ _ _, Below.refl _ _⟩
  case round =>
    obtain ⟨i, hi, rfl, hown, hbel⟩ := hrel
    obtain ⟨wd, rfl⟩ : ∃ wd, wd = wr := ⟨wr, rfl⟩
    by_cases hlt : i < 6
    · have CB := hide (fun W => CH.out i W hlt)
      have hi0 : (0 : Int) ≤ (i : Int) := by omega
      have hi6 : 1 + (i : Int) ≤ 6 := by omega
      have hlen := Ce.dotsTo_len n i
      obtain ⟨b, hb⟩ : ∃ b, Ce.on n i = b := ⟨_, rfl⟩
      rw [hb] at CB
      cases b with
      | true =>
        have hd := Ce.dotsTo_on n i hb
        have HLT := hide hlt
        have HD := hide hd
        have HO := hide hown
        have HB := hide hbel
        have hsz := hbel.size
        clear hb hd hown hbel hlt
        generalize Ce.dotsTo n i = cur at *
        go_wp2_with (first
          | (go_at_call 38; refine (CB.out _).mono ?_; rintro e w1 ⟨rfl, rfl⟩)
          | (at_builtin; refine wpList_append_any _ rfl (.tmp 12) (.tmp 14) 22 rfl w.heap.size 3 i0 (.int .i64 0) 1 8 Tryd.underlying22 HI.out HZ0.out HZ1.out HZ2.out rfl (by omega) _ cur.length (cur.map (Value.int .i64)) rfl (HO.out.alloc _) _ (some ⟨wd.heap.size, 0, none⟩) 1 1 [.int .i64 (1 + (i : Int))] rfl (reads_new wd _ _) (by simp [Value.oneCell']) (by unfold maxLen; omega) (by omega) (by simp; omega) ?_; intro v2 w2 hown2 hgrow2 hat2; have HO2 := hide hown2; have HB2 := hide (HB.out.trans ((below_alloc' wd _ (Nat.le_refl _)).mono hsz |>.trans (below_grown hgrow2 (HO.out.alloc _) (by simp; omega)))); clear hown2 hgrow2 hat2))
        exact ⟨⟨i + 1, HLT.out, by go_num, by rw [HD.out, List.length_append, List.map_append]; exact HO2.out, HB2.out⟩, by have := HLT.out; simp [intOf]; omega⟩
      | false =>
        have hd := Ce.dotsTo_off n i hb
        have HLT := hide hlt
        have HD := hide hd
        have HO := hide hown
        have HB := hide hbel
        clear hb hd hown hbel hlt
        generalize Ce.dotsTo n i = cur at *
        go_wp2_with (first
          | (go_at_call 38; refine (CB.out _).mono ?_; rintro e w1 ⟨rfl, rfl⟩))
        exact ⟨⟨i + 1, HLT.out, by go_num, by rw [HD.out]; exact HO.out, HB.out⟩, by have := HLT.out; simp [intOf]; omega⟩
    · obtain rfl : i = 6 := by omega
      have HO := hide hown
      have HB := hide hbel
      clear hown hbel
      go_wp2
      go_ret
      exact ⟨_, rfl, HO.out, HB.out⟩
end Go.Proofs.YtdjmfjmijpfijaaDoor
