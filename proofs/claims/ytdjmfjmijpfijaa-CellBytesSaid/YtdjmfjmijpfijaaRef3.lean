/-
  The reference's Int by its contract: it makes the encoding of an integer.
-/
import Derived.Test.YtdjmfjmijpfijaaLaw
namespace Go.Proofs.Ytdjmfjmijpfijaa
open Go.RowKit
set_option linter.unusedVariables false
set_option linter.unusedSimpArgs false
theorem digs_rev (q : Nat) (h : q < 256 ^ 8) (h0 : q ≠ 0) : (Wr.digs 8 q).reverse = UInt8.ofNat q :: (Wr.digs 8 (q / 256)).reverse := by
  rw [Wr.digs_step 7 q h0, List.reverse_append]
  rw [Wr.digs_more 7 (q / 256) (by rw [Nat.div_lt_iff_lt_mul (by omega)]; exact h)]
  rfl

theorem map_xor_zero' (x : List UInt8) : x.map (· ^^^ (0 : UInt8)) = x := Wr.map_xor_zero x

set_option maxHeartbeats 1000000 in
set_option maxRecDepth 100000 in
theorem refInt_pos (m : Nat) (w : World) (hm : m < 9223372036854775808) :
    Calls Try.prog 46 #[.int .i64 (m : Int)] w fun e w' => ∃ v, e = .returned v ∧ w'.ownsRow w.heap.size 5 1 v (Wr.enc m).length (BV (Wr.enc m)) ∧ Below w.heap.size w w' := by
  obtain ⟨i0, hi, hz0, hz1, hz2⟩ := info_parts byteInfo
  have HI := hide hi
  have HZ0 := hide hz0
  have HZ1 := hide hz1
  have HZ2 := hide hz2
  clear hi hz0 hz1 hz2
  have hm8 : m < 256 ^ 8 := Nat.lt_of_lt_of_le hm (by decide)
  have hm0 : ¬ ((m : Int) < 0) := by omega
  go_enter Try.func46, Try.ntmps46
  go_wp2_with fail
  go_loopw [3, 4] (fun t v wr => ∃ (q : Nat) (dn : List UInt8), t = .int .i64 (q : Int) ∧ q ≤ m ∧ dn ++ (Wr.digs 8 q).reverse = (Wr.digs 8 m).reverse ∧ wr.ownsRow w.heap.size 5 1 v dn.length (BV dn) ∧ Below w.heap.size w wr) (fun t _ _ => (intOf t).toNat)
  case atStart => exact ⟨m, [], rfl, Nat.le_refl _, rfl, World.ownsRow_nil w w.heap.size _ 1, Below.refl _ _⟩
  case round =>
    obtain ⟨q, dn, rfl, hq, hdn, hown, hb⟩ := hrel
    by_cases h0 : q = 0
    · subst h0
      rw [show ((0 : Nat) : Int) = 0 from rfl]
      obtain ⟨wd, rfl⟩ : ∃ wd, wd = wr := ⟨wr, rfl⟩
      have hdn' : dn = (Wr.digs 8 m).reverse := by rw [Wr.digs_zero] at hdn; simpa using hdn
      have hlen : dn.length ≤ 8 := by rw [hdn', List.length_reverse]; exact Wr.digs_len 8 m
      obtain ⟨A4, c4, rfl, hc4, _⟩ := own_slice hown
      have HR := hide (Reads.of_own hown)
      have HB := hide hb
      have HN := hide (World.ownsRow_nil wd wd.heap.size 5 1)
      have HDN := hide hdn'
      have hh : BV [UInt8.ofNat (128 + dn.length)] = [.int .u8 (128 + (dn.length : Int))] := by
        simp only [BV, List.map_cons, List.map_nil, UInt8.toNat_ofNat']
        rw [Nat.mod_eq_of_lt (by omega)]
        simp
      have HH := hide hh
      clear hown hb hdn hdn' hh hm hm8
      generalize hK : dn.length = K at *
      have HK := hide hK
      clear hK
      go_wp2_with (at_builtin; refine wpList_append_any _ rfl (.tmp 28) (.tmp 32) 23 rfl wd.heap.size 5 i0 (.int .u8 0) 1 1 Try.underlying23 HI.out HZ0.out HZ1.out HZ2.out rfl (by omega) _ 0 [] rfl (HN.out.alloc _) _ (some ⟨wd.heap.size, 0, none⟩) 1 1 [.int .u8 (128 + (K : Int))] rfl (reads_new wd _ _) (by simp [Value.oneCell']) (by unfold maxLen; omega) (by omega) (by simp) ?_; intro v2 w2 hown2 hgrow2 hat2; have HO2 := hide hown2; have HB2 := hide ((below_alloc wd _).trans (below_grown hgrow2 (HN.out.alloc _) (by simp))); clear hown2 hgrow2 hat2)
      go_loopw [6, 7] (fun v i wr => ∃ j : Nat, j ≤ K ∧ i = .int .i64 ((j : Int) - 1) ∧ wr.ownsRow wd.heap.size 5 1 v (1 + (K - j)) (BV (UInt8.ofNat (128 + K) :: dn.reverse.take (K - j))) ∧ Below wd.heap.size wd wr) (fun _ i _ => (intOf i + 1).toNat)
      case atStart =>
        refine ⟨K, Nat.le_refl _, rfl, ?_, HB2.out⟩
        rw [Nat.sub_self, List.take_zero, HH.out]
        simpa using HO2.out
      case round =>
        obtain ⟨j, hj, rfl, hown, hb⟩ := hrel
        rcases Nat.eq_zero_or_pos j with h0 | h0
        · subst h0
          rw [show ((0 : Nat) : Int) - 1 = -1 from rfl]
          have HO := hide hown
          have HB3 := hide (HB.out.trans (hb.mono HB.out.size))
          clear hown hb
          go_wp2
          go_ret
          refine ⟨_, rfl, ?_, HB3.out⟩
          have h := HO.out
          have hk := HK.out
          have hd := HDN.out
          have he : Wr.enc (m : Int) = UInt8.ofNat (128 + K) :: Wr.digs 8 m := by
            have hk2 : K = (Wr.digs 8 m).length := by rw [← hk, hd, List.length_reverse]
            have hmag : Wr.mag (m : Int) = m := by unfold Wr.mag; rw [if_neg (by omega)]; omega
            have hfl : Wr.flip (m : Int) = 0 := by unfold Wr.flip; rw [if_neg (by omega)]
            unfold Wr.enc
            rw [hmag, hfl, map_xor_zero', UInt8.xor_zero, ← hk2]
          rw [Nat.sub_zero, hd, List.reverse_reverse] at h
          have hk3 : (Wr.digs 8 m).length = K := by rw [← hk, hd, List.length_reverse]
          rw [List.take_of_length_le (by omega)] at h
          rw [he, List.length_cons, hk3, Nat.add_comm]
          exact own_lower h HB.out.size
        · obtain ⟨j', rfl⟩ : ∃ j', j = j' + 1 := ⟨j - 1, by omega⟩
          rw [show (((j' + 1 : Nat) : Int) - 1) = (j' : Int) by omega]
          have hlt : j' < K := by omega
          obtain ⟨ad, rfl, hx, hc⟩ := reads_item HR.out j' hlt
          have hjd : j' < dn.length := by have := HK.out; omega
          have hc2 : wd.cell? (ad.add j') = some (.int .u8 ((dn[j'].toNat : Nat) : Int)) := by
            rw [hc]
            have := BV_get dn j' hjd
            rw [List.getElem?_eq_getElem hx] at this
            exact this
          have hcw : wr.cell? (ad.add j') = some (.int .u8 ((dn[j'].toNat : Nat) : Int)) := by rw [hb.cell (block_lt_of_cell hc2)]; exact hc2
          have hnext : dn.reverse.take (K - j') = dn.reverse.take (K - (j' + 1)) ++ [dn[j']] := by
            have hk := HK.out
            rw [show K - j' = (K - (j' + 1)) + 1 by omega, List.take_succ_eq_append_getElem (by rw [List.length_reverse]; omega), List.getElem_reverse]
            congr 3
            omega
          have hbyte : dn[j'].toNat < 256 := dn[j'].toNat_lt
          have hone : BV [dn[j']] = [.int .u8 ((dn[j'].toNat : Nat) : Int)] := rfl
          have HO := hide hown
          have HB3 := hide hb
          have HX := hide hnext
          have H1 := hide hone
          have hwsz := hb.size
          clear hown hb hc hc2 hnext hone hx
          generalize dn[j'] = cb at *
          go_wp2_with (at_builtin; refine wpList_append_any _ rfl (.tmp 54) (.tmp 56) 23 rfl wd.heap.size 5 i0 (.int .u8 0) 1 1 Try.underlying23 HI.out HZ0.out HZ1.out HZ2.out rfl (by omega) _ (1 + (K - (j' + 1))) _ rfl (HO.out.alloc _) _ (some ⟨wr.heap.size, 0, none⟩) 1 1 [.int .u8 ((cb.toNat : Nat) : Int)] rfl (reads_new wr _ _) (by simp [Value.oneCell']) (by unfold maxLen; omega) (by omega) (by simp; omega) ?_; intro v5 w5 hown5 hgrow5 hat5; have HO5 := hide hown5; have HB5 := hide ((HB3.out.trans (below_alloc' wr _ hwsz)).trans (below_grown hgrow5 (HO.out.alloc _) (by simp; omega))); clear hown5 hgrow5 hat5)
          refine ⟨⟨j', by omega, by go_num, ?_, HB5.out⟩, ?_⟩
          · have h := HO5.out
            rw [HX.out, ← List.cons_append, BV_append, H1.out]
            rwa [show 1 + (K - (j' + 1)) + 1 = 1 + (K - j') by omega] at h
          · simp [intOf]
    · have hpos : (0 : Int) < (q : Int) := by omega
      have hrev := digs_rev q (by omega) h0
      have hlen : dn.length ≤ 8 := by
        have h1 := congrArg List.length hdn
        rw [List.length_append, List.length_reverse, List.length_reverse] at h1
        have := Wr.digs_len 8 m
        omega
      have hone : BV [UInt8.ofNat q] = [.int .u8 ((q : Int) % 256)] := by simp [BV]
      have HO := hide hown
      have HB := hide hb
      have HD := hide hdn
      have HR := hide hrev
      have H1 := hide hone
      have hwsz := hb.size
      clear hown hb hdn hrev hone
      go_wp2_with (at_builtin; refine wpList_append_any _ rfl (.tmp 16) (.tmp 20) 23 rfl w.heap.size 5 i0 (.int .u8 0) 1 1 Try.underlying23 HI.out HZ0.out HZ1.out HZ2.out rfl (by omega) _ dn.length (BV dn) rfl (HO.out.alloc _) _ (some ⟨wr.heap.size, 0, none⟩) 1 1 [.int .u8 ((q : Int) % 256)] rfl (reads_new wr _ _) (by simp [Value.oneCell']) (by unfold maxLen; omega) (by omega) (by simp; omega) ?_; intro v2 w2 hown2 hgrow2 hat2; have HO2 := hide hown2; have HB2 := hide ((HB.out.trans (below_alloc' wr _ hwsz)).trans (below_grown hgrow2 (HO.out.alloc _) (by simp; omega))); clear hown2 hgrow2 hat2)
      refine ⟨⟨q / 256, dn ++ [UInt8.ofNat q], by go_num, by omega, ?_, ?_, HB2.out⟩, ?_⟩
      · rw [List.append_assoc, List.singleton_append, ← HR.out]; exact HD.out
      · rw [List.length_append, BV_append, H1.out]; exact HO2.out
      · simp [intOf]; omega
set_option maxHeartbeats 1000000 in
set_option maxRecDepth 100000 in
theorem refInt_neg (m : Nat) (z : Int) (w : World) (hm : m < 9223372036854775808) (hz : z < 0) (hmz : -1 - z = (m : Int)) :
    Calls Try.prog 46 #[.int .i64 z] w fun e w' => ∃ v, e = .returned v ∧ w'.ownsRow w.heap.size 5 1 v (Wr.enc z).length (BV (Wr.enc z)) ∧ Below w.heap.size w w' := by
  obtain ⟨i0, hi, hz0, hz1, hz2⟩ := info_parts byteInfo
  have HI := hide hi
  have HZ0 := hide hz0
  have HZ1 := hide hz1
  have HZ2 := hide hz2
  clear hi hz0 hz1 hz2
  have hm8 : m < 256 ^ 8 := Nat.lt_of_lt_of_le hm (by decide)
  go_enter Try.func46, Try.ntmps46
  go_wp2_with fail
  go_loopw [3, 4] (fun t v wr => ∃ (q : Nat) (dn : List UInt8), t = .int .i64 (q : Int) ∧ q ≤ m ∧ dn ++ (Wr.digs 8 q).reverse = (Wr.digs 8 m).reverse ∧ wr.ownsRow w.heap.size 5 1 v dn.length (BV dn) ∧ Below w.heap.size w wr) (fun t _ _ => (intOf t).toNat)
  case atStart => exact ⟨m, [], rfl, Nat.le_refl _, rfl, World.ownsRow_nil w w.heap.size _ 1, Below.refl _ _⟩
  case round =>
    obtain ⟨q, dn, rfl, hq, hdn, hown, hb⟩ := hrel
    by_cases h0 : q = 0
    · subst h0
      rw [show ((0 : Nat) : Int) = 0 from rfl]
      obtain ⟨wd, rfl⟩ : ∃ wd, wd = wr := ⟨wr, rfl⟩
      have hdn' : dn = (Wr.digs 8 m).reverse := by rw [Wr.digs_zero] at hdn; simpa using hdn
      have hlen : dn.length ≤ 8 := by rw [hdn', List.length_reverse]; exact Wr.digs_len 8 m
      obtain ⟨A4, c4, rfl, hc4, _⟩ := own_slice hown
      have HR := hide (Reads.of_own hown)
      have HB := hide hb
      have HN := hide (World.ownsRow_nil wd wd.heap.size 5 1)
      have HDN := hide hdn'
      have hh : BV [UInt8.ofNat (128 + dn.length) ^^^ 255] = [.int .u8 (127 - (dn.length : Int))] := by
        simp only [BV, List.map_cons, List.map_nil]
        rw [(Wr.head_val dn.length hlen).1, Int.ofNat_sub (by omega)]
        rfl
      have HH := hide hh
      have HMZ := hide hmz
      have HZ := hide hz
      clear hown hb hdn hdn' hh hm hm8
      generalize hK : dn.length = K at *
      have HK := hide hK
      clear hK
      go_wp2_with (at_builtin; refine wpList_append_any _ rfl (.tmp 34) (.tmp 38) 23 rfl wd.heap.size 5 i0 (.int .u8 0) 1 1 Try.underlying23 HI.out HZ0.out HZ1.out HZ2.out rfl (by omega) _ 0 [] rfl (HN.out.alloc _) _ (some ⟨wd.heap.size, 0, none⟩) 1 1 [.int .u8 (127 - (K : Int))] rfl (reads_new wd _ _) (by simp [Value.oneCell']) (by unfold maxLen; omega) (by omega) (by simp) ?_; intro v2 w2 hown2 hgrow2 hat2; have HO2 := hide hown2; have HB2 := hide ((below_alloc wd _).trans (below_grown hgrow2 (HN.out.alloc _) (by simp))); clear hown2 hgrow2 hat2)
      go_loopw [6, 7] (fun v i wr => ∃ j : Nat, j ≤ K ∧ i = .int .i64 ((j : Int) - 1) ∧ wr.ownsRow wd.heap.size 5 1 v (1 + (K - j)) (BV ((UInt8.ofNat (128 + K) ^^^ 255) :: (dn.reverse.take (K - j)).map (· ^^^ 255))) ∧ Below wd.heap.size wd wr) (fun _ i _ => (intOf i + 1).toNat)
      case atStart =>
        refine ⟨K, Nat.le_refl _, rfl, ?_, HB2.out⟩
        rw [Nat.sub_self, List.take_zero, List.map_nil, HH.out]
        simpa using HO2.out
      case round =>
        obtain ⟨j, hj, rfl, hown, hb⟩ := hrel
        rcases Nat.eq_zero_or_pos j with h0 | h0
        · subst h0
          rw [show ((0 : Nat) : Int) - 1 = -1 from rfl]
          have HO := hide hown
          have HB3 := hide (HB.out.trans (hb.mono HB.out.size))
          clear hown hb
          go_wp2
          go_ret
          refine ⟨_, rfl, ?_, HB3.out⟩
          have h := HO.out
          have hk := HK.out
          have hd := HDN.out
          have he : Wr.enc z = (UInt8.ofNat (128 + K) ^^^ 255) :: (Wr.digs 8 m).map (· ^^^ 255) := by
            have hk2 : K = (Wr.digs 8 m).length := by rw [← hk, hd, List.length_reverse]
            have hmag : Wr.mag z = m := by unfold Wr.mag; have := HZ.out; have := HMZ.out; rw [if_pos (by omega)]; omega
            have hfl : Wr.flip z = 255 := by unfold Wr.flip; have := HZ.out; rw [if_pos (by omega)]
            unfold Wr.enc
            rw [hmag, hfl, ← hk2]
          rw [Nat.sub_zero, hd, List.reverse_reverse] at h
          have hk3 : (Wr.digs 8 m).length = K := by rw [← hk, hd, List.length_reverse]
          rw [List.take_of_length_le (by omega)] at h
          rw [he, List.length_cons, List.length_map, hk3, Nat.add_comm]
          exact own_lower h HB.out.size
        · obtain ⟨j', rfl⟩ : ∃ j', j = j' + 1 := ⟨j - 1, by omega⟩
          rw [show (((j' + 1 : Nat) : Int) - 1) = (j' : Int) by omega]
          have hlt : j' < K := by omega
          obtain ⟨ad, rfl, hx, hc⟩ := reads_item HR.out j' hlt
          have hjd : j' < dn.length := by have := HK.out; omega
          have hc2 : wd.cell? (ad.add j') = some (.int .u8 ((dn[j'].toNat : Nat) : Int)) := by
            rw [hc]
            have := BV_get dn j' hjd
            rw [List.getElem?_eq_getElem hx] at this
            exact this
          have hcw : wr.cell? (ad.add j') = some (.int .u8 ((dn[j'].toNat : Nat) : Int)) := by rw [hb.cell (block_lt_of_cell hc2)]; exact hc2
          have hnext : dn.reverse.take (K - j') = dn.reverse.take (K - (j' + 1)) ++ [dn[j']] := by
            have hk := HK.out
            rw [show K - j' = (K - (j' + 1)) + 1 by omega, List.take_succ_eq_append_getElem (by rw [List.length_reverse]; omega), List.getElem_reverse]
            congr 3
            omega
          have hbyte : dn[j'].toNat < 256 := dn[j'].toNat_lt
          have hone : BV [dn[j'] ^^^ 255] = [.int .u8 (255 - ((dn[j'].toNat : Nat) : Int))] := by simp only [BV, List.map_cons, List.map_nil]; rw [Wr.xor_toNat, Int.ofNat_sub (by omega)]; rfl
          have HO := hide hown
          have HB3 := hide hb
          have HX := hide hnext
          have H1 := hide hone
          have hwsz := hb.size
          clear hown hb hc hc2 hnext hone hx
          generalize dn[j'] = cb at *
          go_wp2_with (at_builtin; refine wpList_append_any _ rfl (.tmp 54) (.tmp 56) 23 rfl wd.heap.size 5 i0 (.int .u8 0) 1 1 Try.underlying23 HI.out HZ0.out HZ1.out HZ2.out rfl (by omega) _ (1 + (K - (j' + 1))) _ rfl (HO.out.alloc _) _ (some ⟨wr.heap.size, 0, none⟩) 1 1 [.int .u8 (255 - ((cb.toNat : Nat) : Int))] rfl (reads_new wr _ _) (by simp [Value.oneCell']) (by unfold maxLen; omega) (by omega) (by simp; omega) ?_; intro v5 w5 hown5 hgrow5 hat5; have HO5 := hide hown5; have HB5 := hide ((HB3.out.trans (below_alloc' wr _ hwsz)).trans (below_grown hgrow5 (HO.out.alloc _) (by simp; omega))); clear hown5 hgrow5 hat5)
          refine ⟨⟨j', by omega, by go_num, ?_, HB5.out⟩, ?_⟩
          · have h := HO5.out
            rw [HX.out, List.map_append, List.map_singleton, ← List.cons_append, BV_append, H1.out]
            rwa [show 1 + (K - (j' + 1)) + 1 = 1 + (K - j') by omega] at h
          · simp [intOf]
    · have hpos : (0 : Int) < (q : Int) := by omega
      have hrev := digs_rev q (by omega) h0
      have hlen : dn.length ≤ 8 := by
        have h1 := congrArg List.length hdn
        rw [List.length_append, List.length_reverse, List.length_reverse] at h1
        have := Wr.digs_len 8 m
        omega
      have hone : BV [UInt8.ofNat q] = [.int .u8 ((q : Int) % 256)] := by simp [BV]
      have HO := hide hown
      have HB := hide hb
      have HD := hide hdn
      have HR := hide hrev
      have H1 := hide hone
      have hwsz := hb.size
      clear hown hb hdn hrev hone
      go_wp2_with (at_builtin; refine wpList_append_any _ rfl (.tmp 16) (.tmp 20) 23 rfl w.heap.size 5 i0 (.int .u8 0) 1 1 Try.underlying23 HI.out HZ0.out HZ1.out HZ2.out rfl (by omega) _ dn.length (BV dn) rfl (HO.out.alloc _) _ (some ⟨wr.heap.size, 0, none⟩) 1 1 [.int .u8 ((q : Int) % 256)] rfl (reads_new wr _ _) (by simp [Value.oneCell']) (by unfold maxLen; omega) (by omega) (by simp; omega) ?_; intro v2 w2 hown2 hgrow2 hat2; have HO2 := hide hown2; have HB2 := hide ((HB.out.trans (below_alloc' wr _ hwsz)).trans (below_grown hgrow2 (HO.out.alloc _) (by simp; omega))); clear hown2 hgrow2 hat2)
      refine ⟨⟨q / 256, dn ++ [UInt8.ofNat q], by go_num, by omega, ?_, ?_, HB2.out⟩, ?_⟩
      · rw [List.append_assoc, List.singleton_append, ← HR.out]; exact HD.out
      · rw [List.length_append, BV_append, H1.out]; exact HO2.out
      · simp [intOf]; omega
/-- the reference's Int, for every integer -/
theorem refInt_any (z : Int) (w : World) (hz : Wr.inI z) :
    Calls Try.prog 46 #[.int .i64 z] w fun e w' => ∃ v, e = .returned v ∧ w'.ownsRow w.heap.size 5 1 v (Wr.enc z).length (BV (Wr.enc z)) ∧ Below w.heap.size w w' := by
  unfold Wr.inI at hz
  by_cases h : z < 0
  · exact refInt_neg (-1 - z).toNat z w (by omega) h (by omega)
  · obtain ⟨m, rfl⟩ : ∃ m : Nat, z = (m : Int) := ⟨z.toNat, by omega⟩
    exact refInt_pos m w (by omega)
end Go.Proofs.Ytdjmfjmijpfijaa
