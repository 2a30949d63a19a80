/-
  The masked key of the reference, by contract.
-/
import Derived.Test.YtedgjpoejoepjaaDoorRefSum
import Derived.Test.YtedgjpoejoepjaaDoorMasked
import Derived.Test.YtedgjpoejoepjaaDoorTxt
namespace Go.Proofs.YtedgjpoejoepjaaDoor
open Go.RowKit
set_option linter.unusedVariables false
set_option linter.unusedSimpArgs false

theorem masked_take (k : List UInt8) (x : UInt8) (j : Nat) (hk : k.length ≤ 64) (hj : j < 64) : (Sha.masked k x).take (j + 1) = (Sha.masked k x).take j ++ [(if h : j < k.length then k[j] else 0) ^^^ x] := by
  have e : (Sha.masked k x)[j]? = some ((if h : j < k.length then k[j] else 0) ^^^ x) := by
    unfold Sha.masked Sha.pad64
    rw [List.getElem?_map]
    by_cases h : j < k.length
    · rw [dif_pos h, List.getElem?_append_left h, List.getElem?_eq_getElem h]; rfl
    · rw [dif_neg h, List.getElem?_append_right (by omega), List.getElem?_replicate, if_pos (by omega)]; rfl
  rw [List.take_add_one, e]
  rfl

set_option maxHeartbeats 2000000 in
set_option maxRecDepth 100000 in
theorem padKey_any (k : List UInt8) (x : UInt8) (w : World) (hK : RKLaid w) (hk : k.length ≤ 1099511627776) :
    Calls Tryd.prog 62 #[.string (S k), .int .u8 ((x.toNat : Nat) : Int)] w fun e w' => ∃ v, e = .returned v ∧ w'.ownsRow w.heap.size 5 1 v 64 (BV (Sha.masked (Sha.keyOf k) x)) ∧ Below w.heap.size w w' := by
  obtain ⟨i0, hi, hz0, hz1, hz2⟩ := info_parts byteInfo
  have HI := hide hi
  have HZ0 := hide hz0
  have HZ1 := hide hz1
  have HZ2 := hide hz2
  have HMT := hide (fun j hj => masked_take (Sha.keyOf k) x j (Sha.keyOf_len k) hj)
  have HML := hide (Sha.masked_len (Sha.keyOf k) x (Sha.keyOf_len k))
  generalize hM : Sha.masked (Sha.keyOf k) x = M at *
  have hkl := Sha.keyOf_len k
  have hko : Sha.keyOf k = if 64 < k.length then Sha.sum k else k := rfl
  have HSL := hide (Sha.sum_len k)
  have hby := x.toNat_lt
  have HXX := hide (fun (c : UInt8) => xor_byte c x)
  have hks : (S k).size = k.length := rfl
  clear hM hi hz0 hz1 hz2
  generalize hxb : x.toNat = xb at *
  have HXB := hide hxb
  clear hxb
  generalize hkk : Sha.keyOf k = k' at *
  clear hkk
  have HRS := hide (fun A n c (W : World) hr hn hK => refSum_any A n c k W hr hn hK)
  have HK := hide hK
  clear hK
  by_cases hlong : 64 < k.length
  · rw [if_pos hlong] at hko
    rw [← hko] at HRS HSL
    have hsz : (64 : Int) < (((S k).size : Nat) : Int) := by rw [hks]; omega
    have HB32 := hide (fun (W : World) => bytes32_any k' W HSL.out)
    obtain ⟨A1, c1, w1, hrun, hrd, hb1⟩ := conv_bytes k w
    have HRD := hide hrd
    have HB1 := hide hb1
    have hks' : (S k').size = k'.length := rfl
    clear hko hrd hb1
    go_enter Tryd.func62, Tryd.ntmps62
    go_wp2_with (first
      | (go_at_call 64; refine (HRS.out _ _ _ w1 (by rw [← hks]; exact HRD.out) (by omega) (HK.out.below HB1.out (Nat.le_refl _))).mono ?_; rintro e w2 ⟨rfl, hb2⟩; have HB2 := hide (HB1.out.trans (hb2.mono HB1.out.size)); clear hb2)
      | (go_at_call 63; refine (unhide HB32 w2).mono ?_; rintro e w3 ⟨rfl, hb3⟩; have HB3 := hide (HB2.out.trans (hb3.mono HB2.out.size)); clear hb3))
    have HN := hide (World.ownsRow_nil w3 w.heap.size 5 1)
    have HB := HB3
    clear HB1 HB2 HB3 HRD hrun
    generalize hss : S k' = s at *
    have hsl : s.data.toList = k' := by rw [← hss]; rfl
    have HSS := hide hsl
    clear hsl hss
    go_loopw [6, 7] (fun v i wr => ∃ j : Nat, j ≤ 64 ∧ i = .int .i64 (j : Int) ∧ wr.ownsRow w.heap.size 5 1 v j (BV (M.take j)) ∧ Below w.heap.size w wr) (fun _ i _ => 64 - (intOf i).toNat)
    case atStart => exact ⟨0, Nat.zero_le _, rfl, HN.out, HB.out⟩
    case round =>
      obtain ⟨j, hj, rfl, hown, hb⟩ := hrel
      have hws := hb.size
      by_cases hlt : j < 64
      · have htk := HMT.out j hlt
        have HO := hide hown
        have HBw := hide hb
        clear hown hb
        by_cases hjl : j < k'.length
        · rw [dif_pos hjl] at htk
          have hjs : j < s.size := by omega
          have hgs : k'[j] = s[j] := by
            have h1 : s.data.toList[j]'(by rw [HSS.out]; exact hjl) = k'[j] := by simp only [HSS.out]
            exact h1.symm
          rw [hgs] at htk
          have hxor := HXX.out s[j]
          have hbx := (s[j] ^^^ x).toNat_lt
          have hbs := s[j].toNat_lt
          have j0 : (0 : Int) ≤ (j : Int) := by omega
          have j1 : (j : Int) < (s.size : Int) := by omega
          generalize s[j] ^^^ x = y at *
          generalize M.take j = L at *
          have HTK := hide htk
          clear htk hgs
          go_wp2_with (at_builtin; refine wpList_append_any _ rfl (.tmp 28) (.tmp 32) 51 rfl w.heap.size 5 i0 (.int .u8 0) 1 1 Tryd.underlying51 HI.out HZ0.out HZ1.out HZ2.out rfl (by omega) _ j (BV L) rfl (HO.out.alloc _) _ (some ⟨wr.heap.size, 0, none⟩) 1 1 [.int .u8 (y.toNat : Int)] rfl (reads_new wr _ _) (by simp [Value.oneCell']) (by unfold maxLen; omega) (by omega) (by simp; omega) ?_; intro v2 w2 hown2 hgrow2 hat2; have HO2 := hide hown2; have HB2 := hide ((HBw.out.alloc HBw.out.size _).trans (below_grown hgrow2 (HO.out.alloc _) (by simp; omega))); clear hown2 hgrow2 hat2)
          exact ⟨⟨j + 1, by omega, by go_num, by rw [HTK.out]; exact own_snoc HO2.out rfl, HB2.out⟩, by simp [intOf]; omega⟩
        · rw [dif_neg hjl] at htk
          have hjs : ¬ (j : Int) < (s.size : Int) := by omega
          have hxor := HXX.out 0
          rw [show (((0 : UInt8).toNat : Nat) : Int) = 0 from rfl] at hxor
          have hbx := ((0 : UInt8) ^^^ x).toNat_lt
          generalize (0 : UInt8) ^^^ x = y at *
          generalize M.take j = L at *
          have HTK := hide htk
          clear htk
          go_wp2_with (at_builtin; refine wpList_append_any _ rfl (.tmp 28) (.tmp 32) 51 rfl w.heap.size 5 i0 (.int .u8 0) 1 1 Tryd.underlying51 HI.out HZ0.out HZ1.out HZ2.out rfl (by omega) _ j (BV L) rfl (HO.out.alloc _) _ (some ⟨wr.heap.size, 0, none⟩) 1 1 [.int .u8 (y.toNat : Int)] rfl (reads_new wr _ _) (by simp [Value.oneCell']) (by unfold maxLen; omega) (by omega) (by simp; omega) ?_; intro v2 w2 hown2 hgrow2 hat2; have HO2 := hide hown2; have HB2 := hide ((HBw.out.alloc HBw.out.size _).trans (below_grown hgrow2 (HO.out.alloc _) (by simp; omega))); clear hown2 hgrow2 hat2)
          exact ⟨⟨j + 1, by omega, by go_num, by rw [HTK.out]; exact own_snoc HO2.out rfl, HB2.out⟩, by simp [intOf]; omega⟩
      · obtain rfl : j = 64 := by omega
        rw [List.take_of_length_le (by have := HML.out; omega)] at hown
        have HO := hide hown
        have HBw := hide hb
        clear hown hb
        go_wp2
        go_ret
        exact ⟨_, rfl, HO.out, HBw.out⟩
  · rw [if_neg hlong] at hko
    subst hko
    have hsz : ¬ (64 : Int) < (((S k').size : Nat) : Int) := by rw [hks]; omega
    have hks' : (S k').size = k'.length := rfl
    clear hks
    go_enter Tryd.func62, Tryd.ntmps62
    go_wp2_with fail
    have HN := hide (World.ownsRow_nil w w.heap.size 5 1)
    have HB := hide (Below.refl w.heap.size w)
    generalize hss : S k' = s at *
    have hsl : s.data.toList = k' := by rw [← hss]; rfl
    have HSS := hide hsl
    clear hsl hss
    go_loopw [6, 7] (fun v i wr => ∃ j : Nat, j ≤ 64 ∧ i = .int .i64 (j : Int) ∧ wr.ownsRow w.heap.size 5 1 v j (BV (M.take j)) ∧ Below w.heap.size w wr) (fun _ i _ => 64 - (intOf i).toNat)
    case atStart => exact ⟨0, Nat.zero_le _, rfl, HN.out, HB.out⟩
    case round =>
      obtain ⟨j, hj, rfl, hown, hb⟩ := hrel
      have hws := hb.size
      by_cases hlt : j < 64
      · have htk := HMT.out j hlt
        have HO := hide hown
        have HBw := hide hb
        clear hown hb
        by_cases hjl : j < k'.length
        · rw [dif_pos hjl] at htk
          have hjs : j < s.size := by omega
          have hgs : k'[j] = s[j] := by
            have h1 : s.data.toList[j]'(by rw [HSS.out]; exact hjl) = k'[j] := by simp only [HSS.out]
            exact h1.symm
          rw [hgs] at htk
          have hxor := HXX.out s[j]
          have hbx := (s[j] ^^^ x).toNat_lt
          have hbs := s[j].toNat_lt
          have j0 : (0 : Int) ≤ (j : Int) := by omega
          have j1 : (j : Int) < (s.size : Int) := by omega
          generalize s[j] ^^^ x = y at *
          generalize M.take j = L at *
          have HTK := hide htk
          clear htk hgs
          go_wp2_with (at_builtin; refine wpList_append_any _ rfl (.tmp 28) (.tmp 32) 51 rfl w.heap.size 5 i0 (.int .u8 0) 1 1 Tryd.underlying51 HI.out HZ0.out HZ1.out HZ2.out rfl (by omega) _ j (BV L) rfl (HO.out.alloc _) _ (some ⟨wr.heap.size, 0, none⟩) 1 1 [.int .u8 (y.toNat : Int)] rfl (reads_new wr _ _) (by simp [Value.oneCell']) (by unfold maxLen; omega) (by omega) (by simp; omega) ?_; intro v2 w2 hown2 hgrow2 hat2; have HO2 := hide hown2; have HB2 := hide ((HBw.out.alloc HBw.out.size _).trans (below_grown hgrow2 (HO.out.alloc _) (by simp; omega))); clear hown2 hgrow2 hat2)
          exact ⟨⟨j + 1, by omega, by go_num, by rw [HTK.out]; exact own_snoc HO2.out rfl, HB2.out⟩, by simp [intOf]; omega⟩
        · rw [dif_neg hjl] at htk
          have hjs : ¬ (j : Int) < (s.size : Int) := by omega
          have hxor := HXX.out 0
          rw [show (((0 : UInt8).toNat : Nat) : Int) = 0 from rfl] at hxor
          have hbx := ((0 : UInt8) ^^^ x).toNat_lt
          generalize (0 : UInt8) ^^^ x = y at *
          generalize M.take j = L at *
          have HTK := hide htk
          clear htk
          go_wp2_with (at_builtin; refine wpList_append_any _ rfl (.tmp 28) (.tmp 32) 51 rfl w.heap.size 5 i0 (.int .u8 0) 1 1 Tryd.underlying51 HI.out HZ0.out HZ1.out HZ2.out rfl (by omega) _ j (BV L) rfl (HO.out.alloc _) _ (some ⟨wr.heap.size, 0, none⟩) 1 1 [.int .u8 (y.toNat : Int)] rfl (reads_new wr _ _) (by simp [Value.oneCell']) (by unfold maxLen; omega) (by omega) (by simp; omega) ?_; intro v2 w2 hown2 hgrow2 hat2; have HO2 := hide hown2; have HB2 := hide ((HBw.out.alloc HBw.out.size _).trans (below_grown hgrow2 (HO.out.alloc _) (by simp; omega))); clear hown2 hgrow2 hat2)
          exact ⟨⟨j + 1, by omega, by go_num, by rw [HTK.out]; exact own_snoc HO2.out rfl, HB2.out⟩, by simp [intOf]; omega⟩
      · obtain rfl : j = 64 := by omega
        rw [List.take_of_length_le (by have := HML.out; omega)] at hown
        have HO := hide hown
        have HBw := hide hb
        clear hown hb
        go_wp2
        go_ret
        exact ⟨_, rfl, HO.out, HBw.out⟩
end Go.Proofs.YtedgjpoejoepjaaDoor
