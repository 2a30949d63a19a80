/-
  leaf, by contract, at each of the two function literals that it is called with. By program (gen_leaf.py).
-/
import Derived.Test.YtedgjpoejoepjaaDoorKey
namespace Go.Proofs.YtedgjpoejoepjaaDoor
open Go.RowKit
set_option linter.unusedVariables false
set_option linter.unusedSimpArgs false

theorem cat_one (d : List UInt8) : (Wr.encL Wr.encB [d]).length ≤ 9 + d.length := by
  unfold Wr.encL Wr.encB
  simp only [List.flatMap_cons, List.flatMap_nil, List.append_nil, List.length_append]
  have := Wr.enc_le (d.length : Int)
  omega

set_option maxHeartbeats 2000000 in
set_option maxRecDepth 100000 in
theorem leaf_tree_any (gi gs : Nat) (vals : Nat → List UInt8) (w : World) (hl : ∀ c, c < 68 → (vals c).length = 16) (hK : KLaid w)
    (hf : ∀ (c : Nat) (W : World), c < 68 → Below w.heap.size w W → Calls Tryd.prog 45 #[.int .i64 (c : Int), .pointer (some ⟨gi, 0, none⟩), .pointer (some ⟨gs, 0, none⟩)] W fun e w' => e = .returned (.agg (BV (vals c)).toArray) ∧ Below W.heap.size W w') :
    Calls Tryd.prog 37 #[.func (.func 45) #[] #[.pointer (some ⟨gi, 0, none⟩), .pointer (some ⟨gs, 0, none⟩)]] w fun e w' => e = .returned (.agg (BV (Sg.leafOf vals)).toArray) ∧ Below w.heap.size w w' := by
  obtain ⟨i0, hi, hz0, hz1, hz2⟩ := info_parts byteInfo
  have HI := hide hi
  have HZ0 := hide hz0
  have HZ1 := hide hz1
  have HZ2 := hide hz2
  have HF := hide hf
  have HK := hide hK
  have HL := hide hl
  have hkl := Sg.ofB_len 3 [Sg.cat 68 vals]
  have hll := Sg.leaf_len vals
  have hcl := Sg.cat_len vals 68 hl
  have CK := hide (fun A n c (W : World) hr hK => ofD_any 3 A n c [Sg.cat 68 vals] W hr (by have := hr.1; simp at this; omega) (by have := cat_one (Sg.cat 68 vals); omega) hK)
  have CL := hide (fun A n c (W : World) hr hK => ofD_any 1 A n c [Sg.ofB 3 [Sg.cat 68 vals]] W hr (by have := hr.1; simp at this; omega) (by have := cat_one (Sg.ofB 3 [Sg.cat 68 vals]); omega) hK)
  have hlo : Sg.ofB 1 [Sg.ofB 3 [Sg.cat 68 vals]] = Sg.leafOf vals := rfl
  rw [hlo] at CL
  generalize Sg.leafOf vals = L at *
  generalize Sg.ofB 3 [Sg.cat 68 vals] = KEY at *
  have HKL := hide hkl
  have HLL := hide hll
  have hzs := zero16
  clear hi hz0 hz1 hz2 hf hK hl hkl hll hcl hlo
  go_enter Tryd.func37, Tryd.ntmps37
  go_upto_region 1 with fail
  refine name_world fun V hV => ?_
  have D2 := hide (show Dig V w.heap.size Z16 by rw [← hV.out]; exact Dig.new w Z16 rfl)
  have HV := hide (show Below w.heap.size w V by rw [← hV.out]; exact (Below.refl _ _).alloc (Nat.le_refl _) _)
  have hVs : w.heap.size < V.heap.size := by rw [← hV.out]; simp
  clear hV
  go_upto_region 3 with (at_make; refine wpList_make_own _ rfl _ _ 51 rfl V.heap.size 5 i0 (.int .u8 0) 1 Tryd.underlying51 HI.out HZ0.out HZ1.out _ _ _ 1088 rfl rfl (by omega) (by rw [HZ2.out]; omega) (by unfold maxLen; omega) (Nat.le_refl _) ?_; intro w1 hown1 hgrow1)
  have HO1 := hide (show w1.ownsRow V.heap.size 5 1 (.slice (some ⟨V.heap.size, 0, none⟩) 0 1088) (16 * 0) (BV (Sg.cat 0 vals)) from hown1)
  have HB1 := hide (show Below V.heap.size V w1 from (Below.refl _ _).grown hgrow1 (Nat.le_refl _) (by simp))
  have E2 := hide (D2.out.below HB1.out D2.out.2.lt)
  have HW1 := hide (HV.out.trans (HB1.out.mono HV.out.size))
  have hb1s := HB1.out.size
  clear hown1 hgrow1 D2 HB1
  go_loopw [3, 8] (fun s3 s8 wr => ∃ j : Nat, j ≤ 68 ∧ s8 = .int .i64 (j : Int) ∧ wr.ownsRow V.heap.size 5 1 s3 (16 * j) (BV (Sg.cat j vals)) ∧ Dig wr w.heap.size Z16 ∧ Below w.heap.size w wr ∧ V.heap.size ≤ wr.heap.size) (fun _ s8 _ => 68 - (intOf s8).toNat)
  case atStart => exact ⟨0, by omega, rfl, HO1.out, E2.out, HW1.out, hb1s⟩
  case round =>
    obtain ⟨j, hj, rfl, hown, hD2, hbel, hsz⟩ := hrel
    obtain ⟨wd, rfl⟩ : ∃ wd, wd = wr := ⟨wr, rfl⟩
    by_cases hlt : j < 68
    · have CF := hide (fun (W : World) (hb : Below w.heap.size w W) => HF.out j W hlt hb)
      have hvl := HL.out j hlt
      have hcat := Sg.cat_succ j vals
      have htest : (j : Int) < 68 := by omega
      generalize hvj : vals j = vj at *
      have HVL := hide hvl
      have HCAT := hide hcat
      have HO := hide hown
      have HD := hide hD2
      have HB := hide hbel
      have hlw := HD.out.2.lt
      clear hvl hcat hvj hown hD2 hbel
      generalize Sg.cat j vals = cur at *
      go_upto_region 7 with (first
        | (go_at_call 45; refine (unhide CF wd HB.out).mono ?_; rintro e x1 ⟨rfl, hb1⟩; have HX1 := hide hb1; clear hb1)
        | (with_reducible refine wpList_store_dig rfl (.tmp 5) (.tmp 13) rfl x1.heap.size Z16 vj rfl rfl (Dig.new x1 Z16 rfl) HVL.out ?_; intro U hU; have HU := hide (show Below wd.heap.size wd U from below_row (HX1.out.alloc HX1.out.size _) HX1.out.size hU); have D5 := hide ((Dig.new x1 Z16 rfl).put HVL.out hU); have HOU := hide (own_below HO.out HU.out); have hUs := HU.out.size; clear hU)
        | (at_builtin; refine wpList_append_any _ rfl (.tmp 14) (.tmp 15) 51 rfl V.heap.size 5 i0 (.int .u8 0) 1 1 Tryd.underlying51 HI.out HZ0.out HZ1.out HZ2.out rfl (by omega) _ (16 * j) (BV cur) rfl HOU.out _ (some ⟨x1.heap.size, 0, none⟩) 16 16 (BV vj) rfl D5.out.reads (BV_one vj) (by unfold maxLen; omega) (by omega) (by omega) ?_; intro v2 w2 hown2 hgrow2 hat2))
      have HO2 := hide (show w2.ownsRow V.heap.size 5 1 v2 (16 * (j + 1)) (BV (Sg.cat (j + 1) vals)) by rw [HCAT.out, BV_append, show 16 * (j + 1) = 16 * j + 16 by omega]; exact hown2)
      have HG2 := hide (show Below V.heap.size U w2 from below_grown hgrow2 HOU.out (by omega))
      have HDU := hide ((HD.out.below HU.out hlw).below HG2.out (by omega))
      have HB2 := hide ((HB.out.trans (HU.out.mono HB.out.size)).trans (HG2.out.mono (by omega)))
      have hs2 := HG2.out.size
      clear hown2 hgrow2 hat2
      go_wp2
      exact ⟨⟨j + 1, by omega, by go_num, HO2.out, HDU.out, HB2.out, by omega⟩, by simp [intOf]; omega⟩
    · obtain rfl : j = 68 := by omega
      generalize hcc : Sg.cat 68 vals = cur at *
      have hcv := conv_own hown (Below.refl wd.heap.size wd)
      have HD := hide hD2
      have HB := hide hbel
      have hlw := hD2.2.lt
      clear hown hD2 hbel hcc HF HL
      go_wp2_with (first
        | (go_at_call_of 33 (Value.int .i64 3); refine (CK.out _ _ _ _ (reads_block wd [VS cur] 9 1 rfl) (HK.out.below (HB.out.alloc HB.out.size _) (Nat.le_refl _))).mono ?_; rintro e x1 ⟨rfl, hb1⟩; have HX1 := hide (from_here ((Below.refl wd.heap.size wd).alloc (Nat.le_refl _) _) hb1); clear hb1)
        | (go_at_call_of 33 (Value.int .i64 1); refine (CL.out _ _ _ _ (reads_block U [VS KEY] 9 1 rfl) (HK.out.below ((HB.out.trans (HU.out.mono HB.out.size)).alloc (Nat.le_trans HB.out.size HU.out.size) _) (Nat.le_refl _))).mono ?_; rintro e x2 ⟨rfl, hb2⟩; have HX2 := hide (from_here (HU.out.alloc HU.out.size _) (show Below (U.alloc _).heap.size (U.alloc _) x2 from hb2)); clear hb2)
        | (with_reducible refine wpList_store_dig rfl (.tmp 6) (.tmp 21) rfl x1.heap.size Z16 KEY rfl rfl (Dig.new x1 Z16 rfl) HKL.out ?_; intro U hU; have HU := hide (show Below wd.heap.size wd U from below_row (HX1.out.alloc HX1.out.size _) HX1.out.size hU); have htx := ((Dig.new x1 Z16 rfl).put HKL.out hU).text; clear hU)
        | (with_reducible refine wpList_store_dig rfl (.tmp 2) (.tmp 25) rfl w.heap.size Z16 L rfl rfl (HD.out.below HX2.out hlw) HLL.out ?_; intro Y hY))
      exact bodyPost_ret (v := .agg (BV L).toArray) (ret_dig Tryd.results37 _ rfl ((HD.out.below HX2.out hlw).put HLL.out hY)) rfl ⟨rfl, below_row (HB.out.trans (HX2.out.mono HB.out.size)) (Nat.le_refl _) hY⟩

set_option maxHeartbeats 2000000 in
set_option maxRecDepth 100000 in
theorem leaf_ver_any (gi gr gd : Nat) (vals : Nat → List UInt8) (w : World) (hl : ∀ c, c < 68 → (vals c).length = 16) (hK : KLaid w)
    (hf : ∀ (c : Nat) (W : World), c < 68 → Below w.heap.size w W → Calls Tryd.prog 38 #[.int .i64 (c : Int), .pointer (some ⟨gi, 0, none⟩), .pointer (some ⟨gr, 0, none⟩), .pointer (some ⟨gd, 0, none⟩)] W fun e w' => e = .returned (.agg (BV (vals c)).toArray) ∧ Below W.heap.size W w') :
    Calls Tryd.prog 37 #[.func (.func 38) #[] #[.pointer (some ⟨gi, 0, none⟩), .pointer (some ⟨gr, 0, none⟩), .pointer (some ⟨gd, 0, none⟩)]] w fun e w' => e = .returned (.agg (BV (Sg.leafOf vals)).toArray) ∧ Below w.heap.size w w' := by
  obtain ⟨i0, hi, hz0, hz1, hz2⟩ := info_parts byteInfo
  have HI := hide hi
  have HZ0 := hide hz0
  have HZ1 := hide hz1
  have HZ2 := hide hz2
  have HF := hide hf
  have HK := hide hK
  have HL := hide hl
  have hkl := Sg.ofB_len 3 [Sg.cat 68 vals]
  have hll := Sg.leaf_len vals
  have hcl := Sg.cat_len vals 68 hl
  have CK := hide (fun A n c (W : World) hr hK => ofD_any 3 A n c [Sg.cat 68 vals] W hr (by have := hr.1; simp at this; omega) (by have := cat_one (Sg.cat 68 vals); omega) hK)
  have CL := hide (fun A n c (W : World) hr hK => ofD_any 1 A n c [Sg.ofB 3 [Sg.cat 68 vals]] W hr (by have := hr.1; simp at this; omega) (by have := cat_one (Sg.ofB 3 [Sg.cat 68 vals]); omega) hK)
  have hlo : Sg.ofB 1 [Sg.ofB 3 [Sg.cat 68 vals]] = Sg.leafOf vals := rfl
  rw [hlo] at CL
  generalize Sg.leafOf vals = L at *
  generalize Sg.ofB 3 [Sg.cat 68 vals] = KEY at *
  have HKL := hide hkl
  have HLL := hide hll
  have hzs := zero16
  clear hi hz0 hz1 hz2 hf hK hl hkl hll hcl hlo
  go_enter Tryd.func37, Tryd.ntmps37
  go_upto_region 1 with fail
  refine name_world fun V hV => ?_
  have D2 := hide (show Dig V w.heap.size Z16 by rw [← hV.out]; exact Dig.new w Z16 rfl)
  have HV := hide (show Below w.heap.size w V by rw [← hV.out]; exact (Below.refl _ _).alloc (Nat.le_refl _) _)
  have hVs : w.heap.size < V.heap.size := by rw [← hV.out]; simp
  clear hV
  go_upto_region 3 with (at_make; refine wpList_make_own _ rfl _ _ 51 rfl V.heap.size 5 i0 (.int .u8 0) 1 Tryd.underlying51 HI.out HZ0.out HZ1.out _ _ _ 1088 rfl rfl (by omega) (by rw [HZ2.out]; omega) (by unfold maxLen; omega) (Nat.le_refl _) ?_; intro w1 hown1 hgrow1)
  have HO1 := hide (show w1.ownsRow V.heap.size 5 1 (.slice (some ⟨V.heap.size, 0, none⟩) 0 1088) (16 * 0) (BV (Sg.cat 0 vals)) from hown1)
  have HB1 := hide (show Below V.heap.size V w1 from (Below.refl _ _).grown hgrow1 (Nat.le_refl _) (by simp))
  have E2 := hide (D2.out.below HB1.out D2.out.2.lt)
  have HW1 := hide (HV.out.trans (HB1.out.mono HV.out.size))
  have hb1s := HB1.out.size
  clear hown1 hgrow1 D2 HB1
  go_loopw [3, 8] (fun s3 s8 wr => ∃ j : Nat, j ≤ 68 ∧ s8 = .int .i64 (j : Int) ∧ wr.ownsRow V.heap.size 5 1 s3 (16 * j) (BV (Sg.cat j vals)) ∧ Dig wr w.heap.size Z16 ∧ Below w.heap.size w wr ∧ V.heap.size ≤ wr.heap.size) (fun _ s8 _ => 68 - (intOf s8).toNat)
  case atStart => exact ⟨0, by omega, rfl, HO1.out, E2.out, HW1.out, hb1s⟩
  case round =>
    obtain ⟨j, hj, rfl, hown, hD2, hbel, hsz⟩ := hrel
    obtain ⟨wd, rfl⟩ : ∃ wd, wd = wr := ⟨wr, rfl⟩
    by_cases hlt : j < 68
    · have CF := hide (fun (W : World) (hb : Below w.heap.size w W) => HF.out j W hlt hb)
      have hvl := HL.out j hlt
      have hcat := Sg.cat_succ j vals
      have htest : (j : Int) < 68 := by omega
      generalize hvj : vals j = vj at *
      have HVL := hide hvl
      have HCAT := hide hcat
      have HO := hide hown
      have HD := hide hD2
      have HB := hide hbel
      have hlw := HD.out.2.lt
      clear hvl hcat hvj hown hD2 hbel
      generalize Sg.cat j vals = cur at *
      go_upto_region 7 with (first
        | (go_at_call 38; refine (unhide CF wd HB.out).mono ?_; rintro e x1 ⟨rfl, hb1⟩; have HX1 := hide hb1; clear hb1)
        | (with_reducible refine wpList_store_dig rfl (.tmp 5) (.tmp 13) rfl x1.heap.size Z16 vj rfl rfl (Dig.new x1 Z16 rfl) HVL.out ?_; intro U hU; have HU := hide (show Below wd.heap.size wd U from below_row (HX1.out.alloc HX1.out.size _) HX1.out.size hU); have D5 := hide ((Dig.new x1 Z16 rfl).put HVL.out hU); have HOU := hide (own_below HO.out HU.out); have hUs := HU.out.size; clear hU)
        | (at_builtin; refine wpList_append_any _ rfl (.tmp 14) (.tmp 15) 51 rfl V.heap.size 5 i0 (.int .u8 0) 1 1 Tryd.underlying51 HI.out HZ0.out HZ1.out HZ2.out rfl (by omega) _ (16 * j) (BV cur) rfl HOU.out _ (some ⟨x1.heap.size, 0, none⟩) 16 16 (BV vj) rfl D5.out.reads (BV_one vj) (by unfold maxLen; omega) (by omega) (by omega) ?_; intro v2 w2 hown2 hgrow2 hat2))
      have HO2 := hide (show w2.ownsRow V.heap.size 5 1 v2 (16 * (j + 1)) (BV (Sg.cat (j + 1) vals)) by rw [HCAT.out, BV_append, show 16 * (j + 1) = 16 * j + 16 by omega]; exact hown2)
      have HG2 := hide (show Below V.heap.size U w2 from below_grown hgrow2 HOU.out (by omega))
      have HDU := hide ((HD.out.below HU.out hlw).below HG2.out (by omega))
      have HB2 := hide ((HB.out.trans (HU.out.mono HB.out.size)).trans (HG2.out.mono (by omega)))
      have hs2 := HG2.out.size
      clear hown2 hgrow2 hat2
      go_wp2
      exact ⟨⟨j + 1, by omega, by go_num, HO2.out, HDU.out, HB2.out, by omega⟩, by simp [intOf]; omega⟩
    · obtain rfl : j = 68 := by omega
      generalize hcc : Sg.cat 68 vals = cur at *
      have hcv := conv_own hown (Below.refl wd.heap.size wd)
      have HD := hide hD2
      have HB := hide hbel
      have hlw := hD2.2.lt
      clear hown hD2 hbel hcc HF HL
      go_wp2_with (first
        | (go_at_call_of 33 (Value.int .i64 3); refine (CK.out _ _ _ _ (reads_block wd [VS cur] 9 1 rfl) (HK.out.below (HB.out.alloc HB.out.size _) (Nat.le_refl _))).mono ?_; rintro e x1 ⟨rfl, hb1⟩; have HX1 := hide (from_here ((Below.refl wd.heap.size wd).alloc (Nat.le_refl _) _) hb1); clear hb1)
        | (go_at_call_of 33 (Value.int .i64 1); refine (CL.out _ _ _ _ (reads_block U [VS KEY] 9 1 rfl) (HK.out.below ((HB.out.trans (HU.out.mono HB.out.size)).alloc (Nat.le_trans HB.out.size HU.out.size) _) (Nat.le_refl _))).mono ?_; rintro e x2 ⟨rfl, hb2⟩; have HX2 := hide (from_here (HU.out.alloc HU.out.size _) (show Below (U.alloc _).heap.size (U.alloc _) x2 from hb2)); clear hb2)
        | (with_reducible refine wpList_store_dig rfl (.tmp 6) (.tmp 21) rfl x1.heap.size Z16 KEY rfl rfl (Dig.new x1 Z16 rfl) HKL.out ?_; intro U hU; have HU := hide (show Below wd.heap.size wd U from below_row (HX1.out.alloc HX1.out.size _) HX1.out.size hU); have htx := ((Dig.new x1 Z16 rfl).put HKL.out hU).text; clear hU)
        | (with_reducible refine wpList_store_dig rfl (.tmp 2) (.tmp 25) rfl w.heap.size Z16 L rfl rfl (HD.out.below HX2.out hlw) HLL.out ?_; intro Y hY))
      exact bodyPost_ret (v := .agg (BV L).toArray) (ret_dig Tryd.results37 _ rfl ((HD.out.below HX2.out hlw).put HLL.out hY)) rfl ⟨rfl, below_row (HB.out.trans (HX2.out.mono HB.out.size)) (Nat.le_refl _) hY⟩
end Go.Proofs.YtedgjpoejoepjaaDoor
