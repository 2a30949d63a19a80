/-
  The digest of an input, by the reference: by contract.
-/
import Derived.Test.YtedgjpoejoepjaaDoorInput
namespace Go.Proofs.YtedgjpoejoepjaaDoor
open Go.RowKit
set_option linter.unusedVariables false
set_option linter.unusedSimpArgs false

/-- sixteen zero bytes -/
def Z16 : List UInt8 := List.replicate 16 0
theorem zero16 (W : World) : (zeroValue 23).run Tryd.prog W = .ok (.agg (BV Z16).toArray) W := by kernel_rfl
theorem size16 : (Tryd.prog.info? 23).map (·.size) = some 16 := by kernel_rfl
theorem built16 : Tryd.prog.built 23 [] = some (BV Z16).toArray := by kernel_rfl
theorem bytes_set16 (D : List UInt8) (k : Nat) (hD : 16 ≤ D.length) (hk : k < 16) (x : UInt8) (hx : D[k]? = some x) : (BV (D.take k ++ Z16.drop k)).set k (.int .u8 (x.toNat : Int)) = BV (D.take (k + 1) ++ Z16.drop (k + 1)) := by
  have e : (BV (D.take k ++ Z16.drop k)).set k (.int .u8 (x.toNat : Int)) = BV ((D.take k ++ Z16.drop k).set k x) := by simp [BV, List.map_set]
  have hz : Z16.length = 16 := rfl
  have hl : (D.take k).length = k := by rw [List.length_take]; omega
  have hx' : D[k]'(by omega) = x := by rw [List.getElem?_eq_getElem (by omega)] at hx; injection hx
  rw [e, List.set_append_right _ _ (by omega), hl, Nat.sub_self, List.drop_eq_getElem_cons (by omega : k < Z16.length), List.set_cons_zero, List.take_succ_eq_append_getElem (by omega : k < D.length), List.append_assoc, hx']
  rfl
theorem zero_at16 {w : World} {g : Nat} {t : TypeId} {D : List UInt8} {k : Nat} (hB : Blk w g t (BV (D.take k ++ Z16.drop k)).toArray) (hD : 16 ≤ D.length) (hk : k < 16) : w.cell? ⟨g, k, none⟩ = some (.int .u8 0) := by
  have hl : (D.take k).length = k := by rw [List.length_take]; omega
  have hz : Z16.drop k = List.replicate (16 - k) 0 := by unfold Z16; rw [List.drop_replicate]
  rw [hB.cell, List.getElem?_toArray, BV_append, List.getElem?_append_right (by rw [BV_len, hl]; omega), BV_len, hl, Nat.sub_self, hz, BV_zeros, List.getElem?_replicate, if_pos (by omega)]

set_option maxHeartbeats 1000000 in
set_option maxRecDepth 100000 in
theorem short_any (A : Option Addr) (n c : Nat) (l : List UInt8) (w : World) (hr : Reads w w.heap.size 1 A n (BV l)) (hn : n ≤ 1099511627776) (hK : RKLaid w) :
    Calls Tryd.prog 56 #[.slice A n c] w fun e w' => e = .returned (.agg (BV ((Sha.sum l).take 16)).toArray) ∧ Below w.heap.size w w' := by
  have HSU := hide (fun (W : World) hr hK => refSum_any A n c l W hr hn hK)
  have hdl := Sha.sum_len l
  generalize Sha.sum l = D at *
  have HDL := hide hdl
  have HR := hide hr
  have HK := hide hK
  have hzs := zero16
  have hb16 := built16
  clear hdl hr hK
  generalize hzz : (BV Z16).toArray = zz at *
  have HZZ := hide hzz
  have hzz16 : zz.size = 16 := by rw [← hzz]; rfl
  have hzzone : zz.all (fun v => v.oneCell') = true := by rw [← hzz]; exact all_oneCell_toArray (BV_one Z16)
  have HZZ16 := hide hzz16
  have HZ1 := hide hzzone
  clear hzz hzz16 hzzone
  go_enter Tryd.func56, Tryd.ntmps56
  go_upto_region 1 with fail
  refine name_world fun W hW => ?_
  have B0 := hide (show Blk W w.heap.size 23 zz by rw [← hW.out]; exact Blk.new w _ _)
  have HW := hide (show Below w.heap.size w W by rw [← hW.out]; exact (Below.refl _ _).alloc (Nat.le_refl _) _)
  have hws : w.heap.size < W.heap.size := by rw [← hW.out]; simp
  clear hW
  go_upto_region 2 with (first
    | (go_at_call 64; refine (unhide HSU W ((HR.out.below HW.out).more HW.out.size) (HK.out.below HW.out (Nat.le_refl _))).mono ?_; rintro e w1 ⟨rfl, hb1⟩; have HB1 := hide hb1; clear hb1)
    | (with_reducible refine wpList_store_row rfl 84 (.tmp 3) (.tmp 7) rfl w1.heap.size (BV D).toArray rfl rfl 84 _ (heap_alloc_new w1 _) ?p1 ?p2 ?p3 ?_))
  case p1 => first | (rw [List.size_toArray, BV_len, HDL.out]; exact size32) | (rw [BV_len, HDL.out]; exact Option.map_eq_some_iff.1 size32)
  case p2 => first | (rw [show (BV D).toArray.size = 32 by rw [List.size_toArray, BV_len, HDL.out]]; rfl) | (rw [BV_len D, HDL.out]; rfl)
  case p3 => first | exact all_oneCell_toArray (BV_one D) | exact BV_one D
  rw [World.setRow_alloc_new]
  refine name_world fun X hX => ?_
  have hb1 := HB1.out
  have hs1 := hb1.size
  have C0 := hide (show Blk X w.heap.size 23 zz by rw [← hX.out]; exact (B0.out.below hb1 hws).alloc _)
  have C3 := hide (show Blk X w1.heap.size 84 (BV D).toArray by rw [← hX.out]; exact Blk.new w1 _ _)
  have HX := hide (show Below w.heap.size w X by rw [← hX.out]; exact (HW.out.trans (hb1.mono (by omega))).alloc (by omega) _)
  have hg3 : w.heap.size < w1.heap.size := by omega
  have hXs : w1.heap.size < X.heap.size := by rw [← hX.out]; simp
  clear hX hb1 hs1 HB1
  generalize w1.heap.size = g3 at *
  have HB16 := hide hb16
  clear hb16
  go_upto_region 3 with (first
    | (with_reducible refine wpList_build rfl 23 #[] rfl ?b1 ?_)
    | (with_reducible refine wpList_store_row rfl 23 (.tmp 4) (.tmp 8) rfl X.heap.size zz rfl ?b2 23 _ (heap_alloc_new X _) ?p1 ?p2 ?p3 ?_))
  case b1 => rw [HB16.out]; rfl
  case b2 => rw [HB16.out]; rfl
  case p1 => rw [HZZ16.out]; exact size16
  case p2 => first | (rw [HZZ16.out]; rfl) | rfl
  case p3 => exact HZ1.out
  rw [World.setRow_alloc_new]
  refine name_world fun V hV => ?_
  have D0 := hide (show Blk V w.heap.size 23 zz by rw [← hV.out]; exact C0.out.alloc _)
  have D3 := hide (show Blk V g3 84 (BV D).toArray by rw [← hV.out]; exact C3.out.alloc _)
  have D4 := hide (show Blk V X.heap.size 23 (BV (D.take 0 ++ Z16.drop 0)).toArray by rw [← hV.out, ← HZZ.out]; exact Blk.new X _ _)
  have HV := hide (show Below w.heap.size w V by rw [← hV.out]; exact HX.out.alloc HX.out.size _)
  clear hV
  generalize X.heap.size = g4 at *
  go_wp2_with fail
  go_loopw [5] (fun i wr => ∃ k : Nat, k ≤ 16 ∧ i = .int .i64 (k : Int) ∧ Blk wr g4 23 (BV (D.take k ++ Z16.drop k)).toArray ∧ Blk wr g3 84 (BV D).toArray ∧ Blk wr w.heap.size 23 zz ∧ Below w.heap.size w wr) (fun i _ => 16 - (intOf i).toNat)
  case atStart => exact ⟨0, Nat.zero_le _, rfl, D4.out, D3.out, D0.out, HV.out⟩
  case round =>
    obtain ⟨k, hk, rfl, hB4, hB3, hB0, hbel⟩ := hrel
    by_cases hlt : k < 16
    · have hkD : k < D.length := by have := HDL.out; omega
      have hc := blk_BV hB3 k hkD
      have hct := zero_at16 hB4 (by have := HDL.out; omega) hlt
      have hfr := hB4.frozen k
      have hset := bytes_set16 D k (by have := HDL.out; omega) hlt D[k] (List.getElem?_eq_getElem hkD)
      generalize D[k] = x at *
      have hby := x.toNat_lt
      have HSET := hide hset
      have H4 := hide hB4
      have H3 := hide hB3
      have H0 := hide hB0
      have HB := hide hbel
      have k0 : (0 : Int) ≤ (k : Int) := by omega
      have k6 : (k : Int) < 16 := by omega
      clear hB4 hB3 hB0 hbel hset
      go_wp2
      refine ⟨⟨k + 1, by omega, by go_num, ?_, ?_, ?_, ?_⟩, by simp [intOf]; omega⟩
      · have := H4.out.set_ k (.int .u8 ((x.toNat : Nat) : Int))
        rwa [List.setIfInBounds_toArray, HSET.out] at this
      · exact H3.out.far (by show g3 ≠ g4; omega) _
      · exact H0.out.far (by show w.heap.size ≠ g4; omega) _
      · exact HB.out.setCell (by show w.heap.size ≤ g4; omega) _
    · obtain rfl : k = 16 := by omega
      rw [List.drop_eq_nil_of_le (by simp [Z16]), List.append_nil] at hB4
      have hlen : (BV (D.take 16)).length = 16 := by rw [BV_len, List.length_take]; have := HDL.out; omega
      have hone := BV_one (D.take 16)
      generalize hout : BV (D.take 16) = out at *
      have HOUT := hide hout
      have HLN := hide hlen
      have H1' := hide hone
      have E5 := hide (show wr.heap[g4]? = some (.cells out.toArray 23 (0, 0)) from hB4)
      have E2 := hide (show wr.heap[w.heap.size]? = some (.cells zz 23 (0, 0)) from hB0)
      have HBe := hide hbel
      clear hB4 hB3 hB0 hbel hlen hone hout
      go_wp2_with (first | (with_reducible refine wpList_load_row rfl 23 (.tmp 4) rfl g4 rfl 23 out.toArray (0, 0) _ E5.out Tryd.underlying23 rfl ?f9 ?_) | (with_reducible refine wpList_store_row rfl 23 (.tmp 2) (.tmp 18) rfl w.heap.size out.toArray rfl rfl 23 _ E2.out ?g9 ?g8 ?ga ?_))
      case f9 => first | (rw [List.size_toArray, HLN.out]; exact size16) | (rw [HLN.out]; exact Option.map_eq_some_iff.1 size16)
      case g9 => first | (rw [List.size_toArray, HLN.out]; exact size16) | (rw [HLN.out]; exact Option.map_eq_some_iff.1 size16)
      case g8 => first | (rw [HZZ16.out, List.size_toArray, HLN.out]) | (rw [HZZ16.out, HLN.out])
      case ga => first | exact all_oneCell_toArray H1'.out | exact H1'.out
      have hload : (loadVar 23 ⟨w.heap.size, 0, none⟩).run Tryd.prog (wr.setRow w.heap.size out.toArray) = .ok (.agg out.toArray) (wr.setRow w.heap.size out.toArray) :=
        run_loadVar_row _ _ _ _ _ _ _ (setRow_heap wr w.heap.size _ out.toArray _ _ E2.out) Tryd.underlying23 rfl (by rw [List.size_toArray, HLN.out]; exact size16)
      exact bodyPost_ret (v := .agg out.toArray) (results_cell0 Tryd.results56 _ _ ⟨w.heap.size, 0, none⟩ _ rfl hload) rfl ⟨by rw [HOUT.out], below_setRow HBe.out (Nat.le_refl _) _⟩

/-- the digest of an input -/
def digestOf (l : List UInt8) : List UInt8 := (Sha.sum l).take 16
theorem digestOf_len (l : List UInt8) : (digestOf l).length = 16 := by unfold digestOf; rw [List.length_take, Sha.sum_len]; rfl

set_option maxHeartbeats 1000000 in
set_option maxRecDepth 100000 in
theorem refOf_any (z : Int) (A : Option Addr) (n c : Nat) (xs : List (List UInt8)) (w : World) (hr : Reads w w.heap.size 1 A n (xs.map VS)) (hm : n ≤ 1048576) (hbig : (Wr.encL Wr.encB xs).length ≤ 1099511627700) (hK : RKLaid w) :
    Calls Tryd.prog 34 #[.int .i64 z, .slice A n c] w fun e w' => e = .returned (.agg (BV (digestOf (inputOf z xs))).toArray) ∧ Below w.heap.size w w' := by
  have CI := hide (fun (W : World) hr => input_any z A n c xs W hr hm hbig)
  have hil : (inputOf z xs).length ≤ 1099511627776 := by unfold inputOf; simp; omega
  have CS := hide (fun (A : Option Addr) n c (W : World) hr hn hK => short_any A n c (inputOf z xs) W hr hn hK)
  have hdl := digestOf_len (inputOf z xs)
  have hdd : digestOf (inputOf z xs) = (Sha.sum (inputOf z xs)).take 16 := rfl
  rw [← hdd] at CS
  generalize digestOf (inputOf z xs) = D at *
  generalize inputOf z xs = I at *
  have HDL := hide (show (BV D).length = 16 by rw [BV_len, hdl])
  have H1 := hide (BV_one D)
  have HR := hide hr
  have HK := hide hK
  have hzs := zero16
  clear hdl hr hK hdd
  generalize hout : BV D = out at *
  generalize hzz : (BV Z16).toArray = zz at *
  have hzz16 : zz.size = 16 := by rw [← hzz]; rfl
  have HZZ16 := hide hzz16
  clear hzz hzz16 hout
  go_enter Tryd.func34, Tryd.ntmps34
  go_upto_region 1 with fail
  refine name_world fun W hW => ?_
  have B0 := hide (show Blk W w.heap.size 23 zz by rw [← hW.out]; exact Blk.new w _ _)
  have HW := hide (show Below w.heap.size w W by rw [← hW.out]; exact (Below.refl _ _).alloc (Nat.le_refl _) _)
  have hws : w.heap.size < W.heap.size := by rw [← hW.out]; simp
  clear hW
  go_wp2_with fail
  refine (unhide CI W ((HR.out.below HW.out).more HW.out.size)).mono ?_
  rintro e w1 ⟨v1, rfl, hown1, hb1⟩
  have HO1 := hide hown1
  have HB1 := hide (HW.out.trans (hb1.mono HW.out.size))
  have D1 := hide (B0.out.below hb1 hws)
  have hs1 := hb1.size
  clear hown1 hb1
  obtain ⟨A1, c1, rfl, _, _⟩ := own_slice HO1.out
  go_wp2_with fail
  refine (unhide CS A1 _ c1 w1 (Reads.of_own HO1.out) hil (HK.out.below HB1.out (Nat.le_refl _))).mono ?_
  rintro e w2 ⟨rfl, hb2⟩
  have HB2 := hide (HB1.out.trans (hb2.mono HB1.out.size))
  have D2 := hide (show w2.heap[w.heap.size]? = some (.cells zz 23 (0, 0)) from D1.out.below hb2 (by omega))
  clear hb2
  go_wp2_with (with_reducible refine wpList_store_row rfl 23 (.tmp 4) (.tmp 8) rfl w.heap.size out.toArray rfl rfl 23 _ D2.out ?g9 ?g8 ?ga ?_)
  case g9 => first | (rw [List.size_toArray, HDL.out]; exact size16) | (rw [HDL.out]; exact Option.map_eq_some_iff.1 size16)
  case g8 => first | (rw [HZZ16.out, List.size_toArray, HDL.out]) | (rw [HZZ16.out, HDL.out])
  case ga => first | exact all_oneCell_toArray H1.out | exact H1.out
  have hload : (loadVar 23 ⟨w.heap.size, 0, none⟩).run Tryd.prog (w2.setRow w.heap.size out.toArray) = .ok (.agg out.toArray) (w2.setRow w.heap.size out.toArray) :=
    run_loadVar_row _ _ _ _ _ _ _ (setRow_heap w2 w.heap.size _ out.toArray _ _ D2.out) Tryd.underlying23 rfl (by rw [List.size_toArray, HDL.out]; exact size16)
  exact bodyPost_ret (v := .agg out.toArray) (results_cell0 Tryd.results34 _ _ ⟨w.heap.size, 0, none⟩ _ rfl hload) rfl ⟨rfl, below_setRow HB2.out (Nat.le_refl _) _⟩
end Go.Proofs.YtedgjpoejoepjaaDoor
