/-
  The input of a digest of parts, and its digest, by the reference: by contract.
-/
import Derived.Test.YtjnnohghgkjhcaaDoorM15
import Derived.StillTailTactics
import Derived.Test.YtjnnohghgkjhcaaDoorM14
import Derived.Test.YtjnnohghgkjhcaaDoorM7
import Derived.Test.YtjnnohghgkjhcaaDoorM6
import Derived.Test.YtjnnohghgkjhcaaDoorM9
import Derived.Test.YtjnnohghgkjhcaaDoorM13
import Derived.Test.YtjnnohghgkjhcaaDoorM11
import Derived.Test.YtjnnohghgkjhcaaDoorM2
import Derived.WalkKit
import Derived.ProofKit
import Derived.OpenShut
import Derived.JoinedCond
import Derived.Carry
import Derived.WideKeyArgs
import Derived.SliceStrings
import Derived.ChangeMaps5
import Derived.Deep.Slices
import Derived.SizedLaws
import Derived.Deep.CondSized
import Derived.Test.YtjnnohghgkjhcaaDoorRows
import Derived.LaidMore
import Derived.Stop.Joined
import Derived.Test.YtjnnohghgkjhcaaDoorM5
import Derived.Deep.QuietTactic
import Derived.BigQuiet
namespace Go.Proofs.YtjnnohghgkjhcaaDoor
open Go.RowKit
set_option linter.unusedVariables false
set_option linter.unusedSimpArgs false
def tagB (z : Int) : UInt8 := UInt8.ofNat (z % 256).toNat
theorem tagB_is (z : Int) : IntKind.u8.wrap z = ((tagB z).toNat : Int) := by
 rw [IntKind.wrap_u8']
 unfold tagB
 rw [UInt8.toNat_ofNat']
 omega
def inputOf (z : Int) (xs : List (List UInt8)) : List UInt8 := tagB z :: Wr.encL Wr.encB xs
set_option maxHeartbeats 1000000 in
set_option maxRecDepth 100000 in
theorem input_any (z : Int) (A : Option Addr) (n c : Nat) (xs : List (List UInt8)) (w : World) (hr : Reads w w.heap.size 1 A n (xs.map VS)) (hm : n ≤ 1048576) (hbig : (Wr.encL Wr.encB xs).length ≤ 1099511627700) :
  Calls Tryd.prog 53 #[.int .i64 z, .slice A n c] w fun e w' => ∃ v, e = .returned v ∧ w'.ownsRow w.heap.size 5 1 v (inputOf z xs).length (BV (inputOf z xs)) ∧ Below w.heap.size w w' := by
 obtain ⟨i0, hi, hz0, hz1, hz2⟩ := info_parts byteInfo
 have HI := hide hi
 have HZ0 := hide hz0
 have HZ1 := hide hz1
 have HZ2 := hide hz2
 clear hi hz0 hz1 hz2
 have hl : n = xs.length := by have := hr.1; simpa using this.symm
 have HS := hide hr
 have HN := hide hl
 have htg := tagB_is z
 have hby := (tagB z).toNat_lt
 have HIN := hide (show inputOf z xs = [tagB z] ++ Wr.encL Wr.encB xs from rfl)
 have HO1 := hide (show (w.alloc (.cells #[.int .u8 ((tagB z).toNat : Int)] 5)).ownsRow w.heap.size 5 1 (.slice (some ⟨w.heap.size, 0, none⟩) 1 1) 1 (BV [tagB z]) from ⟨rfl, .inr ⟨w.heap.size, 1, #[.int .u8 ((tagB z).toNat : Int)], rfl, Nat.le_refl _, heap_alloc_new w _, Nat.le_refl _, by unfold maxLen; omega, rfl, rfl⟩⟩)
 have HB1 := hide (below_alloc w (.cells #[.int .u8 ((tagB z).toNat : Int)] 5))
 generalize tagB z = y at *
 clear hr hl
 go_enter Tryd.func53, Tryd.ntmps53
 go_wp2_with fail
 clear htg
 go_loopw [5, 6] (fun v i wr => ∃ j : Nat, j ≤ n ∧ i = .int .i64 (j : Int) ∧ wr.ownsRow w.heap.size 5 1 v ([y] ++ Wr.encL Wr.encB (xs.take j)).length (BV ([y] ++ Wr.encL Wr.encB (xs.take j))) ∧ Below w.heap.size w wr) (fun _ i _ => n - (intOf i).toNat)
 case atStart =>
  refine ⟨0, Nat.zero_le _, rfl, ?_, HB1.out⟩
  rw [List.take_zero, Wr.encL_nil, List.append_nil]
  exact HO1.out
 case round =>
  obtain ⟨j, hj, rfl, hown, hb⟩ := hrel
  by_cases hlt : j < n
  ·obtain ⟨ad, rfl, hx0, hc⟩ := reads_item HS.out j hlt
   have hjx : j < xs.length := by have := HN.out; omega
   have hc2 : w.cell? (ad.add j) = some (.string (S xs[j])) := by rw [hc]; simp [VS]
   have hcw : wr.cell? (ad.add j) = some (.string (S xs[j])) := by rw [hb.cell (block_lt_of_cell hc2)]; exact hc2
   have hle := Wr.encL_take_le Wr.encB xs j
   have hle2 := Wr.encL_take_le Wr.encB xs (j + 1)
   have hst := Wr.encL_take Wr.encB xs j hjx
   have HK := hide (show ∀ W : World, Calls Tryd.prog 27 #[.string (S xs[j])] W fun e w' => ∃ v, e = .returned v ∧ w'.ownsRow W.heap.size 5 1 v (Wr.encB xs[j]).length (BV (Wr.encB xs[j])) ∧ Below W.heap.size W w' from fun W => refBytes_any xs[j] W (by rw [hst, List.length_append, Wr.encB_len] at hle2; omega))
   have hln : ([y] ++ Wr.encL Wr.encB (xs.take j)).length ≤ 1099511627785 := by rw [List.length_append]; simp; omega
   have hln2 : (Wr.encB xs[j]).length ≤ 1099511627776 := by rw [hst, List.length_append] at hle2; omega
   have hpos : 1 ≤ (Wr.encB xs[j]).length := by unfold Wr.encB; rw [List.length_append]; have := Wr.enc_pos (xs[j].length : Int); omega
   have HST := hide hst
   have HA := hide (BV_append ([y] ++ Wr.encL Wr.encB (xs.take j)) (Wr.encB xs[j]))
   have HO := hide hown
   have HB := hide hb
   have H1 := hide (BV_one (Wr.encB xs[j]))
   clear hown hb hc hc2 hst hx0 hle hle2
   generalize hcur : [y] ++ Wr.encL Wr.encB (xs.take j) = cur at *
   generalize hnew : Wr.encB xs[j] = new at *
   have HCUR := hide hcur
   clear hcur hnew
   go_wp2_with (first
    | (go_at_call 27; refine (unhide HK wr).mono ?_; rintro e w5 ⟨v5, rfl, hown5, hb5⟩; obtain ⟨g5, k5, rfl, hk5, hr5⟩ := own_form hown5 hpos; have HR5 := hide hr5; have HO5 := hide (own_below HO.out hb5); have HB5 := hide (below_then HB.out hb5); clear hown5 hr5 hb5)
    | (at_builtin; refine wpList_append_any _ rfl (.tmp 16) (.tmp 21) 23 rfl w.heap.size 5 i0 (.int .u8 0) 1 1 Tryd.underlying23 HI.out HZ0.out HZ1.out HZ2.out rfl (by omega) _ cur.length (BV cur) rfl HO5.out w5.heap.size (some ⟨g5, 0, none⟩) new.length k5 (BV new) rfl HR5.out H1.out (by unfold maxLen; omega) (by omega) HB5.out.size ?_; intro v6 w6 hown6 hgrow6 hat6; have HO6 := hide hown6; have HB6 := hide (HB5.out.trans (below_grown hgrow6 HO5.out HB5.out.size)); clear hown6 hgrow6 hat6))
   refine ⟨⟨j + 1, by omega, by go_num, ?_, HB6.out⟩, ?_⟩
   ·rw [HST.out, ← List.append_assoc, HCUR.out, List.length_append, HA.out]
    exact HO6.out
   ·simp [intOf]; omega
  ·obtain rfl : j = n := by omega
   have HO := hide hown
   have HB := hide hb
   clear hown hb
   go_wp2
   go_ret
   refine ⟨_, rfl, ?_, HB.out⟩
   have h := HO.out
   rw [List.take_of_length_le (by have := HN.out; omega), ← HIN.out] at h
   exact h
def Z16 : List UInt8 := List.replicate 16 0
theorem zero16 (W : World) : (zeroValue 35).run Tryd.prog W = .ok (.agg (BV Z16).toArray) W := by kernel_rfl
theorem size16 : (Tryd.prog.info? 35).map (·.size) = some 16 := by kernel_rfl
theorem built16 : Tryd.prog.built 35 [] = some (BV Z16).toArray := by kernel_rfl
theorem bytes_set16 (D : List UInt8) (k : Nat) (hD : 16 ≤ D.length) (hk : k < 16) (x : UInt8) (hx : D[k]? = some x) : (BV (D.take k ++ Z16.drop k)).set k (.int .u8 (x.toNat : Int)) = BV (D.take (k + 1) ++ Z16.drop (k + 1)) := by
 have e : (BV (D.take k ++ Z16.drop k)).set k (.int .u8 (x.toNat : Int)) = BV ((D.take k ++ Z16.drop k).set k x) := by simp [BV, List.map_set]
 have hz : Z16.length = 16 := rfl
 have hl : (D.take k).length = k := by rw [List.length_take]; omega
 have hx' : D[k]'(by omega) = x := by rw [List.getElem?_eq_getElem (by omega)] at hx; injection hx
 rw [e, List.set_append_right _ _ (by omega), hl, Nat.sub_self, List.drop_eq_getElem_cons (by omega : k < Z16.length), List.set_cons_zero, List.take_succ_eq_append_getElem (by omega : k < D.length), List.append_assoc, hx']
 rfl
theorem zero_at16 {w : World} {g : Nat} {t : TypeId} {D : List UInt8} {k : Nat} (hB : Blk w g t (BV (D.take k ++ Z16.drop k)).toArray) (hD : 16 ≤ D.length) (hk : k < 16) : w.cell? ⟨g, k, none⟩ = some (.int .u8 0) := by
 have hl : (D.take k).length = k := by rw [List.length_take]; omega
 have hz : Z16.drop k = List.replicate (16 - k) 0 := by unfold Z16; rw [List.drop_replicate]
 rw [hB.cell, List.getElem?_toArray, BV_append, List.getElem?_append_right (by rw [BV_len, hl]; omega), BV_len, hl, Nat.sub_self, hz, BV_zeros, List.getElem?_replicate, if_pos (by omega)]
set_option maxHeartbeats 1000000 in
set_option maxRecDepth 100000 in
theorem short_any (A : Option Addr) (n c : Nat) (l : List UInt8) (w : World) (hr : Reads w w.heap.size 1 A n (BV l)) (hn : n ≤ 1099511627776) (hK : RKLaid w) :
  Calls Tryd.prog 52 #[.slice A n c] w fun e w' => e = .returned (.agg (BV ((Sha.sum l).take 16)).toArray) ∧ Below w.heap.size w w' := by
 have HSU := hide (fun (W : World) hr hK => refSum_any A n c l W hr hn hK)
 have hdl := Sha.sum_len l
 generalize Sha.sum l = D at *
 have HDL := hide hdl
 have HR := hide hr
 have HK := hide hK
 have hzs := zero16
 have hb16 := built16
 clear hdl hr hK
 generalize hzz : (BV Z16).toArray = zz at *
 have HZZ := hide hzz
 have hzz16 : zz.size = 16 := by rw [← hzz]; rfl
 have hzzone : zz.all (fun v => v.oneCell') = true := by rw [← hzz]; exact all_oneCell_toArray (BV_one Z16)
 have HZZ16 := hide hzz16
 have HZ1 := hide hzzone
 clear hzz hzz16 hzzone
 go_enter Tryd.func52, Tryd.ntmps52
 go_upto_region 1 with fail
 refine name_worldh fun W hW => ?_
 have B0 := hide (show Blk W w.heap.size 35 zz by rw [← hW.out]; exact Blk.new w _ _)
 have HW := hide (show Below w.heap.size w W by rw [← hW.out]; exact (Below.refl _ _).alloc (Nat.le_refl _) _)
 have hws : w.heap.size < W.heap.size := by rw [← hW.out]; simp
 clear hW
 go_upto_region 2 with (first
  | (go_at_call 66; refine (unhide HSU W ((HR.out.below HW.out).more HW.out.size) (HK.out.below HW.out (Nat.le_refl _))).mono ?_; rintro e w1 ⟨rfl, hb1⟩; have HB1 := hide hb1; clear hb1)
  | (with_reducible refine wpList_store_row rfl 72 (.tmp 3) (.tmp 7) rfl w1.heap.size (BV D).toArray rfl rfl 72 _ (heap_alloc_new w1 _) ?p1 ?p2 ?p3 ?_))
 case p1 => first | (rw [List.size_toArray, BV_len, HDL.out]; exact size32) | (rw [BV_len, HDL.out]; exact Option.map_eq_some_iff.1 size32)
 case p2 => first | (rw [show (BV D).toArray.size = 32 by rw [List.size_toArray, BV_len, HDL.out]]; rfl) | (rw [BV_len D, HDL.out]; rfl)
 case p3 => first | exact all_oneCell_toArray (BV_one D) | exact BV_one D
 rw [World.setRow_alloc_new]
 refine name_worldh fun X hX => ?_
 have hb1 := HB1.out
 have hs1 := hb1.size
 have C0 := hide (show Blk X w.heap.size 35 zz by rw [← hX.out]; exact (B0.out.below hb1 hws).alloc _)
 have C3 := hide (show Blk X w1.heap.size 72 (BV D).toArray by rw [← hX.out]; exact Blk.new w1 _ _)
 have HX := hide (show Below w.heap.size w X by rw [← hX.out]; exact (HW.out.trans (hb1.mono (by omega))).alloc (by omega) _)
 have hg3 : w.heap.size < w1.heap.size := by omega
 have hXs : w1.heap.size < X.heap.size := by rw [← hX.out]; simp
 clear hX hb1 hs1 HB1
 generalize w1.heap.size = g3 at *
 have HB16 := hide hb16
 clear hb16
 go_upto_region 3 with (first
  | (with_reducible refine wpList_build rfl 35 #[] rfl ?b1 ?_)
  | (with_reducible refine wpList_store_row rfl 35 (.tmp 4) (.tmp 8) rfl X.heap.size zz rfl ?b2 35 _ (heap_alloc_new X _) ?p1 ?p2 ?p3 ?_))
 case b1 => rw [HB16.out]; rfl
 case b2 => rw [HB16.out]; rfl
 case p1 => rw [HZZ16.out]; exact size16
 case p2 => first | (rw [HZZ16.out]; rfl) | rfl
 case p3 => exact HZ1.out
 rw [World.setRow_alloc_new]
 refine name_worldh fun V hV => ?_
 have D0 := hide (show Blk V w.heap.size 35 zz by rw [← hV.out]; exact C0.out.alloc _)
 have D3 := hide (show Blk V g3 72 (BV D).toArray by rw [← hV.out]; exact C3.out.alloc _)
 have D4 := hide (show Blk V X.heap.size 35 (BV (D.take 0 ++ Z16.drop 0)).toArray by rw [← hV.out, ← HZZ.out]; exact Blk.new X _ _)
 have HV := hide (show Below w.heap.size w V by rw [← hV.out]; exact HX.out.alloc HX.out.size _)
 clear hV
 generalize X.heap.size = g4 at *
 go_wp2_with fail
 go_loopw [5] (fun i wr => ∃ k : Nat, k ≤ 16 ∧ i = .int .i64 (k : Int) ∧ Blk wr g4 35 (BV (D.take k ++ Z16.drop k)).toArray ∧ Blk wr g3 72 (BV D).toArray ∧ Blk wr w.heap.size 35 zz ∧ Below w.heap.size w wr) (fun i _ => 16 - (intOf i).toNat)
 case atStart => exact ⟨0, Nat.zero_le _, rfl, D4.out, D3.out, D0.out, HV.out⟩
 case round =>
  obtain ⟨k, hk, rfl, hB4, hB3, hB0, hbel⟩ := hrel
  by_cases hlt : k < 16
  ·have hkD : k < D.length := by have := HDL.out; omega
   have hc := blk_BV hB3 k hkD
   have hct := zero_at16 hB4 (by have := HDL.out; omega) hlt
   have hfr := hB4.frozen k
   have hset := bytes_set16 D k (by have := HDL.out; omega) hlt D[k] (List.getElem?_eq_getElem hkD)
   generalize D[k] = x at *
   have hby := x.toNat_lt
   have HSET := hide hset
   have H4 := hide hB4
   have H3 := hide hB3
   have H0 := hide hB0
   have HB := hide hbel
   have k0 : (0 : Int) ≤ (k : Int) := by omega
   have k6 : (k : Int) < 16 := by omega
   clear hB4 hB3 hB0 hbel hset
   go_wp2
   refine ⟨⟨k + 1, by omega, by go_num, ?_, ?_, ?_, ?_⟩, by simp [intOf]; omega⟩
   ·have := H4.out.set_ k (.int .u8 ((x.toNat : Nat) : Int))
    rwa [List.setIfInBounds_toArray, HSET.out] at this
   ·exact H3.out.far (by show g3 ≠ g4; omega) _
   ·exact H0.out.far (by show w.heap.size ≠ g4; omega) _
   ·exact HB.out.setCell (by show w.heap.size ≤ g4; omega) _
  ·obtain rfl : k = 16 := by omega
   rw [List.drop_eq_nil_of_le (by simp [Z16]), List.append_nil] at hB4
   have hlen : (BV (D.take 16)).length = 16 := by rw [BV_len, List.length_take]; have := HDL.out; omega
   have hone := BV_one (D.take 16)
   generalize hout : BV (D.take 16) = out at *
   have HOUT := hide hout
   have HLN := hide hlen
   have H1' := hide hone
   have E5 := hide (show wr.heap[g4]? = some (.cells out.toArray 35 (0, 0)) from hB4)
   have E2 := hide (show wr.heap[w.heap.size]? = some (.cells zz 35 (0, 0)) from hB0)
   have HBe := hide hbel
   clear hB4 hB3 hB0 hbel hlen hone hout
   go_wp2_with (first | (with_reducible refine wpList_load_row rfl 35 (.tmp 4) rfl g4 rfl 35 out.toArray (0, 0) _ E5.out Tryd.underlying35 rfl ?f9 ?_) | (with_reducible refine wpList_store_row rfl 35 (.tmp 2) (.tmp 18) rfl w.heap.size out.toArray rfl rfl 35 _ E2.out ?g9 ?g8 ?ga ?_))
   case f9 => first | (rw [List.size_toArray, HLN.out]; exact size16) | (rw [HLN.out]; exact Option.map_eq_some_iff.1 size16)
   case g9 => first | (rw [List.size_toArray, HLN.out]; exact size16) | (rw [HLN.out]; exact Option.map_eq_some_iff.1 size16)
   case g8 => first | (rw [HZZ16.out, List.size_toArray, HLN.out]) | (rw [HZZ16.out, HLN.out])
   case ga => first | exact all_oneCell_toArray H1'.out | exact H1'.out
   have hload : (loadVar 35 ⟨w.heap.size, 0, none⟩).run Tryd.prog (wr.setRow w.heap.size out.toArray) = .ok (.agg out.toArray) (wr.setRow w.heap.size out.toArray) :=
    run_loadVar_row _ _ _ _ _ _ _ (setRow_heap wr w.heap.size _ out.toArray _ _ E2.out) Tryd.underlying35 rfl (by rw [List.size_toArray, HLN.out]; exact size16)
   exact bodyPost_ret (v := .agg out.toArray) (results_cell0h Tryd.results52 _ _ ⟨w.heap.size, 0, none⟩ _ rfl hload) rfl ⟨by rw [HOUT.out], below_setRowh HBe.out (Nat.le_refl _) _⟩
def digestOf (l : List UInt8) : List UInt8 := (Sha.sum l).take 16
theorem digestOf_len (l : List UInt8) : (digestOf l).length = 16 := by unfold digestOf; rw [List.length_take, Sha.sum_len]; rfl
set_option maxHeartbeats 1000000 in
set_option maxRecDepth 100000 in
theorem refOf_any (z : Int) (A : Option Addr) (n c : Nat) (xs : List (List UInt8)) (w : World) (hr : Reads w w.heap.size 1 A n (xs.map VS)) (hm : n ≤ 1048576) (hbig : (Wr.encL Wr.encB xs).length ≤ 1099511627700) (hK : RKLaid w) :
  Calls Tryd.prog 29 #[.int .i64 z, .slice A n c] w fun e w' => e = .returned (.agg (BV (digestOf (inputOf z xs))).toArray) ∧ Below w.heap.size w w' := by
 have CI := hide (fun (W : World) hr => input_any z A n c xs W hr hm hbig)
 have hil : (inputOf z xs).length ≤ 1099511627776 := by unfold inputOf; simp; omega
 have CS := hide (fun (A : Option Addr) n c (W : World) hr hn hK => short_any A n c (inputOf z xs) W hr hn hK)
 have hdl := digestOf_len (inputOf z xs)
 have hdd : digestOf (inputOf z xs) = (Sha.sum (inputOf z xs)).take 16 := rfl
 rw [← hdd] at CS
 generalize digestOf (inputOf z xs) = D at *
 generalize inputOf z xs = I at *
 have HDL := hide (show (BV D).length = 16 by rw [BV_len, hdl])
 have H1 := hide (BV_one D)
 have HR := hide hr
 have HK := hide hK
 have hzs := zero16
 clear hdl hr hK hdd
 generalize hout : BV D = out at *
 generalize hzz : (BV Z16).toArray = zz at *
 have hzz16 : zz.size = 16 := by rw [← hzz]; rfl
 have HZZ16 := hide hzz16
 clear hzz hzz16 hout
 go_enter Tryd.func29, Tryd.ntmps29
 go_upto_region 1 with fail
 refine name_worldh fun W hW => ?_
 have B0 := hide (show Blk W w.heap.size 35 zz by rw [← hW.out]; exact Blk.new w _ _)
 have HW := hide (show Below w.heap.size w W by rw [← hW.out]; exact (Below.refl _ _).alloc (Nat.le_refl _) _)
 have hws : w.heap.size < W.heap.size := by rw [← hW.out]; simp
 clear hW
 go_wp2_with fail
 refine (unhide CI W ((HR.out.below HW.out).more HW.out.size)).mono ?_
 rintro e w1 ⟨v1, rfl, hown1, hb1⟩
 have HO1 := hide hown1
 have HB1 := hide (HW.out.trans (hb1.mono HW.out.size))
 have D1 := hide (B0.out.below hb1 hws)
 have hs1 := hb1.size
 clear hown1 hb1
 obtain ⟨A1, c1, rfl, _, _⟩ := own_slice HO1.out
 go_wp2_with fail
 refine (unhide CS A1 _ c1 w1 (Reads.of_own HO1.out) hil (HK.out.below HB1.out (Nat.le_refl _))).mono ?_
 rintro e w2 ⟨rfl, hb2⟩
 have HB2 := hide (HB1.out.trans (hb2.mono HB1.out.size))
 have D2 := hide (show w2.heap[w.heap.size]? = some (.cells zz 35 (0, 0)) from D1.out.below hb2 (by omega))
 clear hb2
 go_wp2_with (with_reducible refine wpList_store_row rfl 35 (.tmp 4) (.tmp 8) rfl w.heap.size out.toArray rfl rfl 35 _ D2.out ?g9 ?g8 ?ga ?_)
 case g9 => first | (rw [List.size_toArray, HDL.out]; exact size16) | (rw [HDL.out]; exact Option.map_eq_some_iff.1 size16)
 case g8 => first | (rw [HZZ16.out, List.size_toArray, HDL.out]) | (rw [HZZ16.out, HDL.out])
 case ga => first | exact all_oneCell_toArray H1.out | exact H1.out
 have hload : (loadVar 35 ⟨w.heap.size, 0, none⟩).run Tryd.prog (w2.setRow w.heap.size out.toArray) = .ok (.agg out.toArray) (w2.setRow w.heap.size out.toArray) :=
  run_loadVar_row _ _ _ _ _ _ _ (setRow_heap w2 w.heap.size _ out.toArray _ _ D2.out) Tryd.underlying35 rfl (by rw [List.size_toArray, HDL.out]; exact size16)
 exact bodyPost_ret (v := .agg out.toArray) (results_cell0h Tryd.results29 _ _ ⟨w.heap.size, 0, none⟩ _ rfl hload) rfl ⟨rfl, below_setRowh HB2.out (Nat.le_refl _) _⟩
end Go.Proofs.YtjnnohghgkjhcaaDoor
namespace Go.Proofs.YtjnnohghgkjhcaaDoor
open Go.RowKit
set_option linter.unusedVariables false
set_option linter.unusedSimpArgs false
attribute [local go_sem ↓] Go.wp_at_zero Go.wp_at_succ
theorem conv_cell {W : World} {g : Nat} {y : UInt8} (h : Blk W g 5 #[.int .u8 ((y.toNat : Nat) : Int)]) :
  (convert 23 9 (.slice (some ⟨g, 0, none⟩) 1 1)).run Tryd.prog W = .ok (.string (S [y])) W :=
 run_conv_reads (P := Tryd.prog) (l := [y]) (reads_blk (l := [y]) (t := 5) h rfl) 23 9 5 1 Tryd.underlying23 Tryd.underlying5 Tryd.underlying9
theorem blk_two (W : World) (t1 t2 : TypeId) (c1 c2 : Array Value) : Blk ((W.alloc (.cells c1 t1)).alloc (.cells c2 t2)) (W.heap.size + 1) t2 c2 := by
 have := Blk.new (W.alloc (.cells c1 t1)) t2 c2
 rwa [show (W.alloc (.cells c1 t1)).heap.size = W.heap.size + 1 by simp] at this
def rowAt (w : World) (g : Nat) : Array Value := match w.heap[g]? with
 | some (.cells cs _ _) => cs
 | _ => #[]
def rowOk (w : World) (g n : Nat) : Prop := ∃ cs t, Blk w g t cs ∧ cs.size = n
theorem rowAt_blk {w : World} {g : Nat} {t : TypeId} {cs : Array Value} (h : Blk w g t cs) : rowAt w g = cs := by
 unfold Blk at h
 unfold rowAt
 rw [h]
theorem load_stream (w : World) (g : Nat) (h : rowOk w g 73) : (Instr.loadAt 69 (.pointer (some ⟨g, 0, none⟩))).run Tryd.prog w = .ok (.agg (rowAt w g)) w := by
 obtain ⟨cs, t, hb, hn⟩ := h
 rw [rowAt_blk hb]
 have hb' : Blk w g t ([] ++ (cs.toList ++ [])).toArray := by simpa using hb
 have := run_loadAt_mid (P := Tryd.prog) w g 0 69 cs.toList _ (Blk.range [] cs.toList [] hb' 0 rfl) Tryd.underlying69 rfl (by rw [Array.length_toList, hn]; exact streamSize)
 simpa using this
def ptrBlock : Value → Nat
 | .pointer (some a) => a.block
 | _ => 0
theorem ptrBlock_is (a : Addr) : ptrBlock (.pointer (some a)) = a.block := rfl
theorem wp_load_stream (d : Option Tmp) (x : Operand) (ty : TypeId) (ps : String) (af : Array Edge) (a : Act) (w : World) (K : Act → World → Prop) (Q : Exit → Act → World → Prop)
  (h1 : a.eval x = .pointer (some ⟨ptrBlock (a.eval x), 0, none⟩)) (h2 : rowOk w (ptrBlock (a.eval x)) 73) :
  Oper.wp Tryd.prog { dst := d, op := .load 69 x, type := ty, pos := ps, after := af, guard := none } a w K Q = K (a.put d (.agg (rowAt w (ptrBlock (a.eval x))))) w := by
 have := load_stream w _ h2
 rw [← h1] at this
 unfold Oper.wp execOp
 simp only [Sem.run_bind, this, Result.andThen_ok]
 rfl
attribute [local go_sem ↓] wp_load_stream
attribute [local go_sem] ptrBlock_is
theorem bytesB_any (s : List UInt8) (w : World) (hn : s.length ≤ 1099511627776) :
  Calls Tryd.prog 24 #[.string (S s)] w fun e w' => ∃ v, e = .returned v ∧ w'.ownsRow w.heap.size 5 1 v (Wr.encB s).length (BV (Wr.encB s)) ∧ Below w.heap.size w w' := by
 rw [Wr.encB_len]
 exact bytes_any s w hn
set_option maxHeartbeats 4000000 in
set_option maxRecDepth 100000 in
theorem of_any (z : Int) (A : Option Addr) (n c : Nat) (xs : List (List UInt8)) (w : World) (hr : Reads w w.heap.size 1 A n (xs.map VS)) (hm : n ≤ 1048576) (hbig : (Wr.encL Wr.encB xs).length ≤ 1099511627700) (hK : KLaid w) :
  Calls Tryd.prog 11 #[.int .i64 z, .slice A n c] w fun e w' => e = .returned (.agg (BV (digestOf (inputOf z xs))).toArray) ∧ Below w.heap.size w w' := by
 have hio : inputOf z xs = [tagB z] ++ Wr.encL Wr.encB xs := rfl
 have HIO := hide hio
 have htg := tagB_is z
 generalize tagB z = y at *
 have HAD := hide (fun W hW => add_new [y] W hW (by simp))
 have hby := y.toNat_lt
 have HR := hide hr
 have HKK := hide hK
 have hzs := zero16
 have hzst := zeroStream
 have hst1 : (ST [y]).length = 73 := ST_len [y]
 have hone1 : ∀ v ∈ ST [y], v.oneCell' = true := SC_oneh _ _ _
 generalize hzz : (BV Z16).toArray = zz at *
 have hzz16 : zz.size = 16 := by rw [← hzz]; rfl
 have HZZ16 := hide hzz16
 generalize hsz0 : SCh W8 Z64 0 = sz at *
 have hszl : sz.length = 73 := by rw [← hsz0]; rfl
 generalize hs1 : ST [y] = s1 at *
 have HST1 := hide hst1
 have HONE1 := hide hone1
 have HS1 := hide hs1
 have HSZL := hide hszl
 clear hio hr hK hzz hzz16 hsz0 hst1 hone1 hs1 hszl
 go_enter Tryd.func11, Tryd.ntmps11
 go_upto_region 1 with fail
 refine name_worldh fun V hV => ?_
 have B0 := hide (show Blk V w.heap.size 35 zz by rw [← hV.out]; exact Blk.new w _ _)
 have HV := hide (show Below w.heap.size w V by rw [← hV.out]; exact (Below.refl _ _).alloc (Nat.le_refl _) _)
 have hws : w.heap.size < V.heap.size := by rw [← hV.out]; simp
 have HKV := hide (fun (W' : World) (hb : Below V.heap.size V W') => HKK.out.below (HV.out.trans (hb.mono HV.out.size)) (Nat.le_refl _))
 clear hV hzs
 go_cut [5] (fun s5 wx => ∃ g : Nat, s5 = .pointer (some ⟨g, 0, none⟩) ∧ V.heap.size ≤ g ∧ Blk wx g 69 s1.toArray ∧ Below V.heap.size V wx)
 case first =>
  have ca : ∀ W : World, (convert 23 9 (.slice (some ⟨W.heap.size, 0, none⟩) 1 1)).run Tryd.prog (W.alloc (.cells #[Value.int .u8 ((y.toNat : Nat) : Int)] 5)) = .ok (.string (S [y])) (W.alloc (.cells #[Value.int .u8 ((y.toNat : Nat) : Int)] 5)) := fun W => conv_cell (Blk.new W _ _)
  have cb : ∀ W : World, (convert 23 9 (.slice (some ⟨W.heap.size, 0, none⟩) 1 1)).run Tryd.prog ((W.alloc (.cells #[Value.int .u8 ((y.toNat : Nat) : Int)] 5)).alloc (.cells sz.toArray 69)) = .ok (.string (S [y])) ((W.alloc (.cells #[Value.int .u8 ((y.toNat : Nat) : Int)] 5)).alloc (.cells sz.toArray 69)) := fun W => conv_cell ((Blk.new W _ _).alloc _)
  have cc : ∀ W : World, (convert 23 9 (.slice (some ⟨W.heap.size + 1, 0, none⟩) 1 1)).run Tryd.prog ((W.alloc (.cells sz.toArray 69)).alloc (.cells #[Value.int .u8 ((y.toNat : Nat) : Int)] 5)) = .ok (.string (S [y])) ((W.alloc (.cells sz.toArray 69)).alloc (.cells #[Value.int .u8 ((y.toNat : Nat) : Int)] 5)) := fun W => conv_cell (blk_two W _ _ _ _)
  have ca1 : (convert 23 9 (.slice (some ⟨V.heap.size, 0, none⟩) 1 1)).run Tryd.prog (V.alloc (.cells #[Value.int .u8 ((y.toNat : Nat) : Int)] 5)).drew = .ok (.string (S [y])) (V.alloc (.cells #[Value.int .u8 ((y.toNat : Nat) : Int)] 5)).drew := conv_cell ((Blk.new V _ _).drew)
  have cb1 : (convert 23 9 (.slice (some ⟨V.heap.size, 0, none⟩) 1 1)).run Tryd.prog ((V.alloc (.cells #[Value.int .u8 ((y.toNat : Nat) : Int)] 5)).alloc (.cells sz.toArray 69)).drew = .ok (.string (S [y])) ((V.alloc (.cells #[Value.int .u8 ((y.toNat : Nat) : Int)] 5)).alloc (.cells sz.toArray 69)).drew := conv_cell (((Blk.new V _ _).alloc _).drew)
  have cc1 : (convert 23 9 (.slice (some ⟨V.heap.size + 1, 0, none⟩) 1 1)).run Tryd.prog ((V.alloc (.cells sz.toArray 69)).alloc (.cells #[Value.int .u8 ((y.toNat : Nat) : Int)] 5)).drew = .ok (.string (S [y])) ((V.alloc (.cells sz.toArray 69)).alloc (.cells #[Value.int .u8 ((y.toNat : Nat) : Int)] 5)).drew := conv_cell ((blk_two V _ _ _ _).drew)
  have hsz73 : ∀ (W' : World) (g : Nat), Blk W' g 69 sz.toArray → (storeCells ⟨g, 0, none⟩ s1 0).run Tryd.prog W' = .ok () (W'.setCells g 0 s1) := fun W' g h => run_store_cells W' g s1 HONE1.out (by rw [HST1.out]; exact h.there_ 0 73 (by rw [HSZL.out]; decide))
  have hst : ∀ W' : World, (storeCells ⟨W'.heap.size, 0, none⟩ s1 0).run Tryd.prog (W'.alloc (.cells sz.toArray 69)) = .ok () ((W'.alloc (.cells sz.toArray 69)).setCells W'.heap.size 0 s1) := fun W' => hsz73 _ _ (Blk.new W' _ _)
  have HSTC := hide hsz73
  have hos : s1.toArray.size = 73 := by rw [List.size_toArray, HST1.out]
  have V0 := hide (Below.refl V.heap.size V)
  clear hsz73
  go_region_with (first
   | (go_at_call 30; (with_reducible refine (begin_st V.drew).mono ?_); rintro e z1 ⟨rfl, hz1⟩; have hZ1 : Below V.heap.size V z1 := from_here (V0.out.drew) hz1)
   | (go_at_call 30; (with_reducible refine (begin_st ((V.alloc (.cells #[Value.int .u8 ((y.toNat : Nat) : Int)] 5)).drew)).mono ?_); rintro e z1 ⟨rfl, hz1⟩; have hZ1 : Below V.heap.size V z1 := from_here ((V0.out.alloc (Nat.le_refl _) _).drew) hz1; have hcb := ((Blk.new V 5 #[Value.int .u8 ((y.toNat : Nat) : Int)]).drew).below hz1 (by simp <;> omega); have hcv := conv_cell hcb; have hcv2 := conv_cell (hcb.alloc (.cells sz.toArray 69)); clear hcb)
   | (go_at_call 30; (with_reducible refine (begin_st ((V.alloc (.cells sz.toArray 69)).drew)).mono ?_); rintro e z1 ⟨rfl, hz1⟩; have hZ1 : Below V.heap.size V z1 := from_here ((V0.out.alloc (Nat.le_refl _) _).drew) hz1; have hA := ((Blk.new V 69 sz.toArray).drew).below hz1 (by simp <;> omega); have hgA : V.heap.size ≤ V.heap.size := Nat.le_refl _)
   | (go_at_call 30; (with_reducible refine (begin_st (((V.alloc (.cells #[Value.int .u8 ((y.toNat : Nat) : Int)] 5)).alloc (.cells sz.toArray 69)).drew)).mono ?_); rintro e z1 ⟨rfl, hz1⟩; have hZ1 : Below V.heap.size V z1 := from_here (((V0.out.alloc (Nat.le_refl _) _).alloc (by simp <;> omega) _).drew) hz1; have hcb := (((Blk.new V 5 #[Value.int .u8 ((y.toNat : Nat) : Int)]).alloc _).drew).below hz1 (by simp <;> omega); have hcv := conv_cell hcb; have hcv2 := conv_cell (hcb.alloc (.cells sz.toArray 69)); clear hcb; have hA := ((blk_two V _ 69 _ sz.toArray).drew).below hz1 (by simp <;> omega); have hgA : V.heap.size ≤ V.heap.size + 1 := by omega)
   | (go_at_call 30; (with_reducible refine (begin_st (((V.alloc (.cells sz.toArray 69)).alloc (.cells #[Value.int .u8 ((y.toNat : Nat) : Int)] 5)).drew)).mono ?_); rintro e z1 ⟨rfl, hz1⟩; have hZ1 : Below V.heap.size V z1 := from_here (((V0.out.alloc (Nat.le_refl _) _).alloc (by simp <;> omega) _).drew) hz1; have hcb := ((blk_two V _ 5 _ #[Value.int .u8 ((y.toNat : Nat) : Int)]).drew).below hz1 (by simp <;> omega); have hcv := conv_cell hcb; have hcv2 := conv_cell (hcb.alloc (.cells sz.toArray 69)); clear hcb; have hA := (((Blk.new V 69 sz.toArray).alloc _).drew).below hz1 (by simp <;> omega); have hgA : V.heap.size ≤ V.heap.size := Nat.le_refl _)
   | (go_at_call 31; (with_reducible refine (unhide HAD z1 (unhide HKV _ hZ1)).mono ?_); rintro e z2 ⟨rfl, hz2⟩; have hZ2 : Below V.heap.size V z2 := from_here hZ1 hz2; try (have hA := hA.below hz2 hA.lt); first | (have hst2 := unhide HSTC z2 _ hA) | skip)
   | (go_at_call 31; (with_reducible refine (unhide HAD (z1.alloc (.cells #[Value.int .u8 ((y.toNat : Nat) : Int)] 5)) (unhide HKV _ (hZ1.alloc hZ1.size _))).mono ?_); rintro e z2 ⟨rfl, hz2⟩; have hZ2 : Below V.heap.size V z2 := from_here (hZ1.alloc hZ1.size _) hz2; try (have hA := (hA.alloc (.cells #[Value.int .u8 ((y.toNat : Nat) : Int)] 5)).below hz2 (Nat.lt_of_lt_of_le hA.lt (by simp <;> omega))); first | (have hst2 := unhide HSTC z2 _ hA) | skip)
   | (go_at_call 31; (with_reducible refine (unhide HAD (z1.alloc (.cells sz.toArray 69)) (unhide HKV _ (hZ1.alloc hZ1.size _))).mono ?_); rintro e z2 ⟨rfl, hz2⟩; have hZ2 : Below V.heap.size V z2 := from_here (hZ1.alloc hZ1.size _) hz2; have hA := (Blk.new z1 69 sz.toArray).below hz2 (by simp <;> omega); have hgA : V.heap.size ≤ z1.heap.size := hZ1.size; first | (have hst2 := unhide HSTC z2 _ hA) | skip)
   | (go_at_call 31; (with_reducible refine (unhide HAD ((z1.alloc (.cells #[Value.int .u8 ((y.toNat : Nat) : Int)] 5)).alloc (.cells sz.toArray 69)) (unhide HKV _ ((hZ1.alloc hZ1.size _).alloc (Nat.le_trans hZ1.size (by simp <;> omega)) _))).mono ?_); rintro e z2 ⟨rfl, hz2⟩; have hZ2 : Below V.heap.size V z2 := from_here ((hZ1.alloc hZ1.size _).alloc (Nat.le_trans hZ1.size (by simp <;> omega)) _) hz2; have hA := (blk_two z1 _ 69 _ sz.toArray).below hz2 (by simp <;> omega); have hgA : V.heap.size ≤ z1.heap.size + 1 := (by have h9 := hZ1.size; omega); first | (have hst2 := unhide HSTC z2 _ hA) | skip)
   | (go_at_call 31; (with_reducible refine (unhide HAD ((z1.alloc (.cells sz.toArray 69)).alloc (.cells #[Value.int .u8 ((y.toNat : Nat) : Int)] 5)) (unhide HKV _ ((hZ1.alloc hZ1.size _).alloc (Nat.le_trans hZ1.size (by simp <;> omega)) _))).mono ?_); rintro e z2 ⟨rfl, hz2⟩; have hZ2 : Below V.heap.size V z2 := from_here ((hZ1.alloc hZ1.size _).alloc (Nat.le_trans hZ1.size (by simp <;> omega)) _) hz2; have hA := ((Blk.new z1 69 sz.toArray).alloc (.cells #[Value.int .u8 ((y.toNat : Nat) : Int)] 5)).below hz2 (by simp <;> omega); have hgA : V.heap.size ≤ z1.heap.size := hZ1.size; first | (have hst2 := unhide HSTC z2 _ hA) | skip))
  all_goals
   first
    | (have hA9 := hA; have hg9 := hgA; have hZ9 := hZ2)
    | (have hA9 := Blk.new z2 69 sz.toArray; have hg9 := hZ2.size; have hZ9 := hZ2.alloc hZ2.size (.cells sz.toArray 69))
   have hFB := put_row (out := s1) hA9 (by rw [HST1.out, HSZL.out])
   have hFZ := below_setCells hg9 s1 0 _ hZ9
   have HFB := hide hFB
   have HFZ := hide hFZ
   have HG9 := hide hg9
   clear hFB hFZ hA9 hg9 hZ9
   go_wp2_with fail
   go_meet
   exact ⟨_, rfl, HG9.out, HFB.out, HFZ.out⟩
 case rest =>
  obtain ⟨g, rfl, hgV, hBs, hbz⟩ := hcut
  have HCW := hide (HV.out.trans (hbz.mono HV.out.size))
  have C0 := hide (B0.out.below hbz hws)
  have hgw : w.heap.size < g := by omega
  have HBs := hide (show Blk wc g 69 (ST ([y] ++ Wr.encL Wr.encB (xs.take 0))).toArray by rw [List.take_zero, Wr.encL_nil, List.append_nil, HS1.out]; exact hBs)
  have HN := hide (show n = xs.length by have := HR.out.1; simpa using this.symm)
  clear hBs hbz hgV B0 HV hws HKV HAD
  go_wp2_with fail
  go_loopw [18] (fun i wr => ∃ j : Nat, j ≤ n ∧ i = .int .i64 (j : Int) ∧ Blk wr g 69 (ST ([y] ++ Wr.encL Wr.encB (xs.take j))).toArray ∧ Blk wr w.heap.size 35 zz ∧ Below w.heap.size w wr) (fun i _ => n - (intOf i).toNat)
  case atStart => exact ⟨0, Nat.zero_le _, rfl, HBs.out, C0.out, HCW.out⟩
  case round =>
   obtain ⟨j, hj, rfl, hBs, hB0, hbel⟩ := hrel
   by_cases hlt : j < n
   ·obtain ⟨ad, rfl, hx0, hc⟩ := reads_item HR.out j hlt
    have hjx : j < xs.length := by have := HN.out; omega
    have hc2 : w.cell? (ad.add j) = some (.string (S xs[j])) := by rw [hc]; simp [VS]
    have hcw : wr.cell? (ad.add j) = some (.string (S xs[j])) := by rw [hbel.cell (block_lt_of_cell hc2)]; exact hc2
    have hle := Wr.encL_take_le Wr.encB xs j
    have hle2 := Wr.encL_take_le Wr.encB xs (j + 1)
    have hst := Wr.encL_take Wr.encB xs j hjx
    have HBY := hide (fun (W : World) => bytesB_any xs[j] W (by rw [hst, List.length_append, Wr.encB_len] at hle2; omega))
    have hpos : 1 ≤ (Wr.encB xs[j]).length := by unfold Wr.encB; rw [List.length_append]; have := Wr.enc_pos (xs[j].length : Int); omega
    have hln : ([y] ++ Wr.encL Wr.encB (xs.take j)).length ≤ 1099511627785 := by rw [List.length_append]; simp; omega
    have hln2 : (Wr.encB xs[j]).length ≤ 1099511627776 := by rw [hst, List.length_append] at hle2; omega
    have HST := hide hst
    have HAD := hide (fun (W : World) hW => add_any ([y] ++ Wr.encL Wr.encB (xs.take j)) (Wr.encB xs[j]) W hW (by omega))
    have hm1 := ST_len ([y] ++ Wr.encL Wr.encB (xs.take j))
    have hm2 := ST_len ([y] ++ Wr.encL Wr.encB (xs.take j) ++ Wr.encB xs[j])
    have ho2 : ∀ v ∈ ST ([y] ++ Wr.encL Wr.encB (xs.take j) ++ Wr.encB xs[j]), v.oneCell' = true := SC_oneh _ _ _
    generalize hcur : [y] ++ Wr.encL Wr.encB (xs.take j) = cur at *
    generalize hnew : Wr.encB xs[j] = new at *
    generalize hc1 : ST cur = s2 at *
    generalize hc3 : ST (cur ++ new) = s3 at *
    have HCUR := hide hcur
    have HC3 := hide hc3
    have HM1 := hide hm1
    have HM2 := hide hm2
    have HO2 := hide ho2
    clear hc hc2 hx0 hle hle2 hst hcur hc1 hc3 hm1 hm2 ho2
    obtain ⟨wd, rfl⟩ : ∃ wd, wd = wr := ⟨wr, rfl⟩
    have HBS := hide hBs
    have HB0 := hide hB0
    have HBE := hide hbel
    clear hBs hB0 hbel
    have hgd := HBS.out.lt
    have W0 := hide (Below.refl wd.heap.size wd)
    have HKD := hide (fun (W' : World) (hb : Below wd.heap.size wd W') => HKK.out.below (HBE.out.trans (hb.mono HBE.out.size)) (Nat.le_refl _))
    have HLD := hide (fun (W' : World) (hb : Below wd.heap.size wd W') => (⟨⟨_, _, HBS.out.below hb hgd, by rw [List.size_toArray, HM1.out]⟩, rowAt_blk (HBS.out.below hb hgd)⟩ : rowOk W' g 73 ∧ rowAt W' g = s2.toArray))
    have HSC := hide (fun (W' : World) (hb : Below wd.heap.size wd W') => run_store_cells (P := Tryd.prog) W' g s3 HO2.out (by rw [HM2.out]; exact (HBS.out.below hb hgd).there_ 0 73 (by rw [HM1.out]; decide)))
    go_upto_region 5 with fail
    obtain ⟨hl0, hlc0⟩ := unhide HLD wd.drew W0.out.drew
    have hos : s3.toArray.size = 73 := by rw [List.size_toArray, HM2.out]
    go_region_with (first
     | (go_at_call 24; (with_reducible refine (unhide HBY wd.drew).mono ?_); rintro e z1 ⟨v1, rfl, hown1, hz1⟩; obtain ⟨g5, k5, rfl, hk5, hr5⟩ := own_form hown1 hpos; have hZ1 : Below wd.heap.size wd z1 := from_here W0.out.drew hz1; have hcv := conv_own hown1 (Below.refl _ _); obtain ⟨hl1, hlc1⟩ := unhide HLD z1 hZ1)
     | (go_at_call 31; (with_reducible refine (unhide HAD z1 (unhide HKD z1 hZ1)).mono ?_); rintro e z2 ⟨rfl, hz2⟩; have hZ2 := from_here hZ1 hz2; have hst2 := unhide HSC z2 hZ2))
    all_goals
     have HZ2 := hide hZ2
     have hFB := hide (put_row (out := s3) (HBS.out.below hZ2 hgd) (by rw [HM2.out, HM1.out]))
     have hF0 := hide (Blk.farCells s3 0 (HB0.out.below hZ2 (by omega)) (show w.heap.size ≠ g by omega))
     have hFZ := hide (below_setCells (show w.heap.size ≤ g by omega) s3 0 _ (HBE.out.trans (hZ2.mono HBE.out.size)))
     clear hl0 hl1 hlc0 hlc1 hst2 hcv hZ1 hZ2 hown1 hr5 hz1 hz2 hos
     go_wp2
     refine ⟨⟨j + 1, by omega, by go_num, ?_, hF0.out, hFZ.out⟩, by simp [intOf]; omega⟩
     rw [HST.out, ← List.append_assoc, HCUR.out, HC3.out]
     exact hFB.out
   ·obtain rfl : j = n := by omega
    rw [List.take_of_length_le (by have := HN.out; omega), ← HIO.out] at hBs
    have HSM := hide (fun (W : World) hW => sumM_any (inputOf z xs) W hW (by rw [HIO.out, List.length_append]; simp; omega))
    have hdl := Sha.sum_len (inputOf z xs)
    have hdo : digestOf (inputOf z xs) = (Sha.sum (inputOf z xs)).take 16 := rfl
    generalize Sha.sum (inputOf z xs) = D at *
    have hil := ST_len (inputOf z xs)
    generalize ST (inputOf z xs) = si at *
    have HDO := hide hdo
    have HDL := hide hdl
    have HIL := hide hil
    have HBS := hide (show wr.heap[g]? = some (.cells si.toArray 69 (0, 0)) from hBs)
    have HB0 := hide hB0
    have HBE := hide hbel
    have hwr := hB0.lt
    clear hBs hB0 hbel hdl hil hdo
    have hzs := zero16
    go_upto_region 8 with (first
     | (with_reducible refine wpList_load_row rfl 69 (.tmp 5) rfl g rfl 69 si.toArray (0, 0) _ HBS.out Tryd.underlying69 rfl ?f1 ?_)
     | (go_at_call 32; refine (unhide HSM wr (HKK.out.below HBE.out (Nat.le_refl _))).mono ?_; rintro e w1 ⟨rfl, hb1⟩; have HB1 := hide hb1; clear hb1)
     | (with_reducible refine wpList_store_row rfl 72 (.tmp 8) (.tmp 29) rfl w1.heap.size (BV D).toArray rfl rfl 72 _ (heap_alloc_new w1 _) ?p1 ?p2 ?p3 ?_))
    case f1 => first | (rw [List.size_toArray, HIL.out]; exact streamSize) | (rw [HIL.out]; exact Option.map_eq_some_iff.1 streamSize)
    case p1 => first | (rw [List.size_toArray, BV_len, HDL.out]; exact size32) | (rw [BV_len, HDL.out]; exact Option.map_eq_some_iff.1 size32)
    case p2 => first | (rw [show (BV D).toArray.size = 32 by rw [List.size_toArray, BV_len, HDL.out]]; rfl) | (rw [BV_len D, HDL.out]; rfl)
    case p3 => first | exact all_oneCell_toArray (BV_one D) | exact BV_one D
    rw [World.setRow_alloc_new]
    go_upto_region 9 with fail
    refine name_worldh fun X hX => ?_
    have hb1 := HB1.out
    have hs1 := hb1.size
    have E0 := hide (show Blk X w.heap.size 35 zz by rw [← hX.out]; exact ((HB0.out.below hb1 hwr).alloc _).alloc _)
    have E8 := hide (show Blk X w1.heap.size 72 (BV D).toArray by rw [← hX.out]; exact (Blk.new w1 _ _).alloc _)
    have E9 := hide (show Blk X (w1.heap.size + 1) 35 (BV Z16).toArray by rw [← hX.out]; exact blk_two w1 _ _ _ _)
    have HX := hide (show Below w.heap.size w X by rw [← hX.out]; exact ((HBE.out.trans (hb1.mono (by omega))).alloc (by omega) _).alloc (by simp; omega) _)
    have hg8 : w.heap.size < w1.heap.size := by omega
    clear hX hb1 hs1 HB1 HBS HB0 HBE
    generalize w1.heap.size = g8 at *
    go_still_tail 2, (by kernel_rfl)
    change wpList _ _ _ _ _ X.drew
    have F0 := hide (show Blk X.drew w.heap.size 35 zz from E0.out)
    have F8 := hide (show Blk X.drew g8 72 (BV D).toArray from E8.out)
    have F9 := hide (show X.drew.heap[g8 + 1]? = some (.cells (BV Z16).toArray 35 (0, 0)) from E9.out)
    have HXd := hide HX.out.drew
    clear E0 E8 E9 HX
    generalize X.drew = Y at *
    have hdl16 : (BV (D.take 16)).length = 16 := by rw [BV_len, List.length_take]; have := HDL.out; omega
    have hsrc : ∀ j v, (BV (D.take 16))[j]? = some v → Y.cell? ((⟨g8, 0, none⟩ : Addr).add j) = some v := fun j v hj => by
     rw [show ((⟨g8, 0, none⟩ : Addr).add j) = ⟨g8, j, none⟩ by simp [Addr.add]; intro h; omega, F8.out.cell, List.getElem?_toArray, ← hj]
     have hj16 : j < 16 := by
      rcases Nat.lt_or_ge j 16 with h | h
      ·exact h
      ·rw [List.getElem?_eq_none (by omega)] at hj; cases hj
     simp only [BV, List.map_take]
     rw [List.getElem?_take_of_lt hj16]
    have H16 := hide hdl16
    have HSR := hide hsrc
    have H1 := hide (BV_one (D.take 16))
    clear hdl16 hsrc
    generalize hout : BV (D.take 16) = out at *
    have HOUT := hide hout
    clear hout
    go_wp2_with (with_reducible refine wpList_copy_stop rfl (.tmp 30) (.tmp 31) 23 23 rfl 5 Tryd.underlying23 byteSize (g8 + 1) 0 16 16 ⟨g8, 0, none⟩ 32 32 rfl rfl _ _ F9.out out ?c1 HSR.out ?c2 H1.out ?_)
    case c1 => rw [H16.out]; rfl
    case c2 => rw [H16.out]; decide
    intro Z hZ
    have G9 := hide (show Z.heap[g8 + 1]? = some (.cells out.toArray 35 (0, 0)) by
     rw [← hZ.out]
     have e : out ++ List.drop out.length (BV Z16) = out := by
      rw [H16.out, List.drop_eq_nil_of_le (by simp [BV, Z16]), List.append_nil]
     first
      | (rw [e]; exact setRow_heap Y (g8 + 1) _ out.toArray _ _ F9.out)
      | (have h := setRow_heap Y (g8 + 1) _ out.toArray _ _ F9.out; simpa [e] using h))
    have G0 := hide (show Z.heap[w.heap.size]? = some (.cells zz 35 (0, 0)) by rw [← hZ.out]; exact F0.out.otherRow (by omega) _)
    have HZb := hide (show Below w.heap.size w Z by rw [← hZ.out]; exact below_setRowh HXd.out (by omega) _)
    clear hZ
    go_wp2_with (first | (with_reducible refine wpList_load_row rfl 35 (.tmp 9) rfl (g8 + 1) rfl 35 out.toArray (0, 0) _ G9.out Tryd.underlying35 rfl ?f9 ?_) | (with_reducible refine wpList_store_row rfl 35 (.tmp 4) (.tmp 33) rfl w.heap.size out.toArray rfl rfl 35 _ G0.out ?g9 ?g8' ?ga ?_))
    case f9 => first | (rw [List.size_toArray, H16.out]; exact size16) | (rw [H16.out]; exact Option.map_eq_some_iff.1 size16)
    case g9 => first | (rw [List.size_toArray, H16.out]; exact size16) | (rw [H16.out]; exact Option.map_eq_some_iff.1 size16)
    case g8' => first | (rw [HZZ16.out, List.size_toArray, H16.out]) | (rw [HZZ16.out, H16.out])
    case ga => first | exact all_oneCell_toArray H1.out | exact H1.out
    have hload : (loadVar 35 ⟨w.heap.size, 0, none⟩).run Tryd.prog (Z.setRow w.heap.size out.toArray) = .ok (.agg out.toArray) (Z.setRow w.heap.size out.toArray) :=
     run_loadVar_row _ _ _ _ _ _ _ (setRow_heap Z w.heap.size _ out.toArray _ _ G0.out) Tryd.underlying35 rfl (by rw [List.size_toArray, H16.out]; exact size16)
    exact bodyPost_ret (v := .agg out.toArray) (results_cell0h Tryd.results11 _ _ ⟨w.heap.size, 0, none⟩ _ rfl hload) rfl ⟨by rw [HDO.out, HOUT.out], below_setRowh HZb.out (Nat.le_refl _) _⟩
end Go.Proofs.YtjnnohghgkjhcaaDoor
namespace Go.Proofs.YtjnnohghgkjhcaaDoor
open Go.RowKit
set_option linter.unusedVariables false
set_option linter.unusedSimpArgs false
def Dig (w : World) (g : Nat) (d : List UInt8) : Prop := d.length = 16 ∧ Blk w g 35 (BV d).toArray
theorem Dig.below {w w' : World} {g B : Nat} {d : List UInt8} (h : Dig w g d) (hb : Below B w w') (hg : g < B) : Dig w' g d := ⟨h.1, h.2.below hb hg⟩
theorem Dig.alloc {w : World} {g : Nat} {d : List UInt8} (h : Dig w g d) (o : Obj) : Dig (w.alloc o) g d := ⟨h.1, h.2.alloc o⟩
theorem Dig.result {w : World} {g : Nat} {d : List UInt8} (h : Dig w g d) : (loadVar 35 ⟨g, 0, none⟩).run Tryd.prog w = .ok (.agg (BV d).toArray) w :=
 run_loadVar_row _ _ _ _ _ _ _ h.2 Tryd.underlying35 rfl (by rw [List.size_toArray, BV_len, h.1]; exact size16)
theorem dig_size {d : List UInt8} (h : d.length = 16) : (Tryd.prog.info? 35).map (·.size) = some (BV d).toArray.size := by rw [List.size_toArray, BV_len, h]; exact size16
theorem wpList_store_dig {w : World} {ops : Array Oper} {rest : List Oper} {o : Oper} {a : Act} {Q : Exit → Act → World → Prop} (hgd : o.guard = none) (x y : Operand) (ho : o.op = .store 35 x y)
  (g : Nat) (d e : List UInt8) (hx : a.eval x = .pointer (some ⟨g, 0, none⟩)) (hy : a.eval y = .agg (BV e).toArray) (hD : Dig w g d) (he : e.length = 16)
  (h : ∀ w', Hid (w.setRow g (BV e).toArray = w') → wpList Tryd.prog ops Q rest (a.put o.dst undef) w') : wpList Tryd.prog ops Q (o :: rest) a w :=
 wpList_store_row hgd 35 x y ho g _ hx hy 35 _ hD.2 (dig_size he) (by rw [List.size_toArray, List.size_toArray, BV_len, BV_len, hD.1, he]) (all_oneCell_toArray (BV_one e)) (h _ rfl)
theorem Dig.put {w w' : World} {g : Nat} {d e : List UInt8} (h : Dig w g d) (he : e.length = 16) (hw : Hid (w.setRow g (BV e).toArray = w')) : Dig w' g e :=
 ⟨he, by rw [← hw.out]; exact setRow_heap w g _ _ _ _ h.2⟩
theorem below_row {B g : Nat} {a w w' : World} {cs : Array Value} (h : Below B a w) (hg : B ≤ g) (hw : Hid (w.setRow g cs = w')) : Below B a w' := by rw [← hw.out]; exact below_setRowh h hg _
theorem ret_dig {w : World} {g : Nat} {d : List UInt8} {fn : Func} {p : Tmp} (hf : fn.results = #[.cell p 35]) (tmps : Array Value) (hp : tmps.getD p undef = .pointer (some ⟨g, 0, none⟩)) (h : Dig w g d) : (results fn tmps).run Tryd.prog w = .ok (.agg (BV d).toArray) w :=
 results_cell0h hf _ _ ⟨g, 0, none⟩ _ hp h.result
def digT (t : Tb.Tab) : List UInt8 := digestOf (inputOf 8 [Wr.encT (taOf t)])
set_option maxHeartbeats 2000000 in
set_option maxRecDepth 100000 in
theorem digest_any (v : Value) (t : Tb.Tab) (w : World) (h : TabX w w.heap.size v t) (hbig : (Wr.encT (taOf t)).length ≤ 1099511627000) (hK : KLaid w) :
  Calls Tryd.prog 9 #[v] w fun e w' => e = .returned (.agg (BV (digT t)).toArray) ∧ Below w.heap.size w w' := by
 have CE := hide (fun (W : World) (hb : Below w.heap.size w W) => encode_any v t W ((h.below hb).more hb.size) (by omega))
 have hlen : (digT t).length = 16 := digestOf_len _
 have CO := hide (fun A n c (W : World) (hr : Reads W W.heap.size 1 A n ([Wr.encT (taOf t)].map VS)) hK => of_any 8 A n c [Wr.encT (taOf t)] W hr (by have := hr.1; simp at this; omega) (by
  rw [Wr.encL_cons, Wr.encL_nil, List.append_nil, Wr.encB_len]
  have := Wr.enc_le ((Wr.encT (taOf t)).length : Int)
  omega) hK)
 rw [show digestOf (inputOf 8 [Wr.encT (taOf t)]) = digT t from rfl] at CO
 obtain ⟨A0, A1, c0, c1, rfl, hrest⟩ := h
 have HL := hide hlen
 have HK := hide hK
 generalize digT t = D at *
 generalize Wr.encT (taOf t) = E at *
 have hzs := zero16
 clear hrest hlen hK hbig
 go_enter Tryd.func9, Tryd.ntmps9
 go_upto_region 1 with fail
 refine name_world fun V hV => ?_
 have VT := hide (show Blk V w.heap.size 29 #[.slice A0 t.r0.length c0, .slice A1 t.r1.length c1, .slice t.dig.ad t.dig.l.length t.dig.c, .slice t.cap.ad t.cap.l.length t.cap.c, .slice t.num.ad t.num.l.length t.num.c, .slice t.fin.ad t.fin.l.length t.fin.c, .slice t.sw.ad t.sw.l.length t.sw.c] by rw [← hV.out]; exact (Blk.new w _ _).alloc _)
 have VD := hide (show Dig V (w.heap.size + 1) Z16 by rw [← hV.out]; exact ⟨rfl, Blk.new2 w _ _ _⟩)
 have HV := hide (show Below w.heap.size w V by rw [← hV.out]; exact ((Below.refl _ _).alloc (Nat.le_refl _) _).alloc (by simp) _)
 have hvs : V.heap.size = w.heap.size + 1 + 1 := by rw [← hV.out]; simp
 clear hV hzs
 have k0 : V.cell? ⟨w.heap.size, 0, none⟩ = some (.slice A0 t.r0.length c0) := VT.out.cell 0
 have k1 : V.cell? ⟨w.heap.size, 1, none⟩ = some (.slice A1 t.r1.length c1) := VT.out.cell 1
 have k2 : V.cell? ⟨w.heap.size, 2, none⟩ = some (.slice t.dig.ad t.dig.l.length t.dig.c) := VT.out.cell 2
 have k3 : V.cell? ⟨w.heap.size, 3, none⟩ = some (.slice t.cap.ad t.cap.l.length t.cap.c) := VT.out.cell 3
 have k4 : V.cell? ⟨w.heap.size, 4, none⟩ = some (.slice t.num.ad t.num.l.length t.num.c) := VT.out.cell 4
 have k5 : V.cell? ⟨w.heap.size, 5, none⟩ = some (.slice t.fin.ad t.fin.l.length t.fin.c) := VT.out.cell 5
 have k6 : V.cell? ⟨w.heap.size, 6, none⟩ = some (.slice t.sw.ad t.sw.l.length t.sw.c) := VT.out.cell 6
 have hgd : w.heap.size + 1 < V.heap.size := by omega
 obtain ⟨gd, hgd'⟩ : ∃ gd, gd = w.heap.size + 1 := ⟨_, rfl⟩
 have HGD := hide hgd'
 rw [← hgd'] at VD hgd ⊢
 clear hgd' hvs
 go_wp2_with (first
  | (go_at_call 6; refine (unhide CE V HV.out).mono ?_; rintro e w4 ⟨v4, rfl, hown4, hb4⟩; obtain ⟨A4, c4, rfl, _, _⟩ := own_slice hown4; have hcv : (convert 23 9 (.slice A4 E.length c4)).run Tryd.prog w4 = .ok (.string (S E)) w4 := run_conv_reads (Reads.of_own hown4) 23 9 5 c4 Tryd.underlying23 Tryd.underlying5 Tryd.underlying9; have HB4 := hide (HV.out.trans (hb4.mono HV.out.size)); have VD4 := hide (VD.out.below hb4 hgd); have hg4 := VD4.out.2.lt; clear hown4 hb4)
  | (go_at_call 11; refine (unhide CO _ _ _ _ (reads_new w4 (VS E) 9) (HK.out.below (HB4.out.alloc HB4.out.size _) (Nat.le_refl _))).mono ?_; rintro e w7 ⟨rfl, hb7⟩; have HB7 := hide ((HB4.out.alloc HB4.out.size _).trans (hb7.mono (Nat.le_trans HB4.out.size (by simp)))); have VD7 := hide ((VD4.out.alloc _).below hb7 (by simp; omega)); clear hb7)
  | (with_reducible refine wpList_store_dig rfl (.tmp 2) (.tmp 7) rfl gd Z16 D rfl rfl VD7.out HL.out ?_; intro U hU))
 exact bodyPost_ret (v := .agg (BV D).toArray) (ret_dig Tryd.results9 _ rfl (VD7.out.put HL.out hU)) rfl ⟨rfl, below_row HB7.out (by have := HGD.out; omega) hU⟩
set_option maxHeartbeats 2000000 in
set_option maxRecDepth 100000 in
theorem refDigestT_any (v : Value) (t : Tb.Tab) (w : World) (h : TabX w w.heap.size v t) (hbig : (Wr.encT (taOf t)).length ≤ 1099511627000) (hK : RKLaid w) :
  Calls Tryd.prog 10 #[v] w fun e w' => e = .returned (.agg (BV (digT t)).toArray) ∧ Below w.heap.size w w' := by
 have CE := hide (fun (W : World) (hb : Below w.heap.size w W) => refEncode_any v t W ((h.below hb).more hb.size) (by omega))
 have hlen : (digT t).length = 16 := digestOf_len _
 have CO := hide (fun A n c (W : World) (hr : Reads W W.heap.size 1 A n ([Wr.encT (taOf t)].map VS)) hK => refOf_any 8 A n c [Wr.encT (taOf t)] W hr (by have := hr.1; simp at this; omega) (by
  rw [Wr.encL_cons, Wr.encL_nil, List.append_nil, Wr.encB_len]
  have := Wr.enc_le ((Wr.encT (taOf t)).length : Int)
  omega) hK)
 rw [show digestOf (inputOf 8 [Wr.encT (taOf t)]) = digT t from rfl] at CO
 obtain ⟨A0, A1, c0, c1, rfl, hrest⟩ := h
 have HL := hide hlen
 have HK := hide hK
 generalize digT t = D at *
 generalize Wr.encT (taOf t) = E at *
 have hzs := zero16
 clear hrest hlen hK hbig
 go_enter Tryd.func10, Tryd.ntmps10
 go_upto_region 1 with fail
 refine name_world fun V hV => ?_
 have VT := hide (show Blk V w.heap.size 29 #[.slice A0 t.r0.length c0, .slice A1 t.r1.length c1, .slice t.dig.ad t.dig.l.length t.dig.c, .slice t.cap.ad t.cap.l.length t.cap.c, .slice t.num.ad t.num.l.length t.num.c, .slice t.fin.ad t.fin.l.length t.fin.c, .slice t.sw.ad t.sw.l.length t.sw.c] by rw [← hV.out]; exact (Blk.new w _ _).alloc _)
 have VD := hide (show Dig V (w.heap.size + 1) Z16 by rw [← hV.out]; exact ⟨rfl, Blk.new2 w _ _ _⟩)
 have HV := hide (show Below w.heap.size w V by rw [← hV.out]; exact ((Below.refl _ _).alloc (Nat.le_refl _) _).alloc (by simp) _)
 have hvs : V.heap.size = w.heap.size + 1 + 1 := by rw [← hV.out]; simp
 clear hV hzs
 have k0 : V.cell? ⟨w.heap.size, 0, none⟩ = some (.slice A0 t.r0.length c0) := VT.out.cell 0
 have k1 : V.cell? ⟨w.heap.size, 1, none⟩ = some (.slice A1 t.r1.length c1) := VT.out.cell 1
 have k2 : V.cell? ⟨w.heap.size, 2, none⟩ = some (.slice t.dig.ad t.dig.l.length t.dig.c) := VT.out.cell 2
 have k3 : V.cell? ⟨w.heap.size, 3, none⟩ = some (.slice t.cap.ad t.cap.l.length t.cap.c) := VT.out.cell 3
 have k4 : V.cell? ⟨w.heap.size, 4, none⟩ = some (.slice t.num.ad t.num.l.length t.num.c) := VT.out.cell 4
 have k5 : V.cell? ⟨w.heap.size, 5, none⟩ = some (.slice t.fin.ad t.fin.l.length t.fin.c) := VT.out.cell 5
 have k6 : V.cell? ⟨w.heap.size, 6, none⟩ = some (.slice t.sw.ad t.sw.l.length t.sw.c) := VT.out.cell 6
 have hgd : w.heap.size + 1 < V.heap.size := by omega
 obtain ⟨gd, hgd'⟩ : ∃ gd, gd = w.heap.size + 1 := ⟨_, rfl⟩
 have HGD := hide hgd'
 rw [← hgd'] at VD hgd ⊢
 clear hgd' hvs
 go_wp2_with (first
  | (go_at_call 8; refine (unhide CE V HV.out).mono ?_; rintro e w4 ⟨v4, rfl, hown4, hb4⟩; obtain ⟨A4, c4, rfl, _, _⟩ := own_slice hown4; have hcv : (convert 23 9 (.slice A4 E.length c4)).run Tryd.prog w4 = .ok (.string (S E)) w4 := run_conv_reads (Reads.of_own hown4) 23 9 5 c4 Tryd.underlying23 Tryd.underlying5 Tryd.underlying9; have HB4 := hide (HV.out.trans (hb4.mono HV.out.size)); have VD4 := hide (VD.out.below hb4 hgd); have hg4 := VD4.out.2.lt; clear hown4 hb4)
  | (go_at_call 29; refine (unhide CO _ _ _ _ (reads_new w4 (VS E) 9) (HK.out.below (HB4.out.alloc HB4.out.size _) (Nat.le_refl _))).mono ?_; rintro e w7 ⟨rfl, hb7⟩; have HB7 := hide ((HB4.out.alloc HB4.out.size _).trans (hb7.mono (Nat.le_trans HB4.out.size (by simp)))); have VD7 := hide ((VD4.out.alloc _).below hb7 (by simp; omega)); clear hb7)
  | (with_reducible refine wpList_store_dig rfl (.tmp 2) (.tmp 7) rfl gd Z16 D rfl rfl VD7.out HL.out ?_; intro U hU))
 exact bodyPost_ret (v := .agg (BV D).toArray) (ret_dig Tryd.results10 _ rfl (VD7.out.put HL.out hU)) rfl ⟨rfl, below_row HB7.out (by have := HGD.out; omega) hU⟩
namespace Tb
theorem symC_noq (n : Nat) (h : n < 240) : low (symC n) ≠ 113 := by
 have H : ∀ n : Fin 240, low (symC n.val) ≠ 113 := by decide +kernel
 exact H ⟨n, h⟩
theorem symWord_noq (n : Nat) (h : n < 240) : ∀ c ∈ symWord n, low c ≠ 113 := by
 have H : ∀ n : Fin 240, ∀ c ∈ symWord n.val, low c ≠ 113 := by decide +kernel
 exact H ⟨n, h⟩
theorem symsT_noq (l : List Int) : ∀ x ∈ symsT l, low x.2 ≠ 113 := by
 refine Wr.snoc_ind (P := fun l => ∀ x ∈ (symsS l).1, low x.2 ≠ 113) (fun x h => by cases h) (fun l a ih => ?_) l
 rw [symsS_snoc]
 have hn := Ce.around_lt a 240 (by decide)
 generalize symsS l = s at *
 generalize Ce.around a 240 = n at *
 unfold symStep
 by_cases h : s.1.length < 24
 ·rw [if_pos h]
  intro x hx
  have hn' := Ce.around_lt a 240 (by decide)
  unfold symMore at hx
  rcases List.mem_append.1 hx with hx | hx
  ·exact ih x hx
  ·rcases List.mem_cons.1 hx with hx | hx
   ·subst hx
    exact symC_noq _ hn'
   ·obtain ⟨c, hc, rfl⟩ := List.mem_map.1 hx
    exact symWord_noq _ hn' c (List.mem_of_mem_take hc)
 ·rw [if_neg h]
  exact ih
def qR : Rl := mkR [113, 113, 113] 0 [9]
def moreT (t : Tab) : Tab := { t with r0 := t.r0 ++ [qR] }
theorem at_noq (l : List Int) (p : Nat) : low (at_ (symsT l) p).2 ≠ 113 := by
 unfold at_
 rcases Nat.lt_or_ge p (symsT l).length with h | h
 ·simp only [List.getD, List.getElem?_eq_getElem h, Option.getD_some]
  exact symsT_noq l _ (List.getElem_mem h)
 ·simp only [List.getD, List.getElem?_eq_none h, Option.getD_none]
  decide
theorem qR_fits (l : List Int) (p : Nat) : fits qR (symsT l) p = false := by
 have h : standsAt [113, 113, 113] (symsT l) p 0 = false := by
  unfold standsAt
  rw [if_pos rfl, decide_eq_false (show ¬ (low (at_ (symsT l) (p + 0)).2 = ([113, 113, 113] : List UInt8).getD 0 0) from at_noq l _), Bool.false_and]
 have h2 : stands [113, 113, 113] (symsT l) p = false := by
  unfold stands
  rw [Bool.and_eq_false_iff]
  right
  rw [List.all_eq_false]
  exact ⟨0, by decide, by rw [h]; simp⟩
 show (stands [113, 113, 113] (symsT l) p && _) = false
 rw [h2, Bool.false_and]
theorem pieceAt_more (rs : List Rl) (t : Tab) (s : St) (l : List Int) (p i : Nat) (hi : i < rs.length) : pieceAt (rs ++ [qR]) (moreT t) s (symsT l) p i = pieceAt rs t s (symsT l) p i := by
 unfold pieceAt
 rw [List.getElem?_append_left hi]
 rfl
theorem filterMap_alike {α β : Type} (f g : α → Option β) : ∀ (xs : List α), (∀ x ∈ xs, f x = g x) → xs.filterMap f = xs.filterMap g
 | [], _ => rfl
 | x :: xs, h => by
  rw [List.filterMap_cons, List.filterMap_cons, h x (by simp), filterMap_alike f g xs fun y hy => h y (by simp [hy])]
theorem pieces_more (rs : List Rl) (t : Tab) (s : St) (l : List Int) (p : Nat) : pieces (rs ++ [qR]) (moreT t) s (symsT l) p = pieces rs t s (symsT l) p := by
 unfold pieces
 rw [List.length_append, List.length_singleton, pieces_step]
 have h1 : pieceAt (rs ++ [qR]) (moreT t) s (symsT l) p rs.length = none := by
  unfold pieceAt
  rw [List.getElem?_append_right (Nat.le_refl _), Nat.sub_self]
  show (if fits qR (symsT l) p = true then _ else none) = none
  rw [qR_fits, if_neg (by decide)]
 rw [h1, Option.toList_none, List.append_nil]
 exact filterMap_alike _ _ _ fun i hi => pieceAt_more rs t s l p i (List.mem_range.1 hi)
theorem next_more (t : Tab) (s : St) (l : List Int) (p : Nat) : next (moreT t) s (symsT l) p = next t s (symsT l) p := by
 have h : pieces (rulesOf (moreT t) s.lang) (moreT t) s (symsT l) p = pieces (rulesOf t s.lang) t s (symsT l) p := by
  unfold rulesOf
  by_cases h0 : s.lang = 0
  ·rw [if_pos h0, if_pos h0]
   exact pieces_more t.r0 t s l p
  ·rw [if_neg h0, if_neg h0]
   show pieces t.r1 (moreT t) s (symsT l) p = pieces t.r1 t s (symsT l) p
   rfl
 unfold next
 rw [h]
 rfl
theorem qR_key (n : Int) : key qR ∉ (once (rawR n 0)).map key := by
 intro h
 obtain ⟨r, hr, hk⟩ := List.mem_map.1 h
 have hr := once_sub _ r hr
 have ht : r.text = [113, 113, 113] := congrArg Prod.fst hk
 unfold rawR at hr
 rcases List.mem_append.1 hr with hr | hr
 ·rcases List.mem_append.1 hr with hr | hr
  ·obtain ⟨i, _, rfl⟩ := List.mem_map.1 hr
   have := congrArg List.length ht
   simp [letterR, mkR] at this
  ·obtain ⟨i, _, rfl⟩ := List.mem_map.1 hr
   have := congrArg List.length ht
   simp [markR, mkR] at this
 ·obtain ⟨i, _, rfl⟩ := List.mem_map.1 hr
  have h2 : words.getD (wordOf n 0 i) [] = [113, 113, 113] := ht
  have H : ∀ k : Fin 12, words.getD k.val [] ≠ [113, 113, 113] := by decide
  have hlt : wordOf n 0 i < 12 := Ce.around_lt _ _ (by decide)
  exact H ⟨_, hlt⟩ h2
theorem valid_moreT (t : Tab) (hv : valid t = 0) (hlen : t.r0.length ≤ 40) (hk : key qR ∉ t.r0.map key) : valid (moreT t) = 0 := by
 obtain ⟨l0, l1, hp, n0, n1, o0, o1⟩ := valid_zero hv
 have hm0 : (moreT t).r0 = t.r0 ++ [qR] := rfl
 have hm1 : (moreT t).r1 = t.r1 := rfl
 have hpm : proper (moreT t) = true := by
  unfold proper at hp ⊢
  rw [hm0, hm1, List.all_append]
  simp only [Bool.and_eq_true] at hp ⊢
  obtain ⟨⟨⟨⟨⟨⟨⟨h1, h2⟩, h3⟩, h4⟩, h5⟩, h6⟩, h7⟩, h8⟩ := hp
  exact ⟨⟨⟨⟨⟨⟨⟨⟨h1, by decide⟩, h2⟩, h3⟩, h4⟩, h5⟩, h6⟩, h7⟩, h8⟩
 have hlm : lone (t.r0 ++ [qR]) = true := by
  unfold lone at n0 ⊢
  rw [decide_eq_true_eq] at n0 ⊢
  rw [List.map_append, List.nodup_append]
  refine ⟨n0, by simp, fun a ha b hb => ?_⟩
  rw [List.map_singleton, List.mem_singleton] at hb
  subst hb
  rintro rfl
  exact hk ha
 have hom : owns (t.r0 ++ [qR]) = true := by
  unfold owns at o0 ⊢
  rw [List.all_eq_true] at o0 ⊢
  intro i hi
  have := o0 i hi
  unfold ownsC at this ⊢
  rw [decide_eq_true_eq] at this ⊢
  rw [List.map_append]
  exact List.mem_append_left _ this
 unfold valid
 rw [hm0, hm1, hpm, hlm, hom, n1, o1, List.length_append, List.length_singleton, if_neg (by omega)]
 rfl
theorem valid_more (n : Int) : valid (moreT (tablesT n)) = 0 := by
 have hr0 : (tablesT n).r0 = once (rawR n 0) := by unfold tablesT; simp only []
 have hlen : (tablesT n).r0.length ≤ 40 := by rw [hr0]; exact Nat.le_trans (once_len _) (rawR_len n 0)
 have hk : key qR ∉ (tablesT n).r0.map key := by rw [hr0]; exact qR_key n
 exact valid_moreT _ (valid_tablesT n) hlen hk
theorem steps_more (n : Int) (s : St) (l : List Int) (p : Int) : steps (moreT (tablesT n)) s (symsT l) p = steps (tablesT n) s (symsT l) p := by
 unfold steps
 rw [valid_more, valid_tablesT, next_more]
end Tb
namespace Wr
theorem encL_len_le {α : Type} (e : α → List UInt8) (m : Nat) (xs : List α) (h : ∀ x ∈ xs, (e x).length ≤ m) : (encL e xs).length ≤ xs.length * m := by
 induction xs with
 | nil => simp [encL]
 | cons x xs ih =>
  rw [encL_cons, List.length_append, List.length_cons, Nat.succ_mul]
  have h1 := ih (fun l hl => h l (List.mem_cons.2 (.inr hl)))
  have h2 := h x (List.mem_cons.2 (.inl rfl))
  omega
theorem encB_len9 (s : List UInt8) : (encB s).length ≤ 9 + s.length := by
 unfold encB
 rw [List.length_append]
 have := enc_le (s.length : Int)
 omega
theorem decT_len (l : List UInt8) (h : (decT l).2.2 = 0) : (encT (decT l).1).length ≤ l.length := by
 obtain ⟨_, _, h3⟩ := codecTables.canon l h
 rw [← h3, List.length_take]
 omega
end Wr
theorem langs_len (rs : List Tb.Rl) (hn : rs.length ≤ 700) (h : ∀ r ∈ rs, r.cells.l.length ≤ 1048576 ∧ r.text.length ≤ 1048576) : (Wr.encN Wr.encR (rs.map ru)).length ≤ 1500000000 := by
 unfold Wr.encN
 rw [List.length_append]
 have h1 := Wr.enc_le ((rs.map ru).length : Int)
 have h2 := Wr.encL_len_le Wr.encR 2097200 (rs.map ru) (fun x hx => by
  obtain ⟨r, hr, rfl⟩ := List.mem_map.1 hx
  rw [encR_ru, List.length_append, List.length_append]
  have a1 := Wr.encB_len9 r.text
  have a2 := Wr.encB_len9 r.cells.l
  have a3 := Wr.enc_le r.wh
  have := h r hr
  have b1 := Wr.enc_le (r.text.length : Int)
  have b2 := Wr.enc_le (r.cells.l.length : Int)
  omega)
 rw [List.length_map] at h2
 have h3 := Nat.mul_le_mul_right 2097200 hn
 omega
theorem encT_bound {w : World} {B m : Nat} {v : Value} {t : Tb.Tab} (h : TabAt w B v t) (hf : Fit m t) (hm : m ≤ 700) : (Wr.encT (taOf t)).length ≤ 4000000000 := by
 obtain ⟨A0, A1, c0, c1, _, hr0, hr1, _, _, hd, hc, hn, hfn, hs⟩ := h
 obtain ⟨f0, f1, _, _⟩ := hf
 rw [encT_parts, List.length_append]
 have e2 : encK t 2 = Wr.encN Wr.encR (t.r0.map ru) ++ Wr.encN Wr.encR (t.r1.map ru) := rfl
 have a0 := langs_len t.r0 (by omega) (fun r hr => ⟨(hr0.2.1 r hr).1.2.2, (hr0.2.1 r hr).2.1⟩)
 have a1 := langs_len t.r1 (by omega) (fun r hr => ⟨(hr1.2.1 r hr).1.2.2, (hr1.2.1 r hr).2.1⟩)
 have a2 : (Wr.encN Wr.encB (fiveOf t)).length ≤ 9 + 5 * 1048600 := by
  unfold Wr.encN
  rw [List.length_append]
  have h1 := Wr.enc_le ((fiveOf t).length : Int)
  have h2 := Wr.encL_len_le Wr.encB 1048600 (fiveOf t) (fun x hx => by
   have := Wr.encB_len9 x
   have b1 := Wr.enc_le (x.length : Int)
   have hx5 : x.length ≤ 1048576 := by
    unfold fiveOf at hx
    simp only [List.mem_cons, List.not_mem_nil, or_false] at hx
    rcases hx with rfl | rfl | rfl | rfl | rfl
    ·exact hd.2.2
    ·exact hc.2.2
    ·exact hn.2.2
    ·exact hfn.2.2
    ·exact hs.2.2
   omega)
  have h3 : (fiveOf t).length = 5 := rfl
  rw [h3] at h2
  omega
 rw [e2, List.length_append]
 omega
theorem okT_of {w : World} {B : Nat} {v : Value} {t : Tb.Tab} (h : TabAt w B v t) : Wr.okT (taOf t) := by
 obtain ⟨A0, A1, c0, c1, _, hr0, hr1, _, _, hd, hc, hn, hfn, hs⟩ := h
 have key : ∀ (A : Option Addr) (rs : List Tb.Rl), RulesAt w B A rs → Wr.okN Wr.okR (rs.map ru) := fun A rs hr => by
  refine ⟨fun x hx => ?_, by rw [List.length_map]; have := hr.2.2; omega⟩
  obtain ⟨r, hm, rfl⟩ := List.mem_map.1 hx
  have h1 := hr.2.1 r hm
  exact ⟨by show r.text.length ≤ _; omega, h1.2.2, by have := h1.1.2.2; show r.cells.l.length ≤ _; omega⟩
 refine ⟨⟨key _ _ hr0, key _ _ hr1⟩, fun x hx => ?_, rfl⟩
 unfold taOf fiveOf at hx
 simp only [List.mem_cons, List.not_mem_nil, or_false] at hx
 show x.length ≤ _
 rcases hx with rfl | rfl | rfl | rfl | rfl
 ·have := hd.2.2; omega
 ·have := hc.2.2; omega
 ·have := hn.2.2; omega
 ·have := hfn.2.2; omega
 ·have := hs.2.2; omega
theorem nil_len : (Wr.encT (taOf nilTab)).length ≤ 100 := by
 have e : Wr.encT (taOf nilTab) = (Wr.enc 0 ++ [] ++ (Wr.enc 0 ++ [])) ++ (Wr.enc 5 ++ Wr.encL Wr.encB [[], [], [], [], []]) := rfl
 rw [e]
 simp only [List.length_append, List.length_nil]
 have h1 := Wr.enc_le 0
 have h2 := Wr.enc_le 5
 have h3 := Wr.encL_len_le Wr.encB 9 [[], [], [], [], []] (fun x hx => by
  have hx0 : x = [] := by simpa using hx
  subst hx0
  exact Nat.le_trans (Wr.encB_len9 []) (by decide))
 simp only [List.length_cons, List.length_nil] at h3
 omega
theorem decoded_len {l : List UInt8} {t : Tb.Tab} (h1 : (Wr.decT l).2.2 = 0 → taOf t = (Wr.decT l).1) (h2 : (Wr.decT l).2.2 ≠ 0 → t = nilTab) : (Wr.encT (taOf t)).length ≤ l.length + 100 := by
 by_cases h : (Wr.decT l).2.2 = 0
 ·rw [h1 h]
  have := Wr.decT_len l h
  omega
 ·rw [h2 h]
  have := nil_len
  omega
theorem decoded_same {l : List UInt8} {t u : Tb.Tab} (h1 : (Wr.decT l).2.2 = 0 → taOf t = (Wr.decT l).1) (h2 : (Wr.decT l).2.2 ≠ 0 → t = nilTab) (k1 : (Wr.decT l).2.2 = 0 → taOf u = (Wr.decT l).1) (k2 : (Wr.decT l).2.2 ≠ 0 → u = nilTab) : taOf t = taOf u := by
 by_cases h : (Wr.decT l).2.2 = 0
 ·rw [h1 h, k1 h]
 ·rw [h2 h, k2 h]
theorem reads_take {w : World} {B n : Nat} {A : Option Addr} {xs : List Value} (hr : Reads w B 1 A n xs) (m : Nat) (hm : m ≤ n) : Reads w B 1 A m (xs.take m) := by
 have hl : xs.length = n := by have := hr.1; omega
 refine ⟨by rw [List.length_take]; omega, fun h0 => ?_⟩
 obtain ⟨ad, e, hb, hc⟩ := hr.2 (by omega)
 refine ⟨ad, e, hb, fun j u hj => hc j u ?_⟩
 rw [List.getElem?_take] at hj
 split at hj
 ·exact hj
 ·cases hj
set_option maxHeartbeats 1000000 in
set_option maxRecDepth 100000 in
theorem refFewX_any (A : Option Addr) (n c most : Nat) (l : List UInt8) (w : World) (hr : Reads w w.heap.size 1 A n (BV l)) (hnc : n ≤ c) (hA : A = none → c = 0) (hc : c ≤ maxLen) (hm : most ≤ 1000) :
  Calls Tryd.prog 13 #[.slice A n c, .int .i64 (most : Int)] w fun e w' => ∃ v, e = .returned v ∧ w'.ownsRow w.heap.size 5 1 v (min n most) (BV (l.take (min n most))) ∧ Below w.heap.size w w' := by
 obtain ⟨i0, hi, hz0, hz1, hz2⟩ := info_parts byteInfo
 have HI := hide hi
 have HZ0 := hide hz0
 have HZ1 := hide hz1
 have HZ2 := hide hz2
 have hrt := reads_take hr (min n most) (by omega)
 rw [show (BV l).take (min n most) = BV (l.take (min n most)) by unfold BV; rw [List.map_take]] at hrt
 have HRT := hide hrt
 have hmc : (min n most : Nat) ≤ 1000 := by omega
 have HB0 := hide (Below.refl w.heap.size w)
 have hc9 : (c : Int) ≤ 9223372036854775807 := by unfold maxLen at hc; omega
 have hncI : (n : Int) ≤ (c : Int) := by omega
 have hn0 : (0 : Int) ≤ (n : Int) := by omega
 have hm0 : (0 : Int) ≤ (most : Int) := by omega
 have hm1 : (most : Int) ≤ 1000 := by omega
 clear hi hz0 hz1 hz2 hrt hr hc
 by_cases hle : n ≤ most
 ·rw [Nat.min_eq_left hle] at *
  have h1 : ¬ ((most : Int) < (n : Int)) := by omega
  rcases A with _ | ad
  ·have hc0 := hA rfl
   subst hc0
   have hn00 : n = 0 := by omega
   subst hn00
   clear hA
   go_enter Tryd.func13, Tryd.ntmps13
   go_wp2_with (at_builtin; refine wpList_append_any _ rfl (.tmp 6) (.tmp 12) 23 rfl w.heap.size 5 i0 (.int .u8 0) 1 1 Tryd.underlying23 HI.out HZ0.out HZ1.out HZ2.out rfl (by omega) _ 0 [] rfl (World.ownsRow_nil _ _ _ _) _ none 0 0 (BV (l.take 0)) rfl HRT.out (BV_one _) (by unfold maxLen; omega) (by omega) (Nat.le_refl _) ?_; intro v2 w2 hown2 hgrow2 hat2; have HO2 := hide hown2; have hgrow3 : w.grownBy w2 none := hgrow2; have HB2 := hide (HB0.out.grown hgrow3 (Nat.le_refl _) (fun k hk => by cases hk)); clear hown2 hgrow2 hat2 hgrow3)
   go_ret
   have ho : w2.ownsRow w.heap.size 5 1 v2 0 (BV (l.take 0)) := HO2.out
   exact ⟨v2, rfl, ho, HB2.out⟩
  ·go_enter Tryd.func13, Tryd.ntmps13
   go_wp2_with (at_builtin; refine wpList_append_any _ rfl (.tmp 6) (.tmp 12) 23 rfl w.heap.size 5 i0 (.int .u8 0) 1 1 Tryd.underlying23 HI.out HZ0.out HZ1.out HZ2.out rfl (by omega) _ 0 [] rfl (World.ownsRow_nil _ _ _ _) _ (some ad) n c (BV (l.take n)) rfl HRT.out (BV_one _) (by unfold maxLen; omega) (by omega) (Nat.le_refl _) ?_; intro v2 w2 hown2 hgrow2 hat2; have HO2 := hide hown2; have hgrow3 : w.grownBy w2 none := hgrow2; have HB2 := hide (HB0.out.grown hgrow3 (Nat.le_refl _) (fun k hk => by cases hk)); clear hown2 hgrow2 hat2 hgrow3)
   go_ret
   have ho := HO2.out
   rw [Nat.zero_add, List.nil_append] at ho
   exact ⟨v2, rfl, ho, HB2.out⟩
 ·rw [Nat.min_eq_right (by omega)] at *
  have h1 : ((most : Int) < (n : Int)) := by omega
  rcases A with _ | ad
  ·have hc0 := hA rfl
   omega
  ·have h2 : (most : Int) ≤ (c : Int) := by omega
   go_enter Tryd.func13, Tryd.ntmps13
   go_wp2_with (at_builtin; refine wpList_append_any _ rfl (.tmp 6) (.tmp 12) 23 rfl w.heap.size 5 i0 (.int .u8 0) 1 1 Tryd.underlying23 HI.out HZ0.out HZ1.out HZ2.out rfl (by omega) _ 0 [] rfl (World.ownsRow_nil _ _ _ _) _ (some ad) most c (BV (l.take most)) rfl HRT.out (BV_one _) (by unfold maxLen; omega) (by omega) (Nat.le_refl _) ?_; intro v2 w2 hown2 hgrow2 hat2; have HO2 := hide hown2; have hgrow3 : w.grownBy w2 none := hgrow2; have HB2 := hide (HB0.out.grown hgrow3 (Nat.le_refl _) (fun k hk => by cases hk)); clear hown2 hgrow2 hat2 hgrow3)
   go_ret
   have ho := HO2.out
   rw [Nat.zero_add, List.nil_append] at ho
   exact ⟨v2, rfl, ho, HB2.out⟩
theorem own_opt {w : World} {b e n : Nat} {v : Value} {xs : List Value} (h : w.ownsRow b e 1 v n xs) : ∃ A c, v = .slice A n c ∧ n ≤ c ∧ (A = none → c = 0) ∧ Reads w w.heap.size 1 A n xs := by
 have hr : ∀ A c, v = .slice A n c → Reads w w.heap.size 1 A n xs := fun A c e => by subst e; exact Reads.of_own h
 obtain ⟨A, c, hv, hc, _⟩ := own_slice h
 rcases h.2 with ⟨h0, hn⟩ | ⟨g, cap, cur, h1, h2, _⟩
 ·subst hn
  exact ⟨none, 0, h0, Nat.le_refl _, fun _ => rfl, hr _ _ h0⟩
 ·have h3 := h1
  rw [hv] at h3
  injection h3 with e1 e2 e3
  subst e1
  exact ⟨_, c, hv, hc, (fun e => by cases e), hr _ _ hv⟩
theorem decT_nil : Wr.decT [] = ((([], []), []), 0, 3) := by rfl
theorem decodeT_opt (A : Option Addr) (n c : Nat) (l : List UInt8) (w : World) (hA : A = none → c = 0) (hr : Reads w w.heap.size 1 A n (BV l)) (hm : n ≤ 1099511627776) (hnc : n ≤ c) :
  Calls Tryd.prog 14 #[.slice A n c] w fun e w' => ∃ v t, e = .returned (.tuple #[v, .int .i64 ((Wr.decT l).2.1 : Nat), .int .i64 (Wr.decT l).2.2]) ∧ TabX w' w'.heap.size v t ∧ ((Wr.decT l).2.2 = 0 → taOf t = (Wr.decT l).1) ∧ ((Wr.decT l).2.2 ≠ 0 → t = nilTab) ∧ Below w.heap.size w w' := by
 cases A with
 | some ad => exact decodeT_any ad n c l w hr hm hnc
 | none =>
  have hc := hA rfl
  subst hc
  have hn : n = 0 := by omega
  subst hn
  have hl : l = [] := by
   have := hr.1
   rw [BV_len] at this
   exact List.eq_nil_of_length_eq_zero (by omega)
  subst hl
  refine (decodeT_nil w).mono ?_
  rintro e w' ⟨rfl, hb⟩
  rw [decT_nil]
  exact ⟨_, nilTab, rfl, (nil_tab w').x, fun h => absurd h (show ¬ ((3 : Int) = 0) by decide), fun _ => rfl, hb⟩
theorem refDecodeT_opt (A : Option Addr) (n c : Nat) (l : List UInt8) (w : World) (hA : A = none → c = 0) (hr : Reads w w.heap.size 1 A n (BV l)) (hm : n ≤ 1099511627776) (hnc : n ≤ c) :
  Calls Tryd.prog 15 #[.slice A n c] w fun e w' => ∃ v t, e = .returned (.tuple #[v, .int .i64 ((Wr.decT l).2.1 : Nat), .int .i64 (Wr.decT l).2.2]) ∧ TabX w' w'.heap.size v t ∧ ((Wr.decT l).2.2 = 0 → taOf t = (Wr.decT l).1) ∧ ((Wr.decT l).2.2 ≠ 0 → t = nilTab) ∧ Below w.heap.size w w' := by
 cases A with
 | some ad => exact refDecodeT_any ad n c l w hr hm hnc
 | none =>
  have hc := hA rfl
  subst hc
  have hn : n = 0 := by omega
  subst hn
  have hl : l = [] := by
   have := hr.1
   rw [BV_len] at this
   exact List.eq_nil_of_length_eq_zero (by omega)
  subst hl
  refine (refDecodeT_nil w).mono ?_
  rintro e w' ⟨rfl, hb⟩
  rw [decT_nil]
  exact ⟨_, nilTab, rfl, (nil_tab w').x, fun h => absurd h (show ¬ ((3 : Int) = 0) by decide), fun _ => rfl, hb⟩
def gBs (l : List UInt8) : World → Value → Prop := fun W v => ∃ A c, v = .slice A l.length c ∧ Reads W W.heap.size 1 A l.length (BV l)
theorem stab_bs (l : List UInt8) : Stab (gBs l) := fun _ _ _ hb ⟨A, c, h1, h2⟩ => ⟨A, c, h1, (h2.below hb).more hb.size⟩
theorem gBs_own {w : World} {b e : Nat} {v : Value} {l : List UInt8} (h : w.ownsRow b e 1 v l.length (BV l)) : gBs l w v := by
 obtain ⟨A, c, hv, _, _, hr⟩ := own_opt h
 exact ⟨A, c, hv, hr⟩
theorem sameBs_call (l : List UInt8) (v1 v2 : Value) (W : World) (h1 : gBs l W v1) (h2 : gBs l W v2) (hl : l.length ≤ 1099511627776) :
  Calls Tryd.prog 7 #[v1, v2] W fun e w' => e = .returned (.bool true) ∧ Below W.heap.size W w' := by
 obtain ⟨A, c, rfl, hr1⟩ := h1
 obtain ⟨B, d, rfl, hr2⟩ := h2
 refine (same_eqF A B l.length c d (BV l) (fun k => ((l.getD k 0).toNat : Int)) W (fun k hk => ?_) hr1 hr2 (by unfold maxLen; omega)).mono ?_
 ·have hk' : k < l.length := by rw [BV_len] at hk; exact hk
  have h := BV_get l k hk'
  rw [List.getElem?_eq_getElem hk] at h
  injection h with h
  rw [h]
  simp [List.getD, hk']
 ·rintro e w' ⟨rfl, q, rfl⟩
  exact ⟨rfl, below_drewN (Below.refl _ _) q⟩
theorem unwanted_of {ops : Array Oper} {o : Oper} {A : Act} (j : Nat) (t : Tmp) (b : Bool) (v : Value) (hg : o.guard = some (j, b)) (hj : (ops[j]?).bind (·.dst) = some t) (hv : A.tmps[t]?.getD undef = v) (hn : (match v with | .bool c => c == b | _ => false) = false) : ¬ Region.wanted o (yielded ops A.tmps) = true := by
 unfold Region.wanted
 rw [hg]
 show ¬ (yielded ops A.tmps j == some b) = true
 unfold yielded
 rw [hj]
 show ¬ ((match (A.tmps[t]?) with | some (.bool b) => some b | _ => none) == some b) = true
 cases h : A.tmps[t]? with
 | none => simp
 | some u =>
  rw [h] at hv
  have hv : u = v := hv
  subst hv
  cases u with
  | bool c =>
   intro h9
   have h8 : (c == b) = false := hn
   have h7 : (some c == some b) = true := h9
   simp at h7 h8
   exact h8 h7
  | _ => simp
end Go.Proofs.YtjnnohghgkjhcaaDoor
namespace Go.Proofs.YtjnnohghgkjhcaaDoor
set_option maxRecDepth 100000
open Go.ChangeShapes Go.WideShapes Go.ChangeAt Go.RowKit
set_option linter.unusedVariables false
set_option linter.unusedSimpArgs false
theorem own : ownKnob Tryd.prog.godebug = none := by kernel_rfl
theorem laidOut : laidOutB Tryd.prog = true := by kernel_rfl
section
variable {H : Type} {enc : TypeId × Value → H} {P : Program}
theorem trodAll_below (hl : laidOutB P = true) {W W' : World} (hb : Below W.heap.size W W') {sp : Nat → Bool} : ∀ {ts : List TypeId} {vs : List Value} {ds : List (DataW H)} {ps : List MemPlace},
  (ts.all fun t => P.readableRec t && decide (t < P.types.size)) = true → DataW.TrodAll enc P W 0 (fun _ => true) true ts vs ds ps → (∀ p ∈ ps, p.block < W.heap.size) → (∀ p ∈ ps, sp p.block = true) → DataW.TrodAll enc P W' 0 sp true ts vs ds ps
 | [], [], [], _, _, h, _, _ => h
 | t :: ts, _ :: _, _ :: _, _, hp, ⟨p, q, h1, h2, e⟩, hlt, hs => by
  simp only [List.all_cons, Bool.and_eq_true, decide_eq_true_eq] at hp
  refine ⟨p, q, WideElems.Trod_stays hl hp.1.1 hp.1.2 h1 (fun x hx => hb.same (hlt x (by rw [e]; exact List.mem_append_left _ hx))) (fun x hx => hs x (by rw [e]; exact List.mem_append_left _ hx)), ?_, e⟩
  exact trodAll_below hl hb hp.2 h2 (fun x hx => hlt x (by rw [e]; exact List.mem_append_right _ hx)) (fun x hx => hs x (by rw [e]; exact List.mem_append_right _ hx))
theorem post_law {f : Func} {s : ChangeSpec} {W W' : World} {args : Array Value} {ds gs : List (DataW H)} {before : List MemPlace} {tb : TypeId}
  (hl : laidOutB P = true) (hp : (f.params.toList.all fun t => P.readableRec t && decide (t < P.types.size)) = true)
  (hv : s.vars = []) (hr : f.resultTypes = #[tb]) (htb : P.underlying tb = some .bool)
  (hfn : s.fn H ds = { results := [.lit (.bool true)], args := ds })
  (hW : DataW.Whole enc P f.params.toList s.vars false W args.toList ds gs before) (hb : Below W.heap.size W W') :
  s.post enc P f false true false false W args (.bool true) W' := by
 have hlt : ∀ p ∈ before, p.block < W.heap.size := fun p hp => hW.lt p hp
 have hW' := hW
 obtain ⟨p, q, hA, hV, rfl, hfz, hnd⟩ := hW
 rw [hv] at hV
 obtain ⟨rfl, rfl⟩ := trodVars_none hV
 refine post_of_below (pa := p) (pv := []) hW' ?_ ?_ ?_ rfl hb ?_
 ·intro b sp hd
  rw [List.append_nil, hfn, hr]
  exact trodAll_cons_mk (shut_bool htb _) trodAll_mk0
 ·intro sp hsp
  rw [List.append_nil, hfn]
  exact trodAll_below hl hb hp hA (fun x hx => hlt x (by simpa using hx)) (fun x hx => hsp x (by simpa using hx))
 ·intro sp hsp
  rw [List.append_nil, hfn, hv]
  rfl
 ·exact ok_one hr rfl (okWide_bool_mk htb _)
end
theorem inI_of_wf {a : Int} (h : (Lit.int .i64 a).wf = true) : Wr.inI a := by
 simp [Lit.wf] at h
 exact h
section
variable {H : Type} {enc : TypeId × Value → H} {W : World}
theorem byte_of_wf {z : Int} (h : (Lit.int .u8 z).wf = true) : z = ((UInt8.ofNat z.toNat).toNat : Int) := by
 have hx : 0 ≤ z ∧ z ≤ 255 := by simpa [Lit.wf, IntKind.min, IntKind.max, IntKind.signed, IntKind.bits] using h
 simp only [UInt8.toNat_ofNat']
 omega
def Capped (d : DataW H) (c : Nat) : Prop := (d = .nil ∧ c = 0) ∨ ∃ elems spare, d = .slice elems spare ∧ elems.length + spare.length = c
theorem capped_sized {P : Program} {ts : List TypeId} {ds : List (DataW H)} (h : (DataW.weightsEach P ts ds).all (· ≤ reachBytes) = true) {j : Nat} {t e : TypeId} {d : DataW H} {c : Nat} (ht : ts[j]? = some t) (hd : ds[j]? = some d) (hu : P.underlying t = some (.slice e)) (hc : Capped d c) : c * P.bytesOf e ≤ 140737488351232 := by
 rcases hc with ⟨_, rfl⟩ | ⟨el, sp, rfl, rfl⟩
 ·simp
 ·exact sized_slice h ht hd hu
theorem bytes_int : Tryd.prog.bytesOf 3 = 8 := by kernel_rfl
theorem open_bytes {base : Nat} {v : Value} {d : DataW H} {ps : List MemPlace} (hval : Value.okWide Tryd.prog W .any base 23 v) (h : DataW.Trod enc Tryd.prog W 0 (fun _ => true) true 23 v d ps) :
  ∃ A n c l, v = .slice A n c ∧ Reads W W.heap.size 1 A n (BV l) ∧ n ≤ c ∧ c ≤ maxLen ∧ Capped d c ∧ (A = none → c = 0) := by
 obtain ⟨a0, len, cap, rfl⟩ := okWide_slice Tryd.underlying23 hval
 obtain ⟨fuel, hf⟩ := h
 rcases open_ints Tryd.underlying23 Tryd.underlying5 (by kernel_rfl) hf with ⟨hcs, hx⟩ | ⟨a, len', cap', zs, hcs, _, hl, hm, hz, hx, hcell, hwz⟩
 ·simp [Value.cells] at hcs
  obtain ⟨rfl, rfl, rfl⟩ := hcs
  simp only [Prod.mk.injEq] at hx
  exact ⟨none, 0, 0, [], rfl, Reads.none_, Nat.le_refl _, by unfold maxLen; omega, .inl ⟨hx.1, rfl⟩, fun _ => rfl⟩
 ·simp [Value.cells] at hcs
  obtain ⟨rfl, rfl, rfl⟩ := hcs
  simp only [if_true] at hz
  simp only [Prod.mk.injEq] at hx
  refine ⟨some a, len, cap, (zs.take len).map (fun z => UInt8.ofNat z.toNat), rfl, ⟨?_, fun hn => ⟨a, rfl, ?_, fun j u hj => ?_⟩⟩, hl, hm, .inr ⟨_, _, hx.1, by simp [lits]; omega⟩, fun h => by cases h⟩
  ·rw [BV_len, List.length_map, List.length_take]; omega
  ·have := hcell 0 (by omega)
   have := block_lt_of_cell this
   rwa [block_of_add] at this
  ·have hjl : j < len := by
    rcases Nat.lt_or_ge j len with h | h
    ·exact h
    ·rw [List.getElem?_eq_none (by rw [BV_len, List.length_map, List.length_take]; omega)] at hj; cases hj
   have hjz : j < zs.length := by omega
   rw [hcell j hjz]
   rw [BV_get _ j (by rw [List.length_map, List.length_take]; omega)] at hj
   injection hj with hj
   rw [← hj]
   simp only [List.getElem_map, List.getElem_take, List.getD, List.getElem?_eq_getElem hjz, Option.getD_some]
   rw [← byte_of_wf (hwz _ (List.getElem_mem hjz))]
theorem open_intRow {base : Nat} {v : Value} {d : DataW H} {ps : List MemPlace} (hval : Value.okWide Tryd.prog W .any base 22 v) (h : DataW.Trod enc Tryd.prog W 0 (fun _ => true) true 22 v d ps) :
  ∃ A n c, ∃ xs : List Int, v = .slice A n c ∧ Reads W W.heap.size 1 A n (xs.map (Value.int .i64)) ∧ n ≤ c ∧ c ≤ maxLen ∧ Capped d c ∧ (A = none → c = 0) ∧ ∀ x ∈ xs, Wr.inI x := by
 obtain ⟨a0, len, cap, rfl⟩ := okWide_slice Tryd.underlying22 hval
 obtain ⟨fuel, hf⟩ := h
 rcases open_ints Tryd.underlying22 Tryd.underlying3 (by kernel_rfl) hf with ⟨hcs, hx⟩ | ⟨a, len', cap', zs, hcs, _, hl, hm, hz, hx, hcell, hwz⟩
 ·simp [Value.cells] at hcs
  obtain ⟨rfl, rfl, rfl⟩ := hcs
  simp only [Prod.mk.injEq] at hx
  exact ⟨none, 0, 0, [], rfl, Reads.none_, Nat.le_refl _, by unfold maxLen; omega, .inl ⟨hx.1, rfl⟩, fun _ => rfl, by simp⟩
 ·simp [Value.cells] at hcs
  obtain ⟨rfl, rfl, rfl⟩ := hcs
  simp only [if_true] at hz
  simp only [Prod.mk.injEq] at hx
  refine ⟨some a, len, cap, zs.take len, rfl, ⟨?_, fun hn => ⟨a, rfl, ?_, fun j u hj => ?_⟩⟩, hl, hm, .inr ⟨_, _, hx.1, by simp [lits]; omega⟩, (fun h => by cases h), fun x hx => inI_of_wf (hwz x (List.mem_of_mem_take hx))⟩
  ·rw [List.length_map, List.length_take]; omega
  ·have := hcell 0 (by omega)
   have := block_lt_of_cell this
   rwa [block_of_add] at this
  ·have hjl : j < len := by
    rcases Nat.lt_or_ge j len with h | h
    ·exact h
    ·rw [List.getElem?_eq_none (by rw [List.length_map, List.length_take]; omega)] at hj; cases hj
   have hjz : j < zs.length := by omega
   rw [hcell j hjz]
   rw [List.getElem?_map, List.getElem?_take, if_pos hjl, List.getElem?_eq_getElem hjz] at hj
   simpa [List.getD, List.getElem?_eq_getElem hjz] using hj
end
end Go.Proofs.YtjnnohghgkjhcaaDoor
namespace Go.Proofs.YtjnnohghgkjhcaaDoor
open Go.ChangeShapes Go.WideShapes Go.ChangeAt Go.WideMaps Go.WideElems Go.RowKit
set_option linter.unusedVariables false
set_option linter.unusedSimpArgs false
def tableD {H : Type} : DataW H := .agg (Sha.K.map fun x => .lit (.int .u32 (x.toNat : Int)))
theorem row_of_table {W : World} {n : String} {g : Nat} {enc : TypeId × Value → Unit} {cs : Array Value} {f : Nat} {sp : Nat → Bool} {held : Bool} {b : Nat} {q : List MemPlace} (hg : Tryd.prog.globalNamed n = some g) (hv : W.var? Tryd.prog n = some cs)
  (hd : DataW.trod enc Tryd.prog W b sp held f 128 cs.toList = some (tableD, q)) : ∀ k, k < 64 → W.cell? ⟨g, k, none⟩ = some (U (Sha.K.getD k 0)) := by
 intro k hk
 obtain ⟨xs, m, rfl, hx, hlen, hn, hel⟩ := DataW.trod_array Tryd.underlying128 hd
 have c29 : Tryd.prog.cellsOf 64 = 1 := by kernel_rfl
 have hkk := hel k hk
 simp only [c29, Nat.mul_one] at hkk
 have hxk : xs[k]? = some (xs[k]'(by omega)) := List.getElem?_eq_getElem (by omega)
 rw [hxk] at hkk
 obtain ⟨z, e1, e2, _⟩ := DataW.trod_int Tryd.underlying64 hkk
 simp only [tableD, Prod.mk.injEq, DataW.agg.injEq] at hx
 have hK64 : Sha.K.length = 64 := rfl
 have h1 : (Sha.K.map fun x => (.lit (.int .u32 (x.toNat : Int)) : DataW Unit))[k]? = (xs.map (·.1))[k]? := by rw [hx.1]
 rw [List.getElem?_map, List.getElem?_map, hxk, e2, List.getElem?_eq_getElem (by omega)] at h1
 simp only [Option.map_some, Option.some.injEq, DataW.lit.injEq, Lit.int.injEq] at h1
 have hz : z = ((Sha.K.getD k 0).toNat : Int) := by
  rw [← h1.2, List.getD_eq_getElem?_getD, List.getElem?_eq_getElem (by omega)]
  rfl
 subst hz
 rw [World.var?_cell hg hv k]
 have hdk : cs.toList[k]? = some (Value.int .u32 ((Sha.K.getD k 0).toNat : Int)) := by
  have h2 : ((cs.toList.drop k).take 1)[0]? = some (Value.int .u32 ((Sha.K.getD k 0).toNat : Int)) := by rw [e1]; rfl
  rw [List.getElem?_take_of_lt (by omega), List.getElem?_drop] at h2
  simpa using h2
 simpa using hdk
abbrev laidTwo : List (String × DataW Unit) := [("dactyl/dactylref02.constants", Rows.laid_dactyl_dactylref02_constants), ("dactyl/hash.round", Rows.laid_dactyl_hash_round)]
theorem gConstants : Tryd.prog.globalNamed "dactyl/dactylref02.constants" = some 0 := by kernel_rfl
theorem gRound : Tryd.prog.globalNamed "dactyl/hash.round" = some 1 := by kernel_rfl
theorem tConstants : (Tryd.prog.globals[0]?).map (·.type) = some 128 := by kernel_rfl
theorem tRound : (Tryd.prog.globals[1]?).map (·.type) = some 128 := by kernel_rfl
theorem dConstants : (Rows.laid_dactyl_dactylref02_constants : DataW Unit) = tableD := by rfl
theorem dRound : (Rows.laid_dactyl_hash_round : DataW Unit) = tableD := by rfl
theorem door_two (os : Os) (args : Array Value) : laidMetH Tryd.prog laidTwo ((World.doorLaid Tryd.prog 40 os).forCall (fun _ _ => 0) ⟨#[], args, []⟩).memory :=
 laidMetH_of_parts3 (fuel := 8) (laidMet_of_run' 8 (by kernel_rfl) (by kernel_rfl)) (by kernel_rfl) (by kernel_rfl)
theorem of_two {W : World} (h : laidMetH Tryd.prog laidTwo W) : RKLaid W ∧ KLaid W := by
 rw [MakeChecks.laidMetH_plain _ _ _ (by kernel_rfl)] at h
 obtain ⟨ps, ⟨g0, t0, cs0, f0, p0, q0, hg0, ht0, hv0, hd0, ⟨g1, t1, cs1, f1, p1, q1, hg1, ht1, hv1, hd1, _, _⟩, _⟩, _, _⟩ := h
 obtain rfl := Option.some.inj (gConstants.symm.trans hg0)
 obtain rfl := Option.some.inj (gRound.symm.trans hg1)
 obtain rfl := Option.some.inj (tConstants.symm.trans ht0)
 obtain rfl := Option.some.inj (tRound.symm.trans ht1)
 rw [dConstants] at hd0
 rw [dRound] at hd1
 exact ⟨row_of_table hg0 hv0 hd0, row_of_table hg1 hv1 hd1⟩
end Go.Proofs.YtjnnohghgkjhcaaDoor
namespace Go.Proofs.YtjnnohghgkjhcaaDoor
open Go.RowKit
set_option linter.unusedVariables false
set_option linter.unusedSimpArgs false
theorem own_emptyR (w : World) : (w.alloc (.cells #[] 45)).ownsRow w.heap.size 45 3 (.slice (some ⟨w.heap.size, 0, none⟩) 0 0) 0 [] :=
 ⟨rfl, .inr ⟨w.heap.size, 0, #[], rfl, Nat.le_refl _, heap_alloc_new w _, Nat.le_refl _, by unfold maxLen; omega, rfl, rfl⟩⟩
def qAt (h : Nat) : Tb.Rl := ⟨[113, 113, 113], 0, ⟨[9], some ⟨h, 0, none⟩, 1⟩⟩
theorem tab_more {z Y : World} {b h : Nat} {A : Option Addr} {c : Nat} {s0 s1 s2 s3 s4 s5 s6 : Value} {u : Tb.Tab} (ht : TabAt z z.heap.size (.agg #[s0, s1, s2, s3, s4, s5, s6]) u) (hu : u.r0.length ≤ 40) (hb : Below z.heap.size z Y)
  (ho : Y.ownsRow b 45 3 (.slice A (u.r0.length + 1) c) (u.r0.length + 1) (RC u.r0 ++ ruC (qAt h))) (hh : Blk Y h 5 #[.int .u8 9]) :
  TabAt Y Y.heap.size (.agg #[.slice A (u.r0.length + 1) c, s1, s2, s3, s4, s5, s6]) { u with r0 := u.r0 ++ [qAt h] } := by
 obtain ⟨A0, A1, c0, c1, hv, hr0, hr1, hc0, hc1, hd, hc, hn, hf, hs⟩ := ht
 injection hv with hv
 have hv : [s0, s1, s2, s3, s4, s5, s6] = [Value.slice A0 u.r0.length c0, .slice A1 u.r1.length c1, .slice u.dig.ad u.dig.l.length u.dig.c, .slice u.cap.ad u.cap.l.length u.cap.c, .slice u.num.ad u.num.l.length u.num.c, .slice u.fin.ad u.fin.l.length u.fin.c, .slice u.sw.ad u.sw.l.length u.sw.c] := by simpa using hv
 simp only [List.cons.injEq, and_true] at hv
 obtain ⟨rfl, rfl, rfl, rfl, rfl, rfl, rfl⟩ := hv
 have hz := hb.size
 have M : ∀ {q : Tb.Bs}, BsAt z z.heap.size q → BsAt Y Y.heap.size q := fun h => (h.below hb).more hz
 have hlen : (u.r0 ++ [qAt h]).length = u.r0.length + 1 := by simp
 obtain ⟨A', c', e, hcc, _⟩ := own_slice ho
 injection e with e1 e2 e3
 subst e1 e3
 refine ⟨A, A1, c, c1, by rw [hlen], ⟨?_, fun r hr => ?_, by rw [hlen]; omega⟩, (hr1.below hb).more hz, by rw [hlen]; exact hcc, hc1, M hd, M hc, M hn, M hf, M hs⟩
 ·have := Reads.of_own ho
  rw [hlen, RC_append]
  show Reads Y Y.heap.size 3 A (u.r0.length + 1) (RC u.r0 ++ RC [qAt h])
  rw [show RC [qAt h] = ruC (qAt h) from by unfold RC; simp]
  exact this
 ·rcases List.mem_append.1 hr with hr | hr
  ·have := hr0.2.1 r hr
   exact ⟨M this.1, this.2⟩
  ·rw [List.mem_singleton] at hr
   subst hr
   exact ⟨bs_of_blk Y h [9] (by exact hh) (by decide), by show 3 ≤ 1048576; omega, by show Wr.inI 0; unfold Wr.inI; decide⟩
theorem eT_more {u : Tb.Tab} {n : Int} {h : Nat} (hu : Tb.eT u = Tb.tablesT n) : Tb.eT { u with r0 := u.r0 ++ [qAt h] } = Tb.moreT (Tb.tablesT n) := by
 rw [← hu]
 show Tb.Tab.mk ((u.r0 ++ [qAt h]).map Tb.eR) _ _ _ _ _ _ = Tb.Tab.mk (u.r0.map Tb.eR ++ [Tb.qR]) _ _ _ _ _ _
 rw [List.map_append]
 rfl
theorem steps_same {u : Tb.Tab} {n : Int} {h : Nat} (hu : Tb.eT u = Tb.tablesT n) (s : Tb.St) (l : List Int) (p : Int) : Tb.steps { u with r0 := u.r0 ++ [qAt h] } s (Tb.symsT l) p = Tb.steps u s (Tb.symsT l) p := by
 rw [← Tb.steps_eT, eT_more hu, Tb.steps_more, ← hu, Tb.steps_eT]
theorem reads_more (w6 : World) : Reads ((w6.alloc (.cells #[.int .u8 9] 5)).alloc (.cells #[.string { data := #[113, 113, 113] }, .int .i64 0, .slice (some ⟨w6.heap.size, 0, none⟩) 1 1] 45)) ((w6.alloc (.cells #[.int .u8 9] 5)).alloc (.cells #[.string { data := #[113, 113, 113] }, .int .i64 0, .slice (some ⟨w6.heap.size, 0, none⟩) 1 1] 45)).heap.size 3 (some ⟨w6.heap.size + 1, 0, none⟩) 1 (ruC (qAt w6.heap.size)) := by
 have h := Blk.new (w6.alloc (.cells #[.int .u8 9] 5)) 45 #[.string { data := #[113, 113, 113] }, .int .i64 0, .slice (some ⟨w6.heap.size, 0, none⟩) 1 1]
 have hs : (w6.alloc (.cells #[.int .u8 9] 5)).heap.size = w6.heap.size + 1 := by simp
 rw [hs] at h
 refine ⟨rfl, fun _ => ⟨_, rfl, h.lt, fun j u hj => ?_⟩⟩
 have : ((⟨w6.heap.size + 1, 0, none⟩ : Addr).add j) = ⟨w6.heap.size + 1, j, none⟩ := by simp [Addr.add]; intro h; omega
 rw [this, h.cell, ← hj]
 rw [List.getElem?_toArray]
 rfl
theorem ruC_one (r : Tb.Rl) : ∀ v ∈ ruC r, v.oneCell' = true := fun v hv => RC_one [r] v (by unfold RC; simpa using hv)
theorem cell_kept (w6 : World) {w8 : World} {row : Option Nat} (hg : ((w6.alloc (.cells #[.int .u8 9] 5)).alloc (.cells #[.string { data := #[113, 113, 113] }, .int .i64 0, .slice (some ⟨w6.heap.size, 0, none⟩) 1 1] 45)).grownBy w8 row) (hr : ∀ g, row = some g → g < w6.heap.size) : Blk w8 w6.heap.size 5 #[.int .u8 9] := by
 have h := (Blk.new w6 5 #[.int .u8 9]).alloc (.cells #[.string { data := #[113, 113, 113] }, .int .i64 0, .slice (some ⟨w6.heap.size, 0, none⟩) 1 1] 45)
 exact h.grown hg (fun e => by have := hr _ e.symm; omega)
theorem own_ne6 {w : World} {b e size n : Nat} {v : Value} {xs : List Value} (h : w.ownsRow b e size v n xs) : ∀ g, v.ownBlock = some g → g < w.heap.size := fun g hg => (h.lt g hg).2
end Go.Proofs.YtjnnohghgkjhcaaDoor
namespace Go.Proofs.YtjnnohghgkjhcaaDoor
open Go.RowKit
set_option linter.unusedVariables false
set_option linter.unusedSimpArgs false
end Go.Proofs.YtjnnohghgkjhcaaDoor
/-
 Tables: Fits of the reference, by contract.
-/
namespace Go.Proofs.YtjnnohghgkjhcaaDoor
open Go.RowKit
set_option linter.unusedVariables false
set_option linter.unusedSimpArgs false
namespace Tb
end Tb
end Go.Proofs.YtjnnohghgkjhcaaDoor
