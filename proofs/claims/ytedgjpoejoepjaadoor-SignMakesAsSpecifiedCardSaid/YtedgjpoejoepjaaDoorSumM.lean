/-
  The hash of a stream, by contract.
-/
import Derived.Test.YtedgjpoejoepjaaDoorFin
namespace Go.Proofs.YtedgjpoejoepjaaDoor
open Go.RowKit
set_option linter.unusedVariables false
set_option linter.unusedSimpArgs false

/-- thirty-two zero bytes -/
def Z32 : List UInt8 := List.replicate 32 0
theorem zero32 (W : World) : (zeroValue 84).run Tryd.prog W = .ok (.agg (BV Z32).toArray) W := by kernel_rfl
theorem size32 : (Tryd.prog.info? 84).map (·.size) = some 32 := by kernel_rfl
theorem bytes_set (D : List UInt8) (k : Nat) (hD : D.length = 32) (hk : k < 32) (x : UInt8) (hx : D[k]? = some x) : (BV (D.take k ++ Z32.drop k)).set k (.int .u8 (x.toNat : Int)) = BV (D.take (k + 1) ++ Z32.drop (k + 1)) := by
  have e : (BV (D.take k ++ Z32.drop k)).set k (.int .u8 (x.toNat : Int)) = BV ((D.take k ++ Z32.drop k).set k x) := by simp [BV, List.map_set]
  have hz : Z32.length = 32 := rfl
  have hl : (D.take k).length = k := by rw [List.length_take]; omega
  have hx' : D[k]'(by omega) = x := by rw [List.getElem?_eq_getElem (by omega)] at hx; injection hx
  rw [e, List.set_append_right _ _ (by omega), hl, Nat.sub_self, List.drop_eq_getElem_cons (by omega : k < Z32.length), List.set_cons_zero, List.take_succ_eq_append_getElem (by omega : k < D.length), List.append_assoc, hx']
  rfl
theorem shr_byte (L i : Nat) (hL : L ≤ 1152921504606846975) (hi : i < 8) (x : UInt8) (hx : (Sha.be8 (8 * L % 2 ^ 64))[7 - i]? = some x) : ((L : Int) * 8 / 2 ^ (8 * i)) % 256 = ((x.toNat : Nat) : Int) := by
  rw [Sha.be8_get _ _ (by omega)] at hx
  injection hx with hx
  rw [← hx, show 56 - 8 * (7 - i) = 8 * i by omega, Nat.mod_eq_of_lt (show 8 * L < 2 ^ 64 by omega), UInt8.toNat_ofNat']
  have e : (L : Int) * 8 / 2 ^ (8 * i) = ((8 * L / 2 ^ (8 * i) : Nat) : Int) := by simp [Int.mul_comm]
  rw [e]
  omega
theorem word_byte (v : List UInt32) (k : Nat) (h : k < 4 * v.length) (x : UInt8) (hx : (Sha.bytes v)[k]? = some x) : (((v.getD (k / 4) 0).toNat : Int) / 2 ^ (24 - k % 4 * 8)) % 256 = ((x.toNat : Nat) : Int) := by
  rw [Sha.bytes_get v k h] at hx
  injection hx with hx
  rw [← hx, UInt8.toNat_ofNat', show 8 * (k % 4) = k % 4 * 8 by omega]
  have e : (((v.getD (k / 4) 0).toNat : Int) / 2 ^ (24 - k % 4 * 8)) = (((v.getD (k / 4) 0).toNat / 2 ^ (24 - k % 4 * 8) : Nat) : Int) := by simp
  rw [e]
  omega

set_option maxHeartbeats 2000000 in
set_option maxRecDepth 100000 in
theorem sumM_any (m : List UInt8) (w : World) (hK : KLaid w) (hm : m.length ≤ 1152921504606846975) :
    Calls Tryd.prog 55 #[.agg (ST m).toArray] w fun e w' => e = .returned (.agg (BV (Sha.sum m)).toArray) ∧ Below w.heap.size w w' := by
  have HCL := hide (fun v b n W hv hb hW => closed_any v b n W hv hb hW)
  have HK := hide hK
  have hzs := zero32
  have HST := hide (ST_len m)
  have hr64 : m.length % 64 < 64 := Nat.mod_lt _ (by omega)
  have hv8 : (Sha.blocks Sha.H0 m (m.length / 64)).length = 8 := Sha.blocks_len _ _ _ rfl
  have hp64 : (Sha.pad64 (Sha.restOf m)).length = 64 := Sha.pad64_len _ (by rw [Sha.restOf_len]; omega)
  have hpre : Sha.pad64 (Sha.restOf m ++ [128]) = (Sha.pad64 (Sha.restOf m)).set (m.length % 64) 128 := by
    have hr := Sha.restOf_len m
    unfold Sha.pad64
    rw [List.set_append_right _ _ (by omega), hr, Nat.sub_self, show 64 - m.length % 64 = (63 - m.length % 64) + 1 by omega, List.replicate_succ, List.set_cons_zero, List.length_append, hr, List.length_singleton, show 64 - (m.length % 64 + 1) = 63 - m.length % 64 by omega]
    simp
  have hq64 : (Sha.pad64 (Sha.restOf m ++ [128])).length = 64 := Sha.pad64_len _ (by rw [List.length_append, Sha.restOf_len, List.length_singleton]; omega)
  have hnear := fun h E hE => Sha.fin_near m h E hE
  have hfar := fun h E hE => Sha.fin_far m h E hE
  have HSUM := hide (show Sha.sum m = Sha.bytes (Sha.blocks Sha.H0 (Sha.pad m) ((Sha.pad m).length / 64)) from rfl)
  have HDEF := hide (show ST m = SC (Sha.blocks Sha.H0 m (m.length / 64)) (Sha.pad64 (Sha.restOf m)) m.length from rfl)
  have hel : (Sha.be8 (8 * m.length % 2 ^ 64)).length = 8 := Sha.be8_len _
  have hsb := fun i hi x hx => shr_byte m.length i hm hi x hx
  generalize ST m = cs at *
  generalize Sha.blocks Sha.H0 m (m.length / 64) = v at *
  generalize Sha.blocks Sha.H0 (Sha.pad m) ((Sha.pad m).length / 64) = vf at *
  generalize Sha.pad64 (Sha.restOf m ++ [128]) = q at *
  generalize Sha.pad64 (Sha.restOf m) = p at *
  generalize hE : Sha.be8 (8 * m.length % 2 ^ 64) = E at *
  generalize hL : m.length = L at *
  have hr : (L : Int) % 64 = ((L % 64 : Nat) : Int) := by omega
  generalize hrr : L % 64 = r at *
  have r0 : (0 : Int) ≤ (r : Int) := by omega
  have r64 : (r : Int) < 64 := by omega
  have L0 : (0 : Int) ≤ (L : Int) := by omega
  have L1 : (L : Int) * 8 ≤ 9223372036854775800 := by omega
  have HV8 := hide hv8
  have HP := hide hp64
  have HQ := hide hq64
  have HPRE := hide hpre
  have HEL := hide hel
  have HNEAR := hide (fun h => hnear h E rfl)
  have HFAR := hide (fun h => hfar h E rfl)
  have HSB := hide hsb
  clear hK hv8 hp64 hq64 hpre hel hnear hfar hsb hE hL hrr
  go_enter Tryd.func55, Tryd.ntmps55
  go_upto_region 1 with fail
  refine name_world fun W hW => ?_
  have B1 := hide (show Blk W w.heap.size 80 (SC v p L).toArray by rw [← hW.out, ← HDEF.out]; exact (Blk.new w _ _).alloc _)
  have B2 := hide (show Blk W (w.heap.size + 1) 84 (BV Z32).toArray by
    rw [← hW.out]
    have := Blk.new (w.alloc (.cells cs.toArray 80)) 84 (BV Z32).toArray
    rw [show (w.alloc (.cells cs.toArray 80)).heap.size = w.heap.size + 1 by simp] at this
    exact this)
  have HW := hide (show Below w.heap.size w W by rw [← hW.out]; exact ((Below.refl _ _).alloc (Nat.le_refl _) _).alloc (by simp) _)
  have hWs : w.heap.size + 2 ≤ W.heap.size := by rw [← hW.out]; simp
  have hcl := len_cell B1.out HV8.out HP.out
  have hct := block_cell B1.out HV8.out r (by have := HP.out; omega)
  have hfr := B1.out.frozen (8 + r)
  clear hW
  go_upto_region 3 with fail
  refine name_world fun X hX => ?_
  have C1 := hide (show Blk X w.heap.size 80 (SC v q L).toArray by
    rw [← hX.out, HPRE.out]
    exact block_set B1.out HV8.out HP.out r (by omega) 128)
  have C2 := hide (show Blk X (w.heap.size + 1) 84 (BV Z32).toArray by rw [← hX.out]; exact B2.out.far (by show w.heap.size + 1 ≠ w.heap.size; omega) _)
  have HX := hide (show Below w.heap.size w X by rw [← hX.out]; exact HW.out.setCell (by show w.heap.size ≤ w.heap.size; omega) _)
  have hXs : w.heap.size + 2 ≤ X.heap.size := by rw [← hX.out]; simpa using hWs
  clear hX hcl hct hfr B1 B2 HW hWs
  by_cases hfar : 56 ≤ r
  · have hge : (56 : Int) ≤ (r : Int) := by omega
    have hfin := HFAR.out hfar
    have hl1 : (SC v q L).length = 73 := by rw [SC_len, HV8.out, HQ.out]
    have hl2 : (SC (Sha.compress v q) Z64 L).length = 73 := by rw [SC_len, compress_len _ _ HV8.out]; rfl
    have hone2 := SC_one (Sha.compress v q) Z64 L
    have hv1 := compress_len v q HV8.out
    have C := hide (HCL.out v q L X HV8.out HQ.out (HK.out.below HX.out (Nat.le_refl _)))
    have HD2 := hide (show SC (Sha.compress v q) Z64 L = SC (Sha.compress v q) Z64 L from rfl)
    have G1 := hide (show X.heap[w.heap.size]? = some (.cells (SC v q L).toArray 80 (0, 0)) from C1.out)
    generalize SC v q L = c1 at *
    generalize hc2 : SC (Sha.compress v q) Z64 L = c2 at C hl2 hone2
    have HC2 := hide hc2
    have HL1 := hide hl1
    have HL2 := hide hl2
    have HO2 := hide hone2
    have HV1 := hide hv1
    have HFIN := hide hfin
    clear hl1 hl2 hone2 hv1 hfin hc2 HD2
    go_upto_region 5 with (first
      | (with_reducible refine wpList_load_row rfl 80 (.tmp 1) rfl w.heap.size rfl 80 c1.toArray (0, 0) _ G1.out Tryd.underlying80 rfl ?f1 ?_)
      | (go_at_call 65; refine (unhide C).mono ?_; rintro e Z ⟨rfl, hbz⟩; have HBZ := hide hbz; have G2 := hide (show Z.heap[w.heap.size]? = some (.cells c1.toArray 80 (0, 0)) from C1.out.below hbz (by omega)); clear hbz)
      | (with_reducible refine wpList_store_row rfl 80 (.tmp 1) (.tmp 16) rfl w.heap.size c2.toArray rfl rfl 80 _ G2.out ?g1 ?g2 ?g3 ?_))
    case f1 => rw [List.size_toArray, HL1.out]; exact streamSize
    case g1 => rw [List.size_toArray, HL2.out]; exact streamSize
    case g2 => rw [List.size_toArray, List.size_toArray, HL1.out, HL2.out]
    case g3 => exact all_oneCell_toArray HO2.out
    refine name_world fun Y hY => ?_
    obtain ⟨A, hA⟩ : ∃ A, A = Z64 := ⟨_, rfl⟩
    have D1 := hide (show Blk Y w.heap.size 80 (SC (Sha.compress v q) A L).toArray by rw [← hY.out, hA, HC2.out]; exact setRow_heap Z w.heap.size _ _ _ _ G2.out)
    have D2 := hide (show Blk Y (w.heap.size + 1) 84 (BV Z32).toArray by rw [← hY.out]; exact (C2.out.below HBZ.out (by omega)).otherRow (by omega) _)
    have HY := hide (show Below w.heap.size w Y by rw [← hY.out]; exact below_setRow (HX.out.trans (HBZ.out.mono (by omega))) (Nat.le_refl _) _)
    have hYs : w.heap.size + 2 ≤ Y.heap.size := by rw [← hY.out]; have := HBZ.out.size; simp; omega
    have HA := hide (show A.length = 64 by rw [hA]; rfl)
    have hfin := HFIN.out
    rw [← hA] at hfin
    have HFIN := hide hfin
    clear hY hA hfin
    generalize Sha.compress v q = v1 at *
    go_wp2_with fail
    go_loopw [17] (fun i wr => ∃ k : Nat, k ≤ 8 ∧ i = .int .i64 (k : Int) ∧ Blk wr w.heap.size 80 (SC v1 (Sha.tailed A E k) L).toArray ∧ Blk wr (w.heap.size + 1) 84 (BV Z32).toArray ∧ Below w.heap.size w wr ∧ w.heap.size + 2 ≤ wr.heap.size) (fun i _ => 8 - (intOf i).toNat)
    case atStart => exact ⟨0, Nat.zero_le _, rfl, by rw [Sha.tailed_zero A E HA.out HEL.out]; exact D1.out, D2.out, HY.out, hYs⟩
    case round =>
      obtain ⟨k, hk, rfl, hB1, hB2, hbel, hws⟩ := hrel
      by_cases hlt8 : k < 8
      · obtain ⟨x, hx⟩ : ∃ x, E[7 - k]? = some x := ⟨_, List.getElem?_eq_getElem (by have := HEL.out; omega)⟩
        have htl := Sha.tailed_len A E k HA.out HEL.out hk
        have hsh := HSB.out k hlt8 x hx
        have hcl := len_cell hB1 HV1.out htl
        have hct := block_cell hB1 HV1.out (63 - k) (by omega)
        have hfr := hB1.frozen (8 + (63 - k))
        have hset := block_set hB1 HV1.out htl (63 - k) (by omega) x
        rw [Sha.tailed_succ A E k HA.out HEL.out hlt8 x hx] at hset
        have HSET := hide hset
        have H2 := hide hB2
        have HB := hide hbel
        have k0 : (0 : Int) ≤ (k : Int) := by omega
        have k1 : (0 : Int) ≤ 63 - (k : Int) := by omega
        have k2 : 63 - (k : Int) < 64 := by omega
        have k3 : (63 - (k : Int)).toNat = 63 - k := by omega
        have k4 : (0 : Int) ≤ 8 * (k : Int) := by omega
        have k5 : (8 * (k : Int)).toNat = 8 * k := by omega
        clear hB1 hB2 hbel hset hx
        go_wp2
        refine ⟨⟨k + 1, by omega, by go_num, HSET.out, H2.out.far (by show w.heap.size + 1 ≠ w.heap.size; omega) _, HB.out.setCell (by show w.heap.size ≤ w.heap.size; omega) _, by simpa using hws⟩, by simp [intOf]; omega⟩
      · obtain rfl : k = 8 := by omega
        rw [Sha.tailed_eight] at hB1
        have hb2 : (A.take 56 ++ E).length = 64 := by have h1 := HA.out; have h2 := HEL.out; simp; omega
        have hfin := HFIN.out
        have HKr := HK.out.below hbel (Nat.le_refl _)
        generalize A.take 56 ++ E = b2 at *
        have hl3 : (SC v1 b2 L).length = 73 := by rw [SC_len, HV1.out, hb2]
        have hl4 : (SC (Sha.compress v1 b2) Z64 L).length = 73 := by rw [SC_len, compress_len _ _ HV1.out]; rfl
        have hone4 := SC_one (Sha.compress v1 b2) Z64 L
        have hv2 := compress_len v1 b2 HV1.out
        have C5 := HCL.out v1 b2 L wr HV1.out hb2 HKr
        have G3 := hide (show wr.heap[w.heap.size]? = some (.cells (SC v1 b2 L).toArray 80 (0, 0)) from hB1)
        have G3' := hide (show Blk wr w.heap.size 80 (SC v1 b2 L).toArray from hB1)
        generalize SC v1 b2 L = c3 at *
        rw [← hfin] at C5 hl4 hone4 hv2
        generalize hc4 : SC vf Z64 L = c4 at C5 hl4 hone4
        have HC4 := hide hc4
        have HL3 := hide hl3
        have HL4 := hide hl4
        have HO4 := hide hone4
        have HV2 := hide hv2
        have HB2 := hide hB2
        have HBL := hide hbel
        have C5 := hide C5
        clear hB1 hB2 hbel hl3 hl4 hone4 hv2 hc4 hfin hb2 HKr
        obtain ⟨wd, rfl⟩ : ∃ wd, wd = wr := ⟨wr, rfl⟩
        go_upto_region 12 with (first
          | (with_reducible refine wpList_load_row rfl 80 (.tmp 1) rfl w.heap.size rfl 80 c3.toArray (0, 0) _ G3.out Tryd.underlying80 rfl ?f5 ?_)
          | (go_at_call 65; refine (unhide C5).mono ?_; rintro e Zb ⟨rfl, hbz⟩; have HBZb := hide hbz; have G5 := hide (show Zb.heap[w.heap.size]? = some (.cells c3.toArray 80 (0, 0)) from G3'.out.below hbz (by omega)); clear hbz)
          | (with_reducible refine wpList_store_row rfl 80 (.tmp 1) (.tmp 33) rfl w.heap.size c4.toArray rfl rfl 80 _ G5.out ?g5 ?g6 ?g7 ?_))
        case f5 => first | (rw [List.size_toArray, HL3.out]; exact streamSize) | (rw [HL3.out]; exact Option.map_eq_some_iff.1 streamSize)
        case g5 => first | (rw [List.size_toArray, HL4.out]; exact streamSize) | (rw [HL4.out]; exact Option.map_eq_some_iff.1 streamSize)
        case g6 => first | (rw [List.size_toArray, List.size_toArray, HL3.out, HL4.out]) | (rw [HL3.out, HL4.out])
        case g7 => first | exact all_oneCell_toArray HO4.out | exact HO4.out
        refine name_world fun V hV => ?_
        have hbzb := HBZb.out.size
        have K1 := hide (show Blk V w.heap.size 80 (SC vf Z64 L).toArray by rw [← hV.out, HC4.out]; exact Blk.alloc (setRow_heap Zb w.heap.size _ _ _ _ G5.out) _)
        have K2 := hide (show Blk V (w.heap.size + 1) 84 (BV Z32).toArray by rw [← hV.out]; exact ((HB2.out.below HBZb.out (by omega)).otherRow (by omega) _).alloc _)
        have K5 := hide (show Blk V Zb.heap.size 84 (BV Z32).toArray by
          rw [← hV.out]
          have := Blk.new (Zb.setRow w.heap.size c4.toArray) 84 (BV Z32).toArray
          rwa [show (Zb.setRow w.heap.size c4.toArray).heap.size = Zb.heap.size by simp] at this)
        have HVb := hide (show Below w.heap.size w V by rw [← hV.out]; exact (below_setRow (HBL.out.trans (HBZb.out.mono (by omega))) (Nat.le_refl _) _).alloc (by simp; omega) _)
        have hg5 : w.heap.size + 2 ≤ Zb.heap.size := by omega
        have hDl : (Sha.bytes vf).length = 32 := by rw [Sha.bytes_len, HV2.out]
        have hwb := fun k h x hx => word_byte vf k h x hx
        have HSM := hide (show Sha.sum m = Sha.bytes vf from HSUM.out)
        clear hV hzs
        generalize Zb.heap.size = g5 at *
        generalize Sha.bytes vf = D at *
        have HDL := hide hDl
        have HWB := hide hwb
        clear hDl hwb
        go_wp2_with fail
        go_loopw [34] (fun i wr => ∃ k : Nat, k ≤ 32 ∧ i = .int .i64 (k : Int) ∧ Blk wr g5 84 (BV (D.take k ++ Z32.drop k)).toArray ∧ Blk wr w.heap.size 80 (SC vf Z64 L).toArray ∧ Blk wr (w.heap.size + 1) 84 (BV Z32).toArray ∧ Below w.heap.size w wr) (fun i _ => 32 - (intOf i).toNat)
        case atStart => exact ⟨0, Nat.zero_le _, rfl, K5.out, K1.out, K2.out, HVb.out⟩
        case round =>
          obtain ⟨k, hk, rfl, hB5, hB1, hB2, hbel⟩ := hrel
          by_cases hlt32 : k < 32
          · obtain ⟨x, hx⟩ : ∃ x, D[k]? = some x := ⟨_, List.getElem?_eq_getElem (by have := HDL.out; omega)⟩
            have hsh := HWB.out k (by have := HV2.out; omega) x hx
            have hcv := value_cell hB1 (k / 4) (by have := HV2.out; omega)
            have hct : wr.cell? ⟨g5, k, none⟩ = some (.int .u8 0) := by
              have hl : (D.take k).length = k := by rw [List.length_take]; have := HDL.out; omega
              have hz : Z32.drop k = List.replicate (32 - k) 0 := by unfold Z32; rw [List.drop_replicate]
              rw [hB5.cell, List.getElem?_toArray, BV_append, List.getElem?_append_right (by rw [BV_len, hl]; omega), BV_len, hl, Nat.sub_self, hz, BV_zeros, List.getElem?_replicate, if_pos (by omega)]
            have hfr := hB5.frozen k
            have hset := bytes_set D k HDL.out hlt32 x hx
            generalize vf.getD (k / 4) 0 = y at *
            have HSET := hide hset
            have H5 := hide hB5
            have H1 := hide hB1
            have H2 := hide hB2
            have HB := hide hbel
            have k0 : (0 : Int) ≤ (k : Int) := by omega
            have k1 : (0 : Int) ≤ (k : Int) / 4 := by omega
            have k2 : (k : Int) / 4 < 8 := by omega
            have k3 : ((k : Int) / 4).toNat = k / 4 := by omega
            have k4 : (0 : Int) ≤ 24 - (k : Int) % 4 * 8 := by omega
            have k5 : (24 - (k : Int) % 4 * 8).toNat = 24 - k % 4 * 8 := by omega
            have k6 : (k : Int) < 32 := by omega
            clear hB5 hB1 hB2 hbel hset hx
            go_wp2
            refine ⟨⟨k + 1, by omega, by go_num, ?_, ?_, ?_, ?_⟩, by simp [intOf]; omega⟩
            · have := H5.out.set_ k (.int .u8 ((x.toNat : Nat) : Int))
              rwa [List.setIfInBounds_toArray, HSET.out] at this
            · exact H1.out.far (by show w.heap.size ≠ g5; omega) _
            · exact H2.out.far (by show w.heap.size + 1 ≠ g5; omega) _
            · exact HB.out.setCell (by show w.heap.size ≤ g5; omega) _
          · obtain rfl : k = 32 := by omega
            rw [List.take_of_length_le (by have := HDL.out; omega), List.drop_eq_nil_of_le (by simp [Z32]), List.append_nil] at hB5
            have hlen : (BV D).length = 32 := by rw [BV_len, HDL.out]
            have hone := BV_one D
            have hfin2 : Sha.sum m = D := HSM.out
            generalize hout : BV D = out at *
            have HOUT := hide hout
            have HLN := hide hlen
            have H1' := hide hone
            have HF := hide hfin2
            have E5 := hide (show wr.heap[g5]? = some (.cells out.toArray 84 (0, 0)) from hB5)
            have E2 := hide (show wr.heap[w.heap.size + 1]? = some (.cells (BV Z32).toArray 84 (0, 0)) from hB2)
            have HBe := hide hbel
            clear hB5 hB1 hB2 hbel hlen hone hout hfin2
            go_wp2_with (first | (with_reducible refine wpList_load_row rfl 84 (.tmp 5) rfl g5 rfl 84 out.toArray (0, 0) _ E5.out Tryd.underlying84 rfl ?f9 ?_) | (with_reducible refine wpList_store_row rfl 84 (.tmp 2) (.tmp 51) rfl (w.heap.size + 1) out.toArray rfl rfl 84 _ E2.out ?g9 ?g8 ?ga ?_))
            case f9 => first | (rw [List.size_toArray, HLN.out]; exact size32) | (rw [HLN.out]; exact Option.map_eq_some_iff.1 size32)
            case g9 => first | (rw [List.size_toArray, HLN.out]; exact size32) | (rw [HLN.out]; exact Option.map_eq_some_iff.1 size32)
            case g8 => first | (rw [show out.toArray.size = 32 by rw [List.size_toArray, HLN.out]]; rfl) | (rw [HLN.out]; rfl)
            case ga => first | exact all_oneCell_toArray H1'.out | exact H1'.out
            have hload : (loadVar 84 ⟨w.heap.size + 1, 0, none⟩).run Tryd.prog (wr.setRow (w.heap.size + 1) out.toArray) = .ok (.agg out.toArray) (wr.setRow (w.heap.size + 1) out.toArray) :=
              run_loadVar_row _ _ _ _ _ _ _ (setRow_heap wr (w.heap.size + 1) _ out.toArray _ _ E2.out) Tryd.underlying84 rfl (by rw [List.size_toArray, HLN.out]; exact size32)
            exact bodyPost_ret (v := .agg out.toArray) (results_cell0 Tryd.results55 _ _ ⟨w.heap.size + 1, 0, none⟩ _ rfl hload) rfl ⟨by rw [HF.out, HOUT.out], below_setRow HBe.out (by omega) _⟩
  · have hlt : ¬ (56 : Int) ≤ (r : Int) := by omega
    have HFIN := hide (HNEAR.out (by omega))
    have HV1 := HV8
    have HA := HQ
    generalize hv1 : v = v1 at *
    generalize hA : q = A at *
    clear hv1 hA
    have HY := HX
    have hYs := hXs
    have D1 := C1
    have D2 := C2
    go_upto_region 5 with fail
    generalize hYY : X = Y at *
    clear hYY
    go_wp2_with fail
    go_loopw [17] (fun i wr => ∃ k : Nat, k ≤ 8 ∧ i = .int .i64 (k : Int) ∧ Blk wr w.heap.size 80 (SC v1 (Sha.tailed A E k) L).toArray ∧ Blk wr (w.heap.size + 1) 84 (BV Z32).toArray ∧ Below w.heap.size w wr ∧ w.heap.size + 2 ≤ wr.heap.size) (fun i _ => 8 - (intOf i).toNat)
    case atStart => exact ⟨0, Nat.zero_le _, rfl, by rw [Sha.tailed_zero A E HA.out HEL.out]; exact D1.out, D2.out, HY.out, hYs⟩
    case round =>
      obtain ⟨k, hk, rfl, hB1, hB2, hbel, hws⟩ := hrel
      by_cases hlt8 : k < 8
      · obtain ⟨x, hx⟩ : ∃ x, E[7 - k]? = some x := ⟨_, List.getElem?_eq_getElem (by have := HEL.out; omega)⟩
        have htl := Sha.tailed_len A E k HA.out HEL.out hk
        have hsh := HSB.out k hlt8 x hx
        have hcl := len_cell hB1 HV1.out htl
        have hct := block_cell hB1 HV1.out (63 - k) (by omega)
        have hfr := hB1.frozen (8 + (63 - k))
        have hset := block_set hB1 HV1.out htl (63 - k) (by omega) x
        rw [Sha.tailed_succ A E k HA.out HEL.out hlt8 x hx] at hset
        have HSET := hide hset
        have H2 := hide hB2
        have HB := hide hbel
        have k0 : (0 : Int) ≤ (k : Int) := by omega
        have k1 : (0 : Int) ≤ 63 - (k : Int) := by omega
        have k2 : 63 - (k : Int) < 64 := by omega
        have k3 : (63 - (k : Int)).toNat = 63 - k := by omega
        have k4 : (0 : Int) ≤ 8 * (k : Int) := by omega
        have k5 : (8 * (k : Int)).toNat = 8 * k := by omega
        clear hB1 hB2 hbel hset hx
        go_wp2
        refine ⟨⟨k + 1, by omega, by go_num, HSET.out, H2.out.far (by show w.heap.size + 1 ≠ w.heap.size; omega) _, HB.out.setCell (by show w.heap.size ≤ w.heap.size; omega) _, by simpa using hws⟩, by simp [intOf]; omega⟩
      · obtain rfl : k = 8 := by omega
        rw [Sha.tailed_eight] at hB1
        have hb2 : (A.take 56 ++ E).length = 64 := by have h1 := HA.out; have h2 := HEL.out; simp; omega
        have hfin := HFIN.out
        have HKr := HK.out.below hbel (Nat.le_refl _)
        generalize A.take 56 ++ E = b2 at *
        have hl3 : (SC v1 b2 L).length = 73 := by rw [SC_len, HV1.out, hb2]
        have hl4 : (SC (Sha.compress v1 b2) Z64 L).length = 73 := by rw [SC_len, compress_len _ _ HV1.out]; rfl
        have hone4 := SC_one (Sha.compress v1 b2) Z64 L
        have hv2 := compress_len v1 b2 HV1.out
        have C5 := HCL.out v1 b2 L wr HV1.out hb2 HKr
        have G3 := hide (show wr.heap[w.heap.size]? = some (.cells (SC v1 b2 L).toArray 80 (0, 0)) from hB1)
        have G3' := hide (show Blk wr w.heap.size 80 (SC v1 b2 L).toArray from hB1)
        generalize SC v1 b2 L = c3 at *
        rw [← hfin] at C5 hl4 hone4 hv2
        generalize hc4 : SC vf Z64 L = c4 at C5 hl4 hone4
        have HC4 := hide hc4
        have HL3 := hide hl3
        have HL4 := hide hl4
        have HO4 := hide hone4
        have HV2 := hide hv2
        have HB2 := hide hB2
        have HBL := hide hbel
        have C5 := hide C5
        clear hB1 hB2 hbel hl3 hl4 hone4 hv2 hc4 hfin hb2 HKr
        obtain ⟨wd, rfl⟩ : ∃ wd, wd = wr := ⟨wr, rfl⟩
        go_upto_region 12 with (first
          | (with_reducible refine wpList_load_row rfl 80 (.tmp 1) rfl w.heap.size rfl 80 c3.toArray (0, 0) _ G3.out Tryd.underlying80 rfl ?f5 ?_)
          | (go_at_call 65; refine (unhide C5).mono ?_; rintro e Zb ⟨rfl, hbz⟩; have HBZb := hide hbz; have G5 := hide (show Zb.heap[w.heap.size]? = some (.cells c3.toArray 80 (0, 0)) from G3'.out.below hbz (by omega)); clear hbz)
          | (with_reducible refine wpList_store_row rfl 80 (.tmp 1) (.tmp 33) rfl w.heap.size c4.toArray rfl rfl 80 _ G5.out ?g5 ?g6 ?g7 ?_))
        case f5 => first | (rw [List.size_toArray, HL3.out]; exact streamSize) | (rw [HL3.out]; exact Option.map_eq_some_iff.1 streamSize)
        case g5 => first | (rw [List.size_toArray, HL4.out]; exact streamSize) | (rw [HL4.out]; exact Option.map_eq_some_iff.1 streamSize)
        case g6 => first | (rw [List.size_toArray, List.size_toArray, HL3.out, HL4.out]) | (rw [HL3.out, HL4.out])
        case g7 => first | exact all_oneCell_toArray HO4.out | exact HO4.out
        refine name_world fun V hV => ?_
        have hbzb := HBZb.out.size
        have K1 := hide (show Blk V w.heap.size 80 (SC vf Z64 L).toArray by rw [← hV.out, HC4.out]; exact Blk.alloc (setRow_heap Zb w.heap.size _ _ _ _ G5.out) _)
        have K2 := hide (show Blk V (w.heap.size + 1) 84 (BV Z32).toArray by rw [← hV.out]; exact ((HB2.out.below HBZb.out (by omega)).otherRow (by omega) _).alloc _)
        have K5 := hide (show Blk V Zb.heap.size 84 (BV Z32).toArray by
          rw [← hV.out]
          have := Blk.new (Zb.setRow w.heap.size c4.toArray) 84 (BV Z32).toArray
          rwa [show (Zb.setRow w.heap.size c4.toArray).heap.size = Zb.heap.size by simp] at this)
        have HVb := hide (show Below w.heap.size w V by rw [← hV.out]; exact (below_setRow (HBL.out.trans (HBZb.out.mono (by omega))) (Nat.le_refl _) _).alloc (by simp; omega) _)
        have hg5 : w.heap.size + 2 ≤ Zb.heap.size := by omega
        have hDl : (Sha.bytes vf).length = 32 := by rw [Sha.bytes_len, HV2.out]
        have hwb := fun k h x hx => word_byte vf k h x hx
        have HSM := hide (show Sha.sum m = Sha.bytes vf from HSUM.out)
        clear hV hzs
        generalize Zb.heap.size = g5 at *
        generalize Sha.bytes vf = D at *
        have HDL := hide hDl
        have HWB := hide hwb
        clear hDl hwb
        go_wp2_with fail
        go_loopw [34] (fun i wr => ∃ k : Nat, k ≤ 32 ∧ i = .int .i64 (k : Int) ∧ Blk wr g5 84 (BV (D.take k ++ Z32.drop k)).toArray ∧ Blk wr w.heap.size 80 (SC vf Z64 L).toArray ∧ Blk wr (w.heap.size + 1) 84 (BV Z32).toArray ∧ Below w.heap.size w wr) (fun i _ => 32 - (intOf i).toNat)
        case atStart => exact ⟨0, Nat.zero_le _, rfl, K5.out, K1.out, K2.out, HVb.out⟩
        case round =>
          obtain ⟨k, hk, rfl, hB5, hB1, hB2, hbel⟩ := hrel
          by_cases hlt32 : k < 32
          · obtain ⟨x, hx⟩ : ∃ x, D[k]? = some x := ⟨_, List.getElem?_eq_getElem (by have := HDL.out; omega)⟩
            have hsh := HWB.out k (by have := HV2.out; omega) x hx
            have hcv := value_cell hB1 (k / 4) (by have := HV2.out; omega)
            have hct : wr.cell? ⟨g5, k, none⟩ = some (.int .u8 0) := by
              have hl : (D.take k).length = k := by rw [List.length_take]; have := HDL.out; omega
              have hz : Z32.drop k = List.replicate (32 - k) 0 := by unfold Z32; rw [List.drop_replicate]
              rw [hB5.cell, List.getElem?_toArray, BV_append, List.getElem?_append_right (by rw [BV_len, hl]; omega), BV_len, hl, Nat.sub_self, hz, BV_zeros, List.getElem?_replicate, if_pos (by omega)]
            have hfr := hB5.frozen k
            have hset := bytes_set D k HDL.out hlt32 x hx
            generalize vf.getD (k / 4) 0 = y at *
            have HSET := hide hset
            have H5 := hide hB5
            have H1 := hide hB1
            have H2 := hide hB2
            have HB := hide hbel
            have k0 : (0 : Int) ≤ (k : Int) := by omega
            have k1 : (0 : Int) ≤ (k : Int) / 4 := by omega
            have k2 : (k : Int) / 4 < 8 := by omega
            have k3 : ((k : Int) / 4).toNat = k / 4 := by omega
            have k4 : (0 : Int) ≤ 24 - (k : Int) % 4 * 8 := by omega
            have k5 : (24 - (k : Int) % 4 * 8).toNat = 24 - k % 4 * 8 := by omega
            have k6 : (k : Int) < 32 := by omega
            clear hB5 hB1 hB2 hbel hset hx
            go_wp2
            refine ⟨⟨k + 1, by omega, by go_num, ?_, ?_, ?_, ?_⟩, by simp [intOf]; omega⟩
            · have := H5.out.set_ k (.int .u8 ((x.toNat : Nat) : Int))
              rwa [List.setIfInBounds_toArray, HSET.out] at this
            · exact H1.out.far (by show w.heap.size ≠ g5; omega) _
            · exact H2.out.far (by show w.heap.size + 1 ≠ g5; omega) _
            · exact HB.out.setCell (by show w.heap.size ≤ g5; omega) _
          · obtain rfl : k = 32 := by omega
            rw [List.take_of_length_le (by have := HDL.out; omega), List.drop_eq_nil_of_le (by simp [Z32]), List.append_nil] at hB5
            have hlen : (BV D).length = 32 := by rw [BV_len, HDL.out]
            have hone := BV_one D
            have hfin2 : Sha.sum m = D := HSM.out
            generalize hout : BV D = out at *
            have HOUT := hide hout
            have HLN := hide hlen
            have H1' := hide hone
            have HF := hide hfin2
            have E5 := hide (show wr.heap[g5]? = some (.cells out.toArray 84 (0, 0)) from hB5)
            have E2 := hide (show wr.heap[w.heap.size + 1]? = some (.cells (BV Z32).toArray 84 (0, 0)) from hB2)
            have HBe := hide hbel
            clear hB5 hB1 hB2 hbel hlen hone hout hfin2
            go_wp2_with (first | (with_reducible refine wpList_load_row rfl 84 (.tmp 5) rfl g5 rfl 84 out.toArray (0, 0) _ E5.out Tryd.underlying84 rfl ?f9 ?_) | (with_reducible refine wpList_store_row rfl 84 (.tmp 2) (.tmp 51) rfl (w.heap.size + 1) out.toArray rfl rfl 84 _ E2.out ?g9 ?g8 ?ga ?_))
            case f9 => first | (rw [List.size_toArray, HLN.out]; exact size32) | (rw [HLN.out]; exact Option.map_eq_some_iff.1 size32)
            case g9 => first | (rw [List.size_toArray, HLN.out]; exact size32) | (rw [HLN.out]; exact Option.map_eq_some_iff.1 size32)
            case g8 => first | (rw [show out.toArray.size = 32 by rw [List.size_toArray, HLN.out]]; rfl) | (rw [HLN.out]; rfl)
            case ga => first | exact all_oneCell_toArray H1'.out | exact H1'.out
            have hload : (loadVar 84 ⟨w.heap.size + 1, 0, none⟩).run Tryd.prog (wr.setRow (w.heap.size + 1) out.toArray) = .ok (.agg out.toArray) (wr.setRow (w.heap.size + 1) out.toArray) :=
              run_loadVar_row _ _ _ _ _ _ _ (setRow_heap wr (w.heap.size + 1) _ out.toArray _ _ E2.out) Tryd.underlying84 rfl (by rw [List.size_toArray, HLN.out]; exact size32)
            exact bodyPost_ret (v := .agg out.toArray) (results_cell0 Tryd.results55 _ _ ⟨w.heap.size + 1, 0, none⟩ _ rfl hload) rfl ⟨by rw [HF.out, HOUT.out], below_setRow HBe.out (by omega) _⟩
end Go.Proofs.YtedgjpoejoepjaaDoor
