/-
  The examples of the documentation hold, in every world.
-/
import Derived.Test.YtlhbeaaomgadbaaDoorOf
import Derived.Test.YtlhbeaaomgadbaaDoorEq
import Derived.Stop.BytesEq
import Derived.Lib.SlBytesConst
namespace Go.Proofs.YtlhbeaaomgadbaaDoor
open Go.RowKit
set_option linter.unusedVariables false
set_option linter.unusedSimpArgs false

namespace Sha
theorem hex_abc : hexL (sum [97, 98, 99]) = [98, 97, 55, 56, 49, 54, 98, 102, 56, 102, 48, 49, 99, 102, 101, 97, 52, 49, 52, 49, 52, 48, 100, 101, 53, 100, 97, 101, 50, 50, 50, 51, 98, 48, 48, 51, 54, 49, 97, 51, 57, 54, 49, 55, 55, 97, 57, 99, 98, 52, 49, 48, 102, 102, 54, 49, 102, 50, 48, 48, 49, 53, 97, 100] := by decide +kernel
theorem hex_mac : hexL (mac [74, 101, 102, 101] [119, 104, 97, 116, 32, 100, 111, 32, 121, 97, 32, 119, 97, 110, 116, 32, 102, 111, 114, 32, 110, 111, 116, 104, 105, 110, 103, 63]) = [53, 98, 100, 99, 99, 49, 52, 54, 98, 102, 54, 48, 55, 53, 52, 101, 54, 97, 48, 52, 50, 52, 50, 54, 48, 56, 57, 53, 55, 53, 99, 55, 53, 97, 48, 48, 51, 102, 48, 56, 57, 100, 50, 55, 51, 57, 56, 51, 57, 100, 101, 99, 53, 56, 98, 57, 54, 52, 101, 99, 51, 56, 52, 51] := by decide +kernel
end Sha
theorem hex_of : hexL (digestOf (inputOf 8 [[97], []])) = [51, 54, 99, 100, 53, 48, 56, 53, 48, 51, 50, 57, 102, 56, 56, 52, 48, 54, 101, 51, 49, 98, 98, 56, 97, 55, 100, 56, 102, 98, 54, 50] := by decide +kernel

theorem guard32 : Tryd.prog.eqGuardType Tryd.prog.depth 24 = false := by kernel_rfl
theorem run_same32 (d e : List UInt8) (h : d.length = 32) (h' : e.length = 32) (w : World) : (Op.equalIn 10000 24 (.agg (BV d).toArray) (.agg (BV e).toArray)).run Tryd.prog w = .ok (d == e) w :=
  run_equalIn_bytes (P := Tryd.prog) w 9998 24 5 32 Tryd.underlying24 Tryd.underlying5 byteOne d e h h'

theorem load_32 (w : World) (g : Nat) (h : rowOk w g 32) : (Instr.loadAt 24 (.pointer (some ⟨g, 0, none⟩))).run Tryd.prog w = .ok (.agg (rowAt w g)) w := by
  obtain ⟨cs, t, hb, hn⟩ := h
  rw [rowAt_blk hb]
  have hb' : Blk w g t ([] ++ (cs.toList ++ [])).toArray := by simpa using hb
  have := run_loadAt_mid (P := Tryd.prog) w g 0 24 cs.toList _ (Blk.range [] cs.toList [] hb' 0 rfl) Tryd.underlying24 rfl (by rw [Array.length_toList, hn]; exact size32)
  simpa using this
theorem wp_load_32 (d : Option Tmp) (x : Operand) (ty : TypeId) (ps : String) (af : Array Edge) (gd : Option (Nat × Bool)) (a : Act) (w : World) (K : Act → World → Prop) (Q : Exit → Act → World → Prop)
    (h1 : a.eval x = .pointer (some ⟨ptrBlock (a.eval x), 0, none⟩)) (h2 : rowOk w (ptrBlock (a.eval x)) 32) :
    Oper.wp Tryd.prog { dst := d, op := .load 24 x, type := ty, pos := ps, after := af, guard := gd } a w K Q = K (a.put d (.agg (rowAt w (ptrBlock (a.eval x))))) w := by
  have := load_32 w _ h2
  rw [← h1] at this
  unfold Oper.wp execOp
  simp only [Sem.run_bind, this, Result.andThen_ok]
  rfl
theorem load_16 (w : World) (g : Nat) (h : rowOk w g 16) : (Instr.loadAt 44 (.pointer (some ⟨g, 0, none⟩))).run Tryd.prog w = .ok (.agg (rowAt w g)) w := by
  obtain ⟨cs, t, hb, hn⟩ := h
  rw [rowAt_blk hb]
  have hb' : Blk w g t ([] ++ (cs.toList ++ [])).toArray := by simpa using hb
  have := run_loadAt_mid (P := Tryd.prog) w g 0 44 cs.toList _ (Blk.range [] cs.toList [] hb' 0 rfl) Tryd.underlying44 rfl (by rw [Array.length_toList, hn]; exact size16)
  simpa using this
theorem wp_load_16 (d : Option Tmp) (x : Operand) (ty : TypeId) (ps : String) (af : Array Edge) (gd : Option (Nat × Bool)) (a : Act) (w : World) (K : Act → World → Prop) (Q : Exit → Act → World → Prop)
    (h1 : a.eval x = .pointer (some ⟨ptrBlock (a.eval x), 0, none⟩)) (h2 : rowOk w (ptrBlock (a.eval x)) 16) :
    Oper.wp Tryd.prog { dst := d, op := .load 44 x, type := ty, pos := ps, after := af, guard := gd } a w K Q = K (a.put d (.agg (rowAt w (ptrBlock (a.eval x))))) w := by
  have := load_16 w _ h2
  rw [← h1] at this
  unfold Oper.wp execOp
  simp only [Sem.run_bind, this, Result.andThen_ok]
  rfl
attribute [local go_sem ↓] wp_load_32 wp_load_16
attribute [local go_sem] ptrBlock_is
theorem reads_marked (w : World) (cs : List Value) (t : TypeId) (fr : Nat × Nat) (m : Nat) (hm : cs.length = m) : Reads (w.alloc (.cells cs.toArray t fr)) (w.alloc (.cells cs.toArray t fr)).heap.size 1 (some ⟨w.heap.size, 0, none⟩) m cs := by
  refine ⟨by omega, fun _ => ⟨_, rfl, by simp, fun j u hj => ?_⟩⟩
  rw [show ((⟨w.heap.size, 0, none⟩ : Addr).add j) = ⟨w.heap.size, j, none⟩ by simp [Addr.add]; intro h; omega, cell_of_row _ w.heap.size j cs.toArray t fr (heap_alloc_new w _), List.getElem?_toArray]
  exact hj
set_option maxHeartbeats 2000000 in
set_option maxRecDepth 100000 in
theorem sanity_any (w : World) (hK : KLaid w) : Calls Tryd.prog 10 #[] w fun e w' => e = .returned (.bool true) ∧ Below w.heap.size w w' := by
  have HK := hide hK
  have HSUM := hide (fun A n c (W : World) hr hK => (hsum_any A n c [97, 98, 99] W hr hK (by decide)))
  have CA1 := hide (fun (W : World) hW => (show Calls Tryd.prog 15 #[.agg (ST []).toArray, .string { data := #[97] }] W _ from add_new [97] W hW (by decide)))
  have CA2 := hide (fun (W : World) hW => (show Calls Tryd.prog 15 #[.agg (ST [97]).toArray, .string { data := #[98, 99] }] W _ from add_any [97] [98, 99] W hW (by decide)))
  have CS := hide (fun (W : World) hW => sumM_any ([97] ++ [98, 99]) W hW (by decide))
  have CO := hide (fun A n c (W : World) hr hK => of_any 8 A n c [[97], []] W hr (by have := hr.1; simp at this; omega) (by decide) hK)
  have CM := hide (fun (W : World) hW => (show Calls Tryd.prog 18 #[.string { data := #[74, 101, 102, 101] }, .string { data := #[119, 104, 97, 116, 32, 100, 111, 32, 121, 97, 32, 119, 97, 110, 116, 32, 102, 111, 114, 32, 110, 111, 116, 104, 105, 110, 103, 63] }] W _ from mac_any [74, 101, 102, 101] [119, 104, 97, 116, 32, 100, 111, 32, 121, 97, 32, 119, 97, 110, 116, 32, 102, 111, 114, 32, 110, 111, 116, 104, 105, 110, 103, 63] W hW (by decide) (by decide)))
  have e1 : eqS { data := #[97, 98] } { data := #[97, 98] } = true := by decide
  have e2 : eqS { data := #[97, 98] } { data := #[97, 99] } = false := by decide
  have e3 : eqS { data := #[] } { data := #[97] } = false := by decide
  have CE1 := hide (fun (W : World) => e1 ▸ equal_any { data := #[97, 98] } { data := #[97, 98] } W (by decide) (by decide))
  have CE2 := hide (fun (W : World) => e2 ▸ equal_any { data := #[97, 98] } { data := #[97, 99] } W (by decide) (by decide))
  have CE3 := hide (fun (W : World) => e3 ▸ equal_any { data := #[] } { data := #[97] } W (by decide) (by decide))
  have CH1 := hide (fun (W : World) => (show Calls Tryd.prog 25 #[.string (S (Sha.sum [97, 98, 99]))] W (fun e w' => e = .returned (.string { data := #[98, 97, 55, 56, 49, 54, 98, 102, 56, 102, 48, 49, 99, 102, 101, 97, 52, 49, 52, 49, 52, 48, 100, 101, 53, 100, 97, 101, 50, 50, 50, 51, 98, 48, 48, 51, 54, 49, 97, 51, 57, 54, 49, 55, 55, 97, 57, 99, 98, 52, 49, 48, 102, 102, 54, 49, 102, 50, 48, 48, 49, 53, 97, 100] }) ∧ Below W.heap.size W w') from by
    have h := hex_any (S (Sha.sum [97, 98, 99])) W (by rw [S_size, Sha.sum_len]; decide)
    rw [S_list, Sha.hex_abc] at h
    exact h))
  have CH2 := hide (fun (W : World) => (show Calls Tryd.prog 25 #[.string (S (Sha.mac [74, 101, 102, 101] [119, 104, 97, 116, 32, 100, 111, 32, 121, 97, 32, 119, 97, 110, 116, 32, 102, 111, 114, 32, 110, 111, 116, 104, 105, 110, 103, 63]))] W (fun e w' => e = .returned (.string { data := #[53, 98, 100, 99, 99, 49, 52, 54, 98, 102, 54, 48, 55, 53, 52, 101, 54, 97, 48, 52, 50, 52, 50, 54, 48, 56, 57, 53, 55, 53, 99, 55, 53, 97, 48, 48, 51, 102, 48, 56, 57, 100, 50, 55, 51, 57, 56, 51, 57, 100, 101, 99, 53, 56, 98, 57, 54, 52, 101, 99, 51, 56, 52, 51] }) ∧ Below W.heap.size W w') from by
    have h := hex_any (S (Sha.mac [74, 101, 102, 101] [119, 104, 97, 116, 32, 100, 111, 32, 121, 97, 32, 119, 97, 110, 116, 32, 102, 111, 114, 32, 110, 111, 116, 104, 105, 110, 103, 63])) W (by rw [S_size]; unfold Sha.mac; rw [Sha.sum_len]; decide)
    rw [S_list, Sha.hex_mac] at h
    exact h))
  have CH3 := hide (fun (W : World) => (show Calls Tryd.prog 25 #[.string (S (digestOf (inputOf 8 [[97], []])))] W (fun e w' => e = .returned (.string { data := #[51, 54, 99, 100, 53, 48, 56, 53, 48, 51, 50, 57, 102, 56, 56, 52, 48, 54, 101, 51, 49, 98, 98, 56, 97, 55, 100, 56, 102, 98, 54, 50] }) ∧ Below W.heap.size W w') from by
    have h := hex_any (S (digestOf (inputOf 8 [[97], []]))) W (by rw [S_size, digestOf_len]; decide)
    rw [S_list, hex_of] at h
    exact h))
  have CB := hide (fun (W : World) => bytes32_any (Sha.sum [97, 98, 99]) W (Sha.sum_len _))
  have CT := hide (fun (W : World) => text_any (digestOf (inputOf 8 [[97], []])) W (digestOf_len _))
  go_enter Tryd.func10, Tryd.ntmps10
  have hcv := fun (w : World) (C : Array Value) (n c : Nat) => Lib.run_convert_bytes_const (P := Tryd.prog) w 22 5 C n c Tryd.underlying22 Tryd.underlying5
  go_upto_region 2 with (first
    | (go_at_call 11; refine (HSUM.out _ _ _ _ (reads_marked w [.int .u8 97, .int .u8 98, .int .u8 99] 5 (3, 4) 3 rfl) (HK.out.below (below_alloc w _) (Nat.le_refl _))).mono ?_; rintro e w1 ⟨rfl, hb1⟩; have HB1 := hide ((below_alloc w _).trans (hb1.mono (by simp))); clear hb1)
    | (with_reducible refine wpList_store_row rfl 24 (.tmp 1) (.tmp 9) rfl w1.heap.size (BV (Sha.sum [97, 98, 99])).toArray rfl rfl 24 _ (heap_alloc_new w1 _) ?p1 ?p2 ?p3 ?_))
  case p1 => first | (rw [List.size_toArray, BV_len, Sha.sum_len]; exact size32) | (rw [BV_len, Sha.sum_len]; exact Option.map_eq_some_iff.1 size32)
  case p2 => first | (rw [show (BV (Sha.sum [97, 98, 99])).toArray.size = 32 by rw [List.size_toArray, BV_len, Sha.sum_len]]; rfl) | (rw [BV_len, Sha.sum_len]; rfl)
  case p3 => first | exact all_oneCell_toArray (BV_one _) | exact BV_one _
  rw [World.setRow_alloc_new]
  refine name_world fun X hX => ?_
  have G1 := hide (show Blk X w1.heap.size 24 (BV (Sha.sum [97, 98, 99])).toArray by rw [← hX.out]; exact Blk.new w1 _ _)
  have HX := hide (show Below w.heap.size w X by rw [← hX.out]; exact HB1.out.alloc HB1.out.size _)
  have hgX : w1.heap.size < X.heap.size := by rw [← hX.out]; simp
  clear hX
  generalize w1.heap.size = g1 at *
  go_upto_region 3 with (first
    | (go_at_call 14; refine (begin_st _).mono ?_; rintro e x1 ⟨rfl, hx1⟩; have HX1 := hide (HX.out.trans (hx1.mono HX.out.size)); have GX1 := hide (G1.out.below hx1 hgX); clear hx1)
    | (go_at_call_of 15 (Value.string { data := #[97] }); refine (unhide CA1 _ (HK.out.below HX1.out (Nat.le_refl _))).mono ?_; rintro e x2 ⟨rfl, hx2⟩; have HX2 := hide (HX1.out.trans (hx2.mono HX1.out.size)); have GX2 := hide (GX1.out.below hx2 GX1.out.lt); clear hx2)
    | (go_at_call_of 15 (Value.string { data := #[98, 99] }); refine (unhide CA2 _ (HK.out.below HX2.out (Nat.le_refl _))).mono ?_; rintro e x3 ⟨rfl, hx3⟩; have HX3 := hide (HX2.out.trans (hx3.mono HX2.out.size)); have GX3 := hide (GX2.out.below hx3 GX2.out.lt); clear hx3)
    | (go_at_call 17; refine (unhide CS _ (HK.out.below HX3.out (Nat.le_refl _))).mono ?_; rintro e x4 ⟨rfl, hx4⟩; have HX4 := hide (HX3.out.trans (hx4.mono HX3.out.size)); have GX4 := hide (GX3.out.below hx4 GX3.out.lt); clear hx4)
    | (with_reducible refine wpList_store_row rfl 24 (.tmp 2) (.tmp 13) rfl x4.heap.size (BV (Sha.sum ([97] ++ [98, 99]))).toArray rfl rfl 24 _ (heap_alloc_new x4 _) ?p1 ?p2 ?p3 ?_))
  case p1 => first | (rw [List.size_toArray, BV_len, Sha.sum_len]; exact size32) | (rw [BV_len, Sha.sum_len]; exact Option.map_eq_some_iff.1 size32)
  case p2 => first | (rw [show (BV (Sha.sum ([97] ++ [98, 99]))).toArray.size = 32 by rw [List.size_toArray, BV_len, Sha.sum_len]]; rfl) | (rw [BV_len, Sha.sum_len]; rfl)
  case p3 => first | exact all_oneCell_toArray (BV_one _) | exact BV_one _
  rw [World.setRow_alloc_new]
  refine name_world fun Y hY => ?_
  have K1 := hide (show Blk Y g1 24 (BV (Sha.sum [97, 98, 99])).toArray by rw [← hY.out]; exact GX4.out.alloc _)
  have K2 := hide (show Blk Y x4.heap.size 24 (BV (Sha.sum [97, 98, 99])).toArray by rw [← hY.out]; exact Blk.new x4 _ _)
  have HY := hide (show Below w.heap.size w Y by rw [← hY.out]; exact HX4.out.alloc HX4.out.size _)
  have hgY : x4.heap.size < Y.heap.size := by rw [← hY.out]; simp
  clear hY HX1 HX2 HX3 HX4 GX1 GX2 GX3 GX4 HX G1 hgX CA1 CA2 CS HSUM
  generalize x4.heap.size = g2 at *
  have hYb := HY.out
  go_upto_region 4 with (first
    | (go_at_call 21; refine (CO.out _ _ _ _ (reads_block Y (List.map VS [[97], []]) 9 2 rfl) (HK.out.below (hYb.alloc hYb.size _) (Nat.le_refl _))).mono ?_; rintro e y1 ⟨rfl, hy1⟩; have HY1 := hide ((hYb.alloc hYb.size _).trans (hy1.mono (Nat.le_trans hYb.size (by simp)))); have KY1 := hide ((K1.out.alloc _).below hy1 (by simp; have := K1.out.lt; omega)); have KY2 := hide ((K2.out.alloc _).below hy1 (by simp; omega)); clear hy1)
    | (with_reducible refine wpList_store_row rfl 44 (.tmp 3) (.tmp 15) rfl y1.heap.size (BV (digestOf (inputOf 8 [[97], []]))).toArray rfl rfl 44 _ (heap_alloc_new y1 _) ?p1 ?p2 ?p3 ?_))
  case p1 => first | (rw [List.size_toArray, BV_len, digestOf_len]; exact size16) | (rw [BV_len, digestOf_len]; exact Option.map_eq_some_iff.1 size16)
  case p2 => first | (rw [show (BV (digestOf (inputOf 8 [[97], []]))).toArray.size = 16 by rw [List.size_toArray, BV_len, digestOf_len]]; rfl) | (rw [BV_len, digestOf_len]; rfl)
  case p3 => first | exact all_oneCell_toArray (BV_one _) | exact BV_one _
  rw [World.setRow_alloc_new]
  refine name_world fun Z hZ => ?_
  have L1 := hide (show Blk Z g1 24 (BV (Sha.sum [97, 98, 99])).toArray by rw [← hZ.out]; exact KY1.out.alloc _)
  have L2 := hide (show Blk Z g2 24 (BV (Sha.sum [97, 98, 99])).toArray by rw [← hZ.out]; exact KY2.out.alloc _)
  have L3 := hide (show Blk Z y1.heap.size 44 (BV (digestOf (inputOf 8 [[97], []]))).toArray by rw [← hZ.out]; exact Blk.new y1 _ _)
  have HZ := hide (show Below w.heap.size w Z by rw [← hZ.out]; exact HY1.out.alloc HY1.out.size _)
  have hl1 := L1.out.lt
  have hl2 := L2.out.lt
  have hl3 := L3.out.lt
  clear hZ HY1 KY1 KY2 K1 K2 HY hYb hgY CO
  generalize y1.heap.size = g3 at *
  go_upto_region 7 with (first
    | (go_at_call 18; refine (unhide CM _ (HK.out.below HZ.out (Nat.le_refl _))).mono ?_; rintro e z1 ⟨rfl, hz1⟩; have HZ1 := hide hz1; clear hz1))
  refine (unhide CE1 _).mono ?_
  rintro e _ ⟨rfl, k1, rfl⟩
  go_wp2_with fail
  refine (unhide CE2 _).mono ?_
  rintro e _ ⟨rfl, k2, rfl⟩
  go_wp2_with fail
  refine (unhide CE3 _).mono ?_
  rintro e _ ⟨rfl, k3, rfl⟩
  go_upto_region 7 with fail
  refine name_world fun V hV => ?_
  have hz1 := below_drewN HZ1.out (k1 + k2 + k3)
  have M1 := hide (show Blk V g1 24 (BV (Sha.sum [97, 98, 99])).toArray by rw [← hV.out]; exact L1.out.below hz1 hl1)
  have M2 := hide (show Blk V g2 24 (BV (Sha.sum [97, 98, 99])).toArray by rw [← hV.out]; exact L2.out.below hz1 hl2)
  have M3 := hide (show Blk V g3 44 (BV (digestOf (inputOf 8 [[97], []]))).toArray by rw [← hV.out]; exact L3.out.below hz1 hl3)
  have HV := hide (show Below w.heap.size w V by rw [← hV.out]; exact HZ.out.trans (hz1.mono HZ.out.size))
  have HLD := hide (fun (W' : World) (hb : Below V.heap.size V W') => (⟨⟨_, _, M1.out.below hb M1.out.lt, by rw [List.size_toArray, BV_len, Sha.sum_len]⟩, rowAt_blk (M1.out.below hb M1.out.lt), ⟨_, _, M2.out.below hb M2.out.lt, by rw [List.size_toArray, BV_len, Sha.sum_len]⟩, rowAt_blk (M2.out.below hb M2.out.lt), ⟨_, _, M3.out.below hb M3.out.lt, by rw [List.size_toArray, BV_len, digestOf_len]⟩, rowAt_blk (M3.out.below hb M3.out.lt)⟩ : rowOk W' g1 32 ∧ rowAt W' g1 = (BV (Sha.sum [97, 98, 99])).toArray ∧ rowOk W' g2 32 ∧ rowAt W' g2 = (BV (Sha.sum [97, 98, 99])).toArray ∧ rowOk W' g3 16 ∧ rowAt W' g3 = (BV (digestOf (inputOf 8 [[97], []]))).toArray))
  have HG := hide guard32
  have hgd := guard32
  have hsame : ∀ W, (Op.equalIn 10000 24 (.agg (BV (Sha.sum [97, 98, 99])).toArray) (.agg (BV (Sha.sum [97, 98, 99])).toArray)).run Tryd.prog W = .ok true W := fun W => by
    have h := run_same32 (Sha.sum [97, 98, 99]) (Sha.sum [97, 98, 99]) (Sha.sum_len _) (Sha.sum_len _) W
    rwa [beq_self_eq_true] at h
  generalize Sha.sum [97, 98, 99] = D at *
  generalize Sha.mac [74, 101, 102, 101] [119, 104, 97, 116, 32, 100, 111, 32, 121, 97, 32, 119, 97, 110, 116, 32, 102, 111, 114, 32, 110, 111, 116, 104, 105, 110, 103, 63] = M at *
  generalize digestOf (inputOf 8 [[97], []]) = E at *
  generalize hDD : (BV D).toArray = dd at *
  generalize hEE : (BV E).toArray = ee at *
  have HDD := hide hDD
  have HEE := hide hEE
  have V0 := hide (Below.refl V.heap.size V)
  obtain ⟨r1, r2, r3, r4, r5, r6⟩ := unhide HLD V V0.out
  clear hV hz1 hl1 hl2 hl3 L1 L2 L3 HZ HZ1 CM CE1 CE2 CE3 e1 e2 e3 hcv M1 M2 M3 hDD hEE
  go_wp2_with (first
    | (go_at_call 20; refine (unhide CB _).mono ?_; rintro e v1 ⟨rfl, hv1⟩; have HV1 := hide hv1; clear hv1)
    | (go_at_call_of 25 (Value.string (S D)); refine (unhide CH1 _).mono ?_; rintro e v2 ⟨rfl, hv2⟩; have HV2 := hide (HV1.out.trans (hv2.mono HV1.out.size)); obtain ⟨s1, s2, s3, s4, s5, s6⟩ := unhide HLD v2 HV2.out; clear hv2)
    | (go_at_call_of 25 (Value.string (S M)); refine (unhide CH2 _).mono ?_; rintro e v3 ⟨rfl, hv3⟩; have HV3 := hide (HV2.out.trans (hv3.mono HV2.out.size)); obtain ⟨t1, t2, t3, t4, t5, t6⟩ := unhide HLD v3 HV3.out; clear hv3)
    | (go_at_call 26; refine (unhide CT _).mono ?_; rintro e v4 ⟨rfl, hv4⟩; have HV4 := hide (HV3.out.trans (hv4.mono HV3.out.size)); clear hv4)
    | (go_at_call_of 25 (Value.string (S E)); refine (unhide CH3 _).mono ?_; rintro e v5 ⟨rfl, hv5⟩; have HV5 := hide (HV4.out.trans (hv5.mono HV4.out.size)); clear hv5))
  go_ret
  exact ⟨rfl, HV.out.trans (HV5.out.mono HV.out.size)⟩
end Go.Proofs.YtlhbeaaomgadbaaDoor
