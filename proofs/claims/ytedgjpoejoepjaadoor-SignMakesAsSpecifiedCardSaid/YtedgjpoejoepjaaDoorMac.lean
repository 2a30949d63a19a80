/-
  Authentication codes, by contract.
-/
import Derived.Test.YtedgjpoejoepjaaDoorMasked
import Derived.Deep.DrawnRows
namespace Go.Proofs.YtedgjpoejoepjaaDoor
open Go.RowKit
set_option linter.unusedVariables false
set_option linter.unusedSimpArgs false

theorem masked_lit (k : List UInt8) (x : UInt8) (n : Int) (hx : (x.toNat : Int) = n) (w : World) (hk : k.length ≤ 64) (hK : KLaid w) :
    Calls Tryd.prog 60 #[.string (S k), .int .u8 n] w fun e w' => e = .returned (.agg (ST (Sha.masked k x)).toArray) ∧ Below w.heap.size w w' := by
  subst hx
  exact masked_any k x w hk hK
attribute [local go_sem ↓] Go.wp_at_zero Go.wp_at_succ
theorem put_row {W : World} {g : Nat} {t : TypeId} {zs out : List Value} (h : Blk W g t zs.toArray) (hl : out.length = zs.length) : Blk (W.setCells g 0 out) g t out.toArray := by
  have := Blk.part [] zs [] out (by simpa using h) 0 rfl hl
  simpa using this
theorem from_here {V W z : World} (h : Below V.heap.size V W) (hz : Below W.heap.size W z) : Below V.heap.size V z := h.trans (hz.mono h.size)
set_option maxHeartbeats 8000000 in
set_option maxRecDepth 100000 in
theorem mac_any (k t : List UInt8) (w : World) (hK : KLaid w) (hk : k.length ≤ 1125899906842624) (ht : t.length ≤ 1125899906842624) :
    Calls Tryd.prog 49 #[.string (S k), .string (S t)] w fun e w' => e = .returned (.string (S (Sha.mac k t))) ∧ Below w.heap.size w w' := by
  have hkl := Sha.keyOf_len k
  have hm1 := Sha.masked_len (Sha.keyOf k) 54 hkl
  have hm2 := Sha.masked_len (Sha.keyOf k) 92 hkl
  have CM1 := hide (fun W hW => masked_lit (Sha.keyOf k) 54 54 rfl W hkl hW)
  have CM2 := hide (fun W hW => masked_lit (Sha.keyOf k) 92 92 rfl W hkl hW)
  have hdef : Sha.mac k t = Sha.sum (Sha.masked (Sha.keyOf k) 92 ++ Sha.sum (Sha.masked (Sha.keyOf k) 54 ++ t)) := rfl
  have hko : Sha.keyOf k = if 64 < k.length then Sha.sum k else k := rfl
  generalize Sha.masked (Sha.keyOf k) 54 = M1 at *
  generalize Sha.masked (Sha.keyOf k) 92 = M2 at *
  have CA1 := hide (fun W hW => add_any M1 t W hW (by omega))
  have CS1 := hide (fun W hW => sumM_any (M1 ++ t) W hW (by rw [List.length_append]; omega))
  have hd1 := Sha.sum_len (M1 ++ t)
  generalize Sha.sum (M1 ++ t) = D1 at *
  have CA2 := hide (fun W hW => add_any M2 D1 W hW (by omega))
  have CS2 := hide (fun W hW => sumM_any (M2 ++ D1) W hW (by rw [List.length_append]; omega))
  have hrl := Sha.sum_len (M2 ++ D1)
  have CA0 := hide (fun W hW => add_new k W hW (by omega))
  have CS0 := hide (fun W hW => sumM_any k W hW (by omega))
  have hd0 := Sha.sum_len k
  generalize Sha.sum (M2 ++ D1) = R at *
  generalize Sha.sum k = D0 at *
  have HMAC := hide hdef
  have hlen : (BV R).length = 32 := by rw [BV_len, hrl]
  have hone := BV_one R
  generalize hout : BV R = out at CS2 hlen hone
  have HOUT := hide hout
  have HLEN := hide hlen
  have HONE := hide hone
  have HRL := hide hrl
  have HD1 := hide hd1
  have HD0 := hide hd0
  have HKL := hide (fun (W' : World) (hb : Below w.heap.size w W') => hK.below hb (Nat.le_refl _))
  have hzs := zero32
  have hks : (S k).size = k.length := rfl
  generalize Sha.keyOf k = k' at *
  clear hK hkl hm1 hm2 hdef hlen hone hout hrl hd1 hd0
  by_cases hlong : 64 < k.length
  · rw [if_pos hlong] at hko
    subst hko
    have hsz : (64 : Int) < (((S k).size : Nat) : Int) := by rw [hks]; omega
    clear hks
    go_enter Tryd.func49, Tryd.ntmps49
    go_upto_region 3 with (first
      | (go_at_call 52; refine (begin_st _).mono ?_; rintro e x1 ⟨rfl, hx1⟩; have HX1 := hide hx1; clear hx1)
      | (go_at_call 53; refine (unhide CA0 _ (HKL.out _ HX1.out)).mono ?_; rintro e x2 ⟨rfl, hx2⟩; have HX2 := hide (HX1.out.trans (hx2.mono HX1.out.size)); clear hx2)
      | (go_at_call 55; refine (unhide CS0 _ (HKL.out _ HX2.out)).mono ?_; rintro e x3 ⟨rfl, hx3⟩; have HX3 := hide (HX2.out.trans (hx3.mono HX2.out.size)); clear hx3)
      | (with_reducible refine wpList_store_row rfl 84 (.tmp 5) (.tmp 14) rfl x3.heap.size (BV k').toArray rfl rfl 84 _ (heap_alloc_new x3 _) ?q1 ?q2 ?q3 ?_))
    case q1 => first | (rw [List.size_toArray, BV_len, HD0.out]; exact size32) | (rw [BV_len, HD0.out]; exact Option.map_eq_some_iff.1 size32)
    case q2 => first | (rw [show (BV k').toArray.size = 32 by rw [List.size_toArray, BV_len, HD0.out]]; rfl) | (rw [BV_len k', HD0.out]; rfl)
    case q3 => first | exact all_oneCell_toArray (BV_one k') | exact BV_one k'
    rw [World.setRow_alloc_new]
    refine name_world fun Y hY => ?_
    have G5 := hide (show Blk Y x3.heap.size 84 (BV k').toArray by rw [← hY.out]; exact Blk.new x3 _ _)
    have HY := hide (show Below w.heap.size w Y by rw [← hY.out]; exact HX3.out.alloc HX3.out.size _)
    have hcv := run_conv_reads (P := Tryd.prog) (reads_blk G5.out HD0.out) 51 9 5 32 Tryd.underlying51 Tryd.underlying5 Tryd.underlying9
    clear hY
    go_upto_region 4 with fail
    clear hcv
    go_upto_region 5 with (first
      | (go_at_call 60; refine (unhide CM1 _ (HKL.out _ HY.out)).mono ?_; rintro e y1 ⟨rfl, hy1⟩; have HY1 := hide (HY.out.trans (hy1.mono HY.out.size)); clear hy1)
      | (go_at_call 53; refine (unhide CA1 _ (HKL.out _ HY1.out)).mono ?_; rintro e y2 ⟨rfl, hy2⟩; have HY2 := hide (HY1.out.trans (hy2.mono HY1.out.size)); clear hy2)
      | (go_at_call 55; refine (unhide CS1 _ (HKL.out _ HY2.out)).mono ?_; rintro e y3 ⟨rfl, hy3⟩; have HY3 := hide (HY2.out.trans (hy3.mono HY2.out.size)); clear hy3)
      | (with_reducible refine wpList_store_row rfl 84 (.tmp 6) (.tmp 21) rfl y3.heap.size (BV D1).toArray rfl rfl 84 _ (heap_alloc_new y3 _) ?p1 ?p2 ?p3 ?_))
    case p1 => first | (rw [List.size_toArray, BV_len, HD1.out]; exact size32) | (rw [BV_len, HD1.out]; exact Option.map_eq_some_iff.1 size32)
    case p2 => first | (rw [show (BV D1).toArray.size = 32 by rw [List.size_toArray, BV_len, HD1.out]]; rfl) | (rw [BV_len D1, HD1.out]; rfl)
    case p3 => first | exact all_oneCell_toArray (BV_one D1) | exact BV_one D1
    rw [World.setRow_alloc_new]
    refine name_world fun V hV => ?_
    have E1 := hide (show Blk V y3.heap.size 84 (BV D1).toArray by rw [← hV.out]; exact Blk.new y3 _ _)
    have HV := hide (show Below w.heap.size w V by rw [← hV.out]; exact HY3.out.alloc HY3.out.size _)
    have hg6 : y3.heap.size < V.heap.size := by rw [← hV.out]; simp
    clear hV
    generalize y3.heap.size = g6 at *
    have HCV := hide (fun (W' : World) (hb : Below V.heap.size V W') => run_conv_reads (P := Tryd.prog) ((reads_blk E1.out HD1.out).below hb) 51 9 5 32 Tryd.underlying51 Tryd.underlying5 Tryd.underlying9)
    have HKV := hide (fun (W' : World) (hb : Below V.heap.size V W') => HKL.out _ (HV.out.trans (hb.mono HV.out.size)))
    have hsz32 : ∀ (W' : World) (g : Nat), Blk W' g 84 (BV Z32).toArray → W'.there g 0 32 := fun W' g h => h.there_ 0 32 (by rw [BV_len]; decide)
    have hst : ∀ W' : World, (storeCells ⟨W'.heap.size, 0, none⟩ out 0).run Tryd.prog (W'.alloc (.cells (BV Z32).toArray 84)) = .ok () ((W'.alloc (.cells (BV Z32).toArray 84)).setCells W'.heap.size 0 out) := fun W' => run_store_cells _ W'.heap.size out HONE.out (by rw [HLEN.out]; exact hsz32 _ _ (Blk.new W' 84 (BV Z32).toArray))
    have hstc : ∀ (W' : World) (g : Nat), W'.there g 0 32 → (storeCells ⟨g, 0, none⟩ out 0).run Tryd.prog W' = .ok () (W'.setCells g 0 out) := fun W' g h => run_store_cells W' g out HONE.out (by rw [HLEN.out]; exact h)
    have HSZ32 := hide hsz32
    have HSTC := hide hstc
    have hos : out.toArray.size = 32 := by rw [List.size_toArray, HLEN.out]
    have hV0 : Below V.heap.size V V.drew := (Below.refl V.heap.size V).drew
    have hV1 : Below V.heap.size V (V.alloc (.cells (BV Z32).toArray 84)).drew := ((Below.refl V.heap.size V).alloc (Nat.le_refl _) _).drew
    have HV0 := hide hV0
    have HV1 := hide hV1
    have hc0 := unhide HCV V.drew hV0
    have hc0' := unhide HCV ((V.alloc (.cells (BV Z32).toArray 84)).drew) hV1
    clear hsz32 hstc hV0 hV1
    go_region_with (first
      | (go_at_call 60; (with_reducible refine (unhide CM2 V.drew (unhide HKV V.drew HV0.out)).mono ?_); rintro e z1 ⟨rfl, hz1⟩; have hZ1 : Below V.heap.size V z1 := from_here HV0.out hz1; have hc1 := unhide HCV z1 hZ1; have hc1' := unhide HCV (z1.alloc (.cells (BV Z32).toArray 84)) (hZ1.alloc hZ1.size _))
      | (go_at_call 60; (with_reducible refine (unhide CM2 ((V.alloc (.cells (BV Z32).toArray 84)).drew) (unhide HKV _ HV1.out)).mono ?_); rintro e z1 ⟨rfl, hz1⟩; have hZ1 : Below V.heap.size V z1 := from_here HV1.out hz1; have hc1 := unhide HCV z1 hZ1; have hA : Blk z1 V.heap.size 84 (BV Z32).toArray := ((Blk.new V 84 (BV Z32).toArray).drew).below hz1 (by simp); have hgA : V.heap.size ≤ V.heap.size := Nat.le_refl _)
      | (go_at_call 53; (with_reducible refine (unhide CA2 z1 (unhide HKV z1 hZ1)).mono ?_); rintro e z2 ⟨rfl, hz2⟩; have hZ2 := from_here hZ1 hz2; try (replace hA := hA.below hz2 hA.lt))
      | (go_at_call 53; (with_reducible refine (unhide CA2 (z1.alloc (.cells (BV Z32).toArray 84)) (unhide HKV _ (hZ1.alloc hZ1.size _))).mono ?_); rintro e z2 ⟨rfl, hz2⟩; have hZ2 := from_here (hZ1.alloc hZ1.size _) hz2; have hA : Blk z2 z1.heap.size 84 (BV Z32).toArray := (Blk.new z1 84 (BV Z32).toArray).below hz2 (by simp); have hgA : V.heap.size ≤ z1.heap.size := hZ1.size)
      | (go_at_call 55; (with_reducible refine (unhide CS2 z2 (unhide HKV z2 hZ2)).mono ?_); rintro e z3 ⟨rfl, hz3⟩; have hZ3 := from_here hZ2 hz3; try (replace hA := hA.below hz3 hA.lt; have hst3 := unhide HSTC z3 _ (unhide HSZ32 z3 _ hA)))
      | (go_at_call 55; (with_reducible refine (unhide CS2 (z2.alloc (.cells (BV Z32).toArray 84)) (unhide HKV _ (hZ2.alloc hZ2.size _))).mono ?_); rintro e z3 ⟨rfl, hz3⟩; have hZ3 := from_here (hZ2.alloc hZ2.size _) hz3; have hA : Blk z3 z2.heap.size 84 (BV Z32).toArray := (Blk.new z2 84 (BV Z32).toArray).below hz3 (by simp); have hgA : V.heap.size ≤ z2.heap.size := hZ2.size; have hst3 := unhide HSTC z3 _ (unhide HSZ32 z3 _ hA)))
    all_goals
      first
        | (have hA9 := hA; have hg9 := hgA; have hZ9 := hZ3)
        | (have hA9 := Blk.new z3 84 (BV Z32).toArray; have hg9 := hZ3.size; have hZ9 := hZ3.alloc hZ3.size (.cells (BV Z32).toArray 84))
      generalize hZ : World.setCells _ _ _ _ = Z
      have hFB := by
        have := put_row (out := out) hA9 (by rw [HLEN.out, BV_len]; rfl)
        rw [hZ, ← HOUT.out] at this
        exact this
      have HB3 := hide (show Below w.heap.size w Z by rw [← hZ]; exact below_setCells (Nat.le_trans HV.out.size hg9) _ _ _ (HV.out.trans (hZ9.mono HV.out.size)))
      have hcv := run_conv_reads (P := Tryd.prog) (reads_blk hFB HRL.out) 51 9 5 32 Tryd.underlying51 Tryd.underlying5 Tryd.underlying9
      clear hst hos hc0 hc0' hZ1 hZ2 hZ3 hZ hFB hA9 hg9 hZ9
      go_wp2
      go_ret
      exact ⟨by rw [HMAC.out]; rfl, HB3.out⟩
  · rw [if_neg hlong] at hko
    subst hko
    have hsz : ¬ (64 : Int) < (((S k').size : Nat) : Int) := by rw [hks]; omega
    have HY := hide (Below.refl w.heap.size w)
    clear hks
    go_enter Tryd.func49, Tryd.ntmps49
    go_upto_region 5 with (first
      | (go_at_call 60; refine (unhide CM1 _ (HKL.out _ HY.out)).mono ?_; rintro e y1 ⟨rfl, hy1⟩; have HY1 := hide (HY.out.trans (hy1.mono HY.out.size)); clear hy1)
      | (go_at_call 53; refine (unhide CA1 _ (HKL.out _ HY1.out)).mono ?_; rintro e y2 ⟨rfl, hy2⟩; have HY2 := hide (HY1.out.trans (hy2.mono HY1.out.size)); clear hy2)
      | (go_at_call 55; refine (unhide CS1 _ (HKL.out _ HY2.out)).mono ?_; rintro e y3 ⟨rfl, hy3⟩; have HY3 := hide (HY2.out.trans (hy3.mono HY2.out.size)); clear hy3)
      | (with_reducible refine wpList_store_row rfl 84 (.tmp 6) (.tmp 21) rfl y3.heap.size (BV D1).toArray rfl rfl 84 _ (heap_alloc_new y3 _) ?p1 ?p2 ?p3 ?_))
    case p1 => first | (rw [List.size_toArray, BV_len, HD1.out]; exact size32) | (rw [BV_len, HD1.out]; exact Option.map_eq_some_iff.1 size32)
    case p2 => first | (rw [show (BV D1).toArray.size = 32 by rw [List.size_toArray, BV_len, HD1.out]]; rfl) | (rw [BV_len D1, HD1.out]; rfl)
    case p3 => first | exact all_oneCell_toArray (BV_one D1) | exact BV_one D1
    rw [World.setRow_alloc_new]
    refine name_world fun V hV => ?_
    have E1 := hide (show Blk V y3.heap.size 84 (BV D1).toArray by rw [← hV.out]; exact Blk.new y3 _ _)
    have HV := hide (show Below w.heap.size w V by rw [← hV.out]; exact HY3.out.alloc HY3.out.size _)
    have hg6 : y3.heap.size < V.heap.size := by rw [← hV.out]; simp
    clear hV
    generalize y3.heap.size = g6 at *
    have HCV := hide (fun (W' : World) (hb : Below V.heap.size V W') => run_conv_reads (P := Tryd.prog) ((reads_blk E1.out HD1.out).below hb) 51 9 5 32 Tryd.underlying51 Tryd.underlying5 Tryd.underlying9)
    have HKV := hide (fun (W' : World) (hb : Below V.heap.size V W') => HKL.out _ (HV.out.trans (hb.mono HV.out.size)))
    have hsz32 : ∀ (W' : World) (g : Nat), Blk W' g 84 (BV Z32).toArray → W'.there g 0 32 := fun W' g h => h.there_ 0 32 (by rw [BV_len]; decide)
    have hst : ∀ W' : World, (storeCells ⟨W'.heap.size, 0, none⟩ out 0).run Tryd.prog (W'.alloc (.cells (BV Z32).toArray 84)) = .ok () ((W'.alloc (.cells (BV Z32).toArray 84)).setCells W'.heap.size 0 out) := fun W' => run_store_cells _ W'.heap.size out HONE.out (by rw [HLEN.out]; exact hsz32 _ _ (Blk.new W' 84 (BV Z32).toArray))
    have hstc : ∀ (W' : World) (g : Nat), W'.there g 0 32 → (storeCells ⟨g, 0, none⟩ out 0).run Tryd.prog W' = .ok () (W'.setCells g 0 out) := fun W' g h => run_store_cells W' g out HONE.out (by rw [HLEN.out]; exact h)
    have HSZ32 := hide hsz32
    have HSTC := hide hstc
    have hos : out.toArray.size = 32 := by rw [List.size_toArray, HLEN.out]
    have hV0 : Below V.heap.size V V.drew := (Below.refl V.heap.size V).drew
    have hV1 : Below V.heap.size V (V.alloc (.cells (BV Z32).toArray 84)).drew := ((Below.refl V.heap.size V).alloc (Nat.le_refl _) _).drew
    have HV0 := hide hV0
    have HV1 := hide hV1
    have hc0 := unhide HCV V.drew hV0
    have hc0' := unhide HCV ((V.alloc (.cells (BV Z32).toArray 84)).drew) hV1
    clear hsz32 hstc hV0 hV1
    go_region_with (first
      | (go_at_call 60; (with_reducible refine (unhide CM2 V.drew (unhide HKV V.drew HV0.out)).mono ?_); rintro e z1 ⟨rfl, hz1⟩; have hZ1 : Below V.heap.size V z1 := from_here HV0.out hz1; have hc1 := unhide HCV z1 hZ1; have hc1' := unhide HCV (z1.alloc (.cells (BV Z32).toArray 84)) (hZ1.alloc hZ1.size _))
      | (go_at_call 60; (with_reducible refine (unhide CM2 ((V.alloc (.cells (BV Z32).toArray 84)).drew) (unhide HKV _ HV1.out)).mono ?_); rintro e z1 ⟨rfl, hz1⟩; have hZ1 : Below V.heap.size V z1 := from_here HV1.out hz1; have hc1 := unhide HCV z1 hZ1; have hA : Blk z1 V.heap.size 84 (BV Z32).toArray := ((Blk.new V 84 (BV Z32).toArray).drew).below hz1 (by simp); have hgA : V.heap.size ≤ V.heap.size := Nat.le_refl _)
      | (go_at_call 53; (with_reducible refine (unhide CA2 z1 (unhide HKV z1 hZ1)).mono ?_); rintro e z2 ⟨rfl, hz2⟩; have hZ2 := from_here hZ1 hz2; try (replace hA := hA.below hz2 hA.lt))
      | (go_at_call 53; (with_reducible refine (unhide CA2 (z1.alloc (.cells (BV Z32).toArray 84)) (unhide HKV _ (hZ1.alloc hZ1.size _))).mono ?_); rintro e z2 ⟨rfl, hz2⟩; have hZ2 := from_here (hZ1.alloc hZ1.size _) hz2; have hA : Blk z2 z1.heap.size 84 (BV Z32).toArray := (Blk.new z1 84 (BV Z32).toArray).below hz2 (by simp); have hgA : V.heap.size ≤ z1.heap.size := hZ1.size)
      | (go_at_call 55; (with_reducible refine (unhide CS2 z2 (unhide HKV z2 hZ2)).mono ?_); rintro e z3 ⟨rfl, hz3⟩; have hZ3 := from_here hZ2 hz3; try (replace hA := hA.below hz3 hA.lt; have hst3 := unhide HSTC z3 _ (unhide HSZ32 z3 _ hA)))
      | (go_at_call 55; (with_reducible refine (unhide CS2 (z2.alloc (.cells (BV Z32).toArray 84)) (unhide HKV _ (hZ2.alloc hZ2.size _))).mono ?_); rintro e z3 ⟨rfl, hz3⟩; have hZ3 := from_here (hZ2.alloc hZ2.size _) hz3; have hA : Blk z3 z2.heap.size 84 (BV Z32).toArray := (Blk.new z2 84 (BV Z32).toArray).below hz3 (by simp); have hgA : V.heap.size ≤ z2.heap.size := hZ2.size; have hst3 := unhide HSTC z3 _ (unhide HSZ32 z3 _ hA)))
    all_goals
      first
        | (have hA9 := hA; have hg9 := hgA; have hZ9 := hZ3)
        | (have hA9 := Blk.new z3 84 (BV Z32).toArray; have hg9 := hZ3.size; have hZ9 := hZ3.alloc hZ3.size (.cells (BV Z32).toArray 84))
      generalize hZ : World.setCells _ _ _ _ = Z
      have hFB := by
        have := put_row (out := out) hA9 (by rw [HLEN.out, BV_len]; rfl)
        rw [hZ, ← HOUT.out] at this
        exact this
      have HB3 := hide (show Below w.heap.size w Z by rw [← hZ]; exact below_setCells (Nat.le_trans HV.out.size hg9) _ _ _ (HV.out.trans (hZ9.mono HV.out.size)))
      have hcv := run_conv_reads (P := Tryd.prog) (reads_blk hFB HRL.out) 51 9 5 32 Tryd.underlying51 Tryd.underlying5 Tryd.underlying9
      clear hst hos hc0 hc0' hZ1 hZ2 hZ3 hZ hFB hA9 hg9 hZ9
      go_wp2
      go_ret
      exact ⟨by rw [HMAC.out]; rfl, HB3.out⟩
end Go.Proofs.YtedgjpoejoepjaaDoor
