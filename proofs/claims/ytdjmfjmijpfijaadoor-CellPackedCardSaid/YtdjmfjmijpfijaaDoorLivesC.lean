/-
  The examples of the chapter hold, in every world.
-/
import Derived.Test.YtdjmfjmijpfijaaDoorCountD
namespace Go.Proofs.YtdjmfjmijpfijaaDoor
open Go.RowKit
set_option linter.unusedVariables false
set_option linter.unusedSimpArgs false
theorem reads_block (w : World) (cs : List Value) (t : TypeId) (m : Nat) (hm : cs.length = m) : Reads (w.alloc (.cells cs.toArray t)) (w.alloc (.cells cs.toArray t)).heap.size 1 (some ⟨w.heap.size, 0, none⟩) m cs := by
  refine ⟨by omega, fun _ => ⟨_, rfl, by simp, fun j u hj => ?_⟩⟩
  rw [show ((⟨w.heap.size, 0, none⟩ : Addr).add j) = ⟨w.heap.size, j, none⟩ by simp [Addr.add]; intro h; omega, Blk.cell (Blk.new w t cs.toArray), List.getElem?_toArray]
  exact hj
theorem wpList_load_rast {w : World} {ops : Array Oper} {rest : List Oper} {o : Oper} {a : Act} {Q : Exit → Act → World → Prop} (hgd : o.guard = none) (x : Operand) (ho : o.op = .load 37 x)
    (g : Nat) (hx : a.eval x = .pointer (some ⟨g, 0, none⟩)) (b1 b2 b3 : Value) (hD : Blk w g 37 #[b1, b2, b3]) (h : wpList Tryd.prog ops Q rest (a.put o.dst (.agg #[b1, b2, b3])) w) : wpList Tryd.prog ops Q (o :: rest) a w :=
  wpList_load_row hgd 37 x ho g hx 37 _ _ _ hD Tryd.underlying37 rfl size3 h
theorem BM_get (l : List Bool) (j : Nat) (b : Bool) (h : l[j]? = some b) : (BM l)[j]? = some (.bool b) := by
  unfold BM
  rw [List.getElem?_toArray, List.getElem?_map, h]
  rfl
theorem rastAt_blk {w : World} {g n W H : Nat} {l : List Bool} (h : Blk w g 4 (BM l)) (hl : l.length = n) : RastAt w (.agg #[.int .i64 (W : Int), .int .i64 (H : Int), .slice (some ⟨g, 0, none⟩) n n]) ⟨W, H, l⟩ := by
  refine ⟨some ⟨g, 0, none⟩, n, n, rfl, Nat.le_refl _, ⟨by rw [List.length_map, hl, Nat.mul_one], fun _ => ⟨_, rfl, h.lt, fun jj u hu => ?_⟩⟩⟩
  rw [show ((⟨g, 0, none⟩ : Addr).add jj) = ⟨g, jj, none⟩ by simp [Addr.add]; intro h; omega, h.cell, ← hu]
  unfold BM
  rw [List.getElem?_toArray]
theorem pg_one (W0 : World) (l : List UInt8) (c : Nat) (hc : l.length ≤ c) : Pg ((W0.alloc (.cells (BV l).toArray 5)).alloc (.cells #[.slice (some ⟨W0.heap.size, 0, none⟩) l.length c] 27)) ((W0.alloc (.cells (BV l).toArray 5)).alloc (.cells #[.slice (some ⟨W0.heap.size, 0, none⟩) l.length c] 27)).heap.size (some ⟨W0.heap.size + 1, 0, none⟩) 1 [l] := by
  have h1 := (Blk.new W0 5 (BV l).toArray).alloc (.cells #[.slice (some ⟨W0.heap.size, 0, none⟩) l.length c] 27)
  have h2 := Blk.new (W0.alloc (.cells (BV l).toArray 5)) 27 #[.slice (some ⟨W0.heap.size, 0, none⟩) l.length c]
  rw [show (W0.alloc (.cells (BV l).toArray 5)).heap.size = W0.heap.size + 1 by simp] at h2
  generalize (W0.alloc (.cells (BV l).toArray 5)).alloc (.cells #[.slice (some ⟨W0.heap.size, 0, none⟩) l.length c] 27) = X at *
  refine ⟨[.slice (some ⟨W0.heap.size, 0, none⟩) l.length c], ⟨rfl, fun _ => ⟨_, rfl, h2.lt, fun j u hj => ?_⟩⟩, rfl, fun k hk => ?_⟩
  · rw [show ((⟨W0.heap.size + 1, 0, none⟩ : Addr).add j) = ⟨W0.heap.size + 1, j, none⟩ by simp [Addr.add]; intro h; omega, h2.cell]
    simpa using hj
  · have hk0 : k = 0 := by simpa using hk
    subst hk0
    refine ⟨some ⟨W0.heap.size, 0, none⟩, l.length, c, rfl, hc, ⟨by rw [BV_len]; simp, fun _ => ⟨_, rfl, h1.lt, fun j u hj => ?_⟩⟩⟩
    rw [show ((⟨W0.heap.size, 0, none⟩ : Addr).add j) = ⟨W0.heap.size, j, none⟩ by simp [Addr.add]; intro h; omega, h1.cell, List.getElem?_toArray]
    simpa using hj
namespace Ce
theorem of_51 : of [5, 1] = (17, 0) := by
  rw [of_ok (by intro x hx; simp at hx; rcases hx with rfl | rfl <;> (unfold good; omega)) (by decide)]
  rfl
set_option maxRecDepth 100000 in
theorem pack_31 : pack 3 1 [true, true, true] = [[9, 1]] := by decide +kernel
set_option maxRecDepth 100000 in
theorem unErr_91 : unErr [[9, 1]] = 0 := by decide +kernel
set_option maxRecDepth 100000 in
theorem unRast_91 : unRast [[9, 1]] = ⟨4, 3, [true, true, true, false, false, false, false, false, false, false, false, false]⟩ := by
  have h : (allValid [[9, 1]] && canPage [[9, 1]]) = true := by decide +kernel
  unfold unRast
  rw [h, if_pos rfl]
  have h2 : unBits [[9, 1]] (2 * wide [[9, 1]]) (3 * [[(9 : UInt8), 1]].length) = [true, true, true, false, false, false, false, false, false, false, false, false] := by decide +kernel
  rw [h2]
  rfl
theorem nzs_901 : nzs [[9, 0, 1]] = 2 := by decide +kernel
theorem nds_901 : nds [[9, 0, 1]] = 3 := by decide +kernel
theorem dots_25 : (dots 25).map (Value.int .i64) = [1, 4, 5].map (Value.int .i64) := by rfl
theorem text_063 : text [0, 1, 63] = [32, 33, 95] := by decide +kernel
end Ce
set_option maxHeartbeats 2000000 in
set_option maxRecDepth 100000 in
theorem lives_any (w : World) : Calls Tryd.prog 13 #[] w fun e w' => e = .returned (.bool true) ∧ Below w.heap.size w w' := by
  have CO := hide (fun (W : World) (A : Option Addr) (hr : Reads W W.heap.size 1 A 2 ([5, 1].map (Value.int .i64))) => (show Calls Tryd.prog 27 #[.slice A 2 2] W fun e w' => e = .returned (.tuple #[.int .u8 17, .int .i64 0]) ∧ Below W.heap.size W w' from by
    have := of_any A 2 2 [5, 1] W hr (by omega)
    rwa [Ce.of_51] at this))
  have CP := hide (fun (W : World) (A : Option Addr) (hr : Reads W W.heap.size 1 A 3 ([true, true, true].map Value.bool)) => (show Calls Tryd.prog 15 #[.agg #[.int .i64 3, .int .i64 1, .slice A 3 3]] W fun e w' => ∃ gp, e = .returned (.tuple #[.slice (some ⟨gp, 0, none⟩) 1 1, .int .i64 0]) ∧ Pg w' w'.heap.size (some ⟨gp, 0, none⟩) 1 [[9, 1]] ∧ Below W.heap.size W w' from by
    have := pack_any A 3 3 3 1 [true, true, true] W hr rfl (by omega) (by omega) (by omega)
    rwa [Ce.pack_31] at this))
  have CU := hide (fun (W : World) (A : Option Addr) (hp : Pg W W.heap.size A 1 [[9, 1]]) => (show Calls Tryd.prog 16 #[.slice A 1 1] W fun e w' => ∃ A' n c, e = .returned (.tuple #[.agg #[.int .i64 4, .int .i64 3, .slice A' n c], .int .i64 0]) ∧ RastAt w' (.agg #[.int .i64 4, .int .i64 3, .slice A' n c]) ⟨4, 3, [true, true, true, false, false, false, false, false, false, false, false, false]⟩ ∧ Below W.heap.size W w' from by
    refine (unpack_any A 1 1 [[9, 1]] W hp (by omega) (by intro l hl; simp at hl; subst hl; decide)).mono fun e w' ⟨v, he, hra, hb⟩ => ?_
    rw [Ce.unRast_91] at hra
    have hra' := hra
    obtain ⟨A', n, c, hv, _, _⟩ := hra'
    subst hv
    exact ⟨A', n, c, by rw [he, Ce.unErr_91]; rfl, hra, hb⟩))
  have CC := hide (fun (W : World) (A : Option Addr) (hp : Pg W W.heap.size A 1 [[9, 0, 1]]) => (show Calls Tryd.prog 7 #[.slice A 1 1] W fun e w' => e = .returned (.tuple #[.int .i64 2, .int .i64 3]) ∧ W = w' from by
    have := count_any A 1 1 [[9, 0, 1]] W hp (by omega) (by intro l hl; simp at hl; subst hl; decide)
    rw [Ce.nzs_901, Ce.nds_901] at this
    exact this))
  have CB1 := hide (fun (W : World) => (show Calls Tryd.prog 28 #[.int .u8 1] W fun e w' => e = .returned (.int .u8 8) ∧ W = w' from back_any 1 W))
  have CB2 := hide (fun (W : World) => (show Calls Tryd.prog 28 #[.int .u8 14] W fun e w' => e = .returned (.int .u8 49) ∧ W = w' from back_any 14 W))
  have CD := hide (fun (W : World) => (show Calls Tryd.prog 30 #[.int .u8 25] W fun e w' => ∃ A c, e = .returned (.slice A 3 c) ∧ Reads w' w'.heap.size 1 A 3 ([1, 4, 5].map (Value.int .i64)) ∧ Below W.heap.size W w' from
    (dots_any 25 W).mono fun e w' ⟨v, he, hown, hb⟩ => by
      obtain ⟨A, c, hv, _, _⟩ := own_slice hown
      subst hv
      exact ⟨A, c, he, Reads.of_own hown, hb⟩))
  have CT := hide (fun (W : World) (A : Option Addr) (hr : Reads W W.heap.size 1 A 3 (BV [0, 1, 63])) => (show Calls Tryd.prog 31 #[.slice A 3 3] W fun e w' => e = .returned (.string { data := #[32, 33, 95] }) ∧ Below W.heap.size W w' from by
    have := text_any A 3 3 [0, 1, 63] W hr (by omega)
    rw [Ce.text_063] at this
    exact this))
  have hmk : ∀ W', (Instr.makeSlice 35 (.int .i64 12) (.int .i64 12)).run Tryd.prog W' = .ok (.slice (some ⟨W'.heap.size, 0, none⟩) 12 12) (W'.alloc (.cells (BM (List.replicate 12 false)) 4)) := fun W' => by
    have := run_make_row' (P := Tryd.prog) 35 4 (.bool false) 1 Tryd.underlying35 boolInfo rfl .i64 .i64 12 (by omega) (by omega) W'
    rw [madeBool, ← BM_rep] at this
    exact this
  have HMK := hide hmk
  clear hmk
  go_enter Tryd.func13, Tryd.ntmps13
  go_upto_region 2 with (go_at_call 27; refine (unhide CO _ _ (reads_block w _ _ 2 rfl)).mono ?_; rintro e w1 ⟨rfl, hb1⟩; have B1 := hide ((below_alloc w _).trans (hb1.mono (by simp))); clear hb1)
  go_upto_region 3 with (go_at_call 15; refine (unhide CP _ _ (reads_block w1 _ _ 3 rfl)).mono ?_; rintro e w2 ⟨gp, rfl, hpg, hb2⟩; have HPG := hide hpg; have B2 := hide (B1.out.trans (((below_alloc w1 _).trans (hb2.mono (by simp))).mono B1.out.size)); clear hb2 hpg)
  go_upto_region 4 with (go_at_call 16; refine (unhide CU _ _ (pg_one w2 [9, 1] 2 (by decide))).mono ?_; rintro e w3 ⟨A3, n3, c3, rfl, hra, hb3⟩; have HRA := hide hra; have B3 := hide (((below_alloc w2 _).alloc (by simp) _).trans (hb3.mono (by simp; omega))); clear hb3 hra)
  have hw2 := B2.out.size
  have hw3 := B3.out.size
  have HPG3 := hide ((HPG.out.below B3.out).more hw3)
  refine name_world fun X hX => ?_
  have HR := hide (show Blk X w3.heap.size 37 #[.int .i64 4, .int .i64 3, .slice A3 n3 c3] by rw [← hX.out]; exact Blk.new w3 _ _)
  have BX := hide (show Below w3.heap.size w3 X by rw [← hX.out]; exact below_alloc w3 _)
  clear hX
  have hx := BX.out.size
  have HRAX := hide (HRA.out.below BX.out)
  have HPGX := hide ((HPG3.out.below BX.out).more hx)
  have HX := hide (B2.out.trans ((B3.out.trans (BX.out.mono hw3)).mono hw2))
  clear HRA HPG HPG3 B3 BX
  go_upto_region 5 with (go_at_call 7; refine (unhide CC _ _ (pg_one X [9, 0, 1] 3 (by decide))).mono ?_; rintro e w4 ⟨rfl, rfl⟩)
  refine name_world fun Y hY => ?_
  have BY := hide (show Below X.heap.size X Y by rw [← hY.out]; exact (below_alloc X _).alloc (by simp) _)
  clear hY
  have hy := BY.out.size
  have HRY := hide (HR.out.below BY.out HR.out.lt)
  have HRAY := hide (HRAX.out.below BY.out)
  have HPGY := hide ((HPGX.out.below BY.out).more hy)
  have HY := hide (HX.out.trans (BY.out.mono HX.out.size))
  clear HRAX HPGX HR HX BY
  go_upto_region 7 with (first
    | (go_at_call_of 28 (Value.int .u8 1); refine (CB1.out _).mono ?_; rintro e w5 ⟨rfl, rfl⟩)
    | (go_at_call_of 28 (Value.int .u8 14); refine (CB2.out _).mono ?_; rintro e w6 ⟨rfl, rfl⟩))
  have hmk := HMK.out
  go_upto_region 8 with fail
  clear hmk HMK
  refine name_world fun Z hZ => ?_
  have hgb : Y.heap.size < Y.heap.size + 1 := by omega
  have B0 := hide (show Blk Z Y.heap.size 4 (BM (List.replicate 12 false)) by rw [← hZ.out]; exact (Blk.new Y _ _).alloc _)
  have G0 := hide (show Blk Z (Y.heap.size + 1) 37 #[.int .i64 4, .int .i64 3, .slice (some ⟨Y.heap.size, 0, none⟩) 12 12] by
    rw [← hZ.out]
    have := Blk.new (Y.alloc (.cells (BM (List.replicate 12 false)) 4)) 37 #[.int .i64 4, .int .i64 3, .slice (some ⟨Y.heap.size, 0, none⟩) 12 12]
    rwa [show (Y.alloc (.cells (BM (List.replicate 12 false)) 4)).heap.size = Y.heap.size + 1 by simp] at this)
  have BZ := hide (show Below Y.heap.size Y Z by rw [← hZ.out]; exact (below_alloc Y _).alloc (by simp) _)
  clear hZ
  generalize hgbe : Y.heap.size = gb at *
  have hz2 : Z.cell? ⟨gb + 1, 2, none⟩ = some (.slice (some ⟨gb, 0, none⟩) 12 12) := G0.out.cell 2
  have hzc : Z.cell? ⟨gb, 0, none⟩ = some (.bool false) := by rw [B0.out.cell]; exact BM_get _ _ _ rfl
  have hzf := B0.out.frozen 0
  go_upto_region 9 with fail
  clear hz2 hzc hzf
  refine name_world fun Z1 hZ1 => ?_
  have B1' := hide (show Blk Z1 gb 4 (BM ((List.replicate 12 false).set 0 true)) by rw [← hZ1.out, ← BM_set]; exact B0.out.set_ 0 _)
  have G1 := hide (show Blk Z1 (gb + 1) 37 #[.int .i64 4, .int .i64 3, .slice (some ⟨gb, 0, none⟩) 12 12] by rw [← hZ1.out]; exact G0.out.far (p := ⟨gb, 0, none⟩) (by show gb + 1 ≠ gb; omega) _)
  have BZ1 := hide (show Below gb Y Z1 by rw [← hZ1.out]; exact BZ.out.setCell (p := ⟨gb, 0, none⟩) (Nat.le_refl _) _)
  clear hZ1 B0 G0 BZ
  have hz2 : Z1.cell? ⟨gb + 1, 2, none⟩ = some (.slice (some ⟨gb, 0, none⟩) 12 12) := G1.out.cell 2
  have hzc : Z1.cell? ⟨gb, 1, none⟩ = some (.bool false) := by rw [B1'.out.cell]; exact BM_get _ _ _ rfl
  have hzf := B1'.out.frozen 1
  go_upto_region 10 with fail
  clear hz2 hzc hzf
  refine name_world fun Z2 hZ2 => ?_
  have B2' := hide (show Blk Z2 gb 4 (BM (((List.replicate 12 false).set 0 true).set 1 true)) by rw [← hZ2.out, ← BM_set]; exact B1'.out.set_ 1 _)
  have G2 := hide (show Blk Z2 (gb + 1) 37 #[.int .i64 4, .int .i64 3, .slice (some ⟨gb, 0, none⟩) 12 12] by rw [← hZ2.out]; exact G1.out.far (p := ⟨gb, 1, none⟩) (by show gb + 1 ≠ gb; omega) _)
  have BZ2 := hide (show Below gb Y Z2 by rw [← hZ2.out]; exact BZ1.out.setCell (p := ⟨gb, 1, none⟩) (Nat.le_refl _) _)
  clear hZ2 B1' G1 BZ1
  have hz2 : Z2.cell? ⟨gb + 1, 2, none⟩ = some (.slice (some ⟨gb, 0, none⟩) 12 12) := G2.out.cell 2
  have hzc : Z2.cell? ⟨gb, 2, none⟩ = some (.bool false) := by rw [B2'.out.cell]; exact BM_get _ _ _ rfl
  have hzf := B2'.out.frozen 2
  go_upto_region 11 with fail
  clear hz2 hzc hzf
  refine name_world fun Z3 hZ3 => ?_
  have B3' := hide (show Blk Z3 gb 4 (BM [true, true, true, false, false, false, false, false, false, false, false, false]) by rw [← hZ3.out]; have := B2'.out.set_ 2 (.bool true); rw [BM_set] at this; exact this)
  have G3 := hide (show Blk Z3 (gb + 1) 37 #[.int .i64 4, .int .i64 3, .slice (some ⟨gb, 0, none⟩) 12 12] by rw [← hZ3.out]; exact G2.out.far (p := ⟨gb, 2, none⟩) (by show gb + 1 ≠ gb; omega) _)
  have BZ3 := hide (show Below gb Y Z3 by rw [← hZ3.out]; exact BZ2.out.setCell (p := ⟨gb, 2, none⟩) (Nat.le_refl _) _)
  clear hZ3 B2' G2 BZ2
  have hg3 := B3'.out.lt
  have hg4 := G3.out.lt
  have hwx : w.heap.size ≤ gb := by have := HY.out.size; omega
  have HZ := hide (HY.out.trans (BZ3.out.mono hwx))
  have hrl := HRY.out.lt
  have hrg : w3.heap.size < gb := by omega
  have HRZ := hide (HRY.out.below BZ3.out hrg)
  have HPZ := hide (show Pg Z3 gb (some ⟨gp, 0, none⟩) 1 [[9, 1]] from HPGY.out.below BZ3.out)
  have HPZ2 := hide (HPZ.out.more (Nat.le_of_lt hg3))
  have HAZ := hide (HRAY.out.below (by rw [hgbe]; exact BZ3.out))
  have HBZ := hide (rastAt_blk (W := 4) (H := 3) B3'.out rfl)
  have hws := HZ.out.size
  clear HPZ HPGY HRAY HRY BZ3 CO CP CU CC CB1 CB2
  go_wp2_with (first
    | (go_at_call 30; refine (CD.out Z3).mono ?_; rintro e x1 ⟨A1, c1, rfl, hrd, hb⟩; have HD1 := hide hrd; have X1 := hide hb; clear hrd hb)
    | (go_at_call 29; refine (sameInts_eq A1 (some ⟨x1.heap.size, 0, none⟩) 3 c1 3 [1, 4, 5] _ ((HD1.out.alloc (Nat.le_refl _) _).more (by simp)) (reads_block x1 _ _ 3 rfl) (by decide)).mono ?_; rintro e x2 ⟨rfl, hb⟩; have X2 := hide (X1.out.trans (((below_alloc x1 _).trans (hb.mono (by simp))).mono X1.out.size)); clear hb)
    | (go_at_call 31; refine (unhide CT _ _ (reads_block x2 _ _ 3 rfl)).mono ?_; rintro e x3 ⟨rfl, hb⟩; have X3 := hide (X2.out.trans (((below_alloc x2 _).trans (hb.mono (by simp))).mono X2.out.size)); clear hb)
    | (go_at_call 32; refine (equal_eq (some ⟨gp, 0, none⟩) (some ⟨x3.heap.size + 1, 0, none⟩) 1 1 1 [[9, 1]] _ (((HPZ2.out.below X3.out).more X3.out.size |>.below ((below_alloc x3 _).alloc (by simp) _)).more (by simp; omega)) (pg_one x3 [9, 1] 2 (by decide)) (by omega) (by intro l hl; simp at hl; subst hl; decide)).mono ?_; rintro e x4 ⟨rfl, hb⟩; have X4 := hide (X3.out.trans (((below_alloc x3 _).alloc (by simp) _ |>.trans (hb.mono (by simp; omega))).mono X3.out.size)); have R5 := hide (HRZ.out.below X4.out HRZ.out.lt); have R9 := hide (G3.out.below X4.out hg4); have q50 : x4.cell? ⟨w3.heap.size, 0, none⟩ = some (.int .i64 4) := R5.out.cell 0; have q51 : x4.cell? ⟨w3.heap.size, 1, none⟩ = some (.int .i64 3) := R5.out.cell 1; have q52 : x4.cell? ⟨w3.heap.size, 2, none⟩ = some (.slice A3 n3 c3) := R5.out.cell 2; have q90 : x4.cell? ⟨gb + 1, 0, none⟩ = some (.int .i64 4) := R9.out.cell 0; have q91 : x4.cell? ⟨gb + 1, 1, none⟩ = some (.int .i64 3) := R9.out.cell 1; have q92 : x4.cell? ⟨gb + 1, 2, none⟩ = some (.slice (some ⟨gb, 0, none⟩) 12 12) := R9.out.cell 2; clear hb)
    | (go_at_call 33; refine (sameRaster_eq _ _ ⟨4, 3, [true, true, true, false, false, false, false, false, false, false, false, false]⟩ x4 (HAZ.out.below X4.out) (HBZ.out.below X4.out) (by decide)).mono ?_; rintro e x5 ⟨rfl, hb⟩; have X5 := hide (X4.out.trans (hb.mono X4.out.size)); clear hb))
  go_ret
  exact ⟨rfl, HZ.out.trans (X5.out.mono hws)⟩
end Go.Proofs.YtdjmfjmijpfijaaDoor
