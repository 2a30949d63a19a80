/-
  Tables: number, by contract.
-/
import Derived.Test.YtbcfndhnopmbbaaTabN
namespace Go.Proofs.Ytbcfndhnopmbbaa
open Go.RowKit
set_option linter.unusedVariables false
set_option linter.unusedSimpArgs false
theorem results_cell0 {P : Program} {fn : Func} {p : Tmp} {ty : TypeId} (h : fn.results = #[.cell p ty]) (tmps : Array Value) (w : World) (a : Addr) (v : Value)
    (hp : tmps.getD p undef = .pointer (some a)) (hl : (loadVar ty a).run P w = .ok v w) : (results fn tmps).run P w = .ok v w := by
  have hp' : tmps[p]?.getD undef = .pointer (some a) := by simpa using hp
  simp [results, h, hp', asAddr, hl]
theorem below_setRow {B g : Nat} {w0 w : World} (h : Below B w0 w) (hg : B ≤ g) (cs : Array Value) : Below B w0 (w.setRow g cs) :=
  ⟨h.os, h.tape, h.output, by simpa using h.size, fun i hi => (setRow_other w g i cs (by omega)).trans (h.block i hi)⟩
theorem stepInfo : (Try.prog.info? 69).map (·.size) = some 6 := by kernel_rfl
theorem size_alloc (w : World) (o : Obj) : (w.alloc o).heap.size = w.heap.size + 1 := by simp
theorem Blk.new2 (w : World) (a : Obj) (t : TypeId) (cs : Array Value) : Blk ((w.alloc a).alloc (.cells cs t)) (w.heap.size + 1) t cs := by
  have := Blk.new (w.alloc a) t cs
  rwa [size_alloc] at this
theorem Blk.new3 (w : World) (a b : Obj) (t : TypeId) (cs : Array Value) : Blk (((w.alloc a).alloc b).alloc (.cells cs t)) (w.heap.size + 1 + 1) t cs := by
  have := Blk.new2 (w.alloc a) b t cs
  rwa [size_alloc] at this
theorem own_nil (w : World) (b e size : Nat) : w.ownsRow b e size (.slice none 0 0) 0 [] := ⟨by simp, .inl ⟨rfl, rfl⟩⟩
theorem own_setRow {w : World} {b e size n : Nat} {v : Value} {xs : List Value} (h : w.ownsRow b e size v n xs) {g : Nat} (hg : g < b) (cs : Array Value) : (w.setRow g cs).ownsRow b e size v n xs := by
  refine ⟨h.1, ?_⟩
  rcases h.2 with h0 | ⟨g', cap, cur, h1, h2, h3, h4⟩
  · exact .inl h0
  · exact .inr ⟨g', cap, cur, h1, h2, (setRow_other w g g' cs (by omega)).trans h3, h4⟩
theorem own_count {w : World} {b n : Nat} {v : Value} {l : List UInt8} (h : w.ownsRow b 5 1 v n (BV l)) : w.ownsRow b 5 1 v l.length (BV l) := by
  have hn : n = l.length := by have := h.1; rw [BV_len] at this; omega
  rwa [hn] at h
theorem BV_snoc (l : List UInt8) (c : UInt8) : BV l ++ [Value.int .u8 (c.toNat : Int)] = BV (l ++ [c]) := by rw [BV_append]; rfl
/-- a state as a value -/
def stV (s : Tb.St) : Value := .agg #[.int .i64 s.lang, .bool s.num, .bool s.inn]
set_option maxHeartbeats 4000000 in
set_option maxRecDepth 100000 in
theorem number_any (v : Value) (t : Tb.Tab) (s : Tb.St) (ch : UInt8) (w : World) (h : TabAt w w.heap.size v t) (hnl : t.num.l.length ≤ 4) (hdl : t.dig.l.length = 10) (hch : Tb.digit ch = true) :
    Calls Try.prog 55 #[v, stV s, VC ch] w fun e w' => ∃ A' c', e = .returned (.agg #[.int .i64 s.lang, .bool true, .bool false, .int .i64 1, .slice A' (Tb.number t s ch).cells.length c', .int .i64 (-1)]) ∧ BsAt w' w'.heap.size ⟨(Tb.number t s ch).cells, A', c'⟩ ∧ Below w.heap.size w w' := by
  obtain ⟨i0, hi, hz0, hz1, hz2⟩ := info_parts byteInfo'
  have HI := hide hi
  have HZ0 := hide hz0
  have HZ1 := hide hz1
  have HZ2 := hide hz2
  have hdg : 48 ≤ ch.toNat ∧ ch.toNat ≤ 57 := of_decide_eq_true hch
  obtain ⟨k, hk⟩ : ∃ k, ch.toNat = 48 + k := ⟨ch.toNat - 48, by omega⟩
  have hk10 : k < 10 := by omega
  obtain ⟨A0, A1, c0, c1, rfl, _, _, _, _, hd, _, hn, _, _⟩ := h
  obtain ⟨dad, u, hdad, hdb, hu, hcu⟩ := Reads.at_ hd.1 (k := k) (by omega)
  have hkl : k < t.dig.l.length := by omega
  have HDC := hide (show w.cell? (dad.add k) = some (.int .u8 ((t.dig.l.getD k 0).toNat : Int)) by
    rw [hcu, ← hu, BV_get t.dig.l k hkl]
    simp [List.getD, hkl])
  have HCELLS := hide (show (Tb.number t s ch).cells = (if s.num then [] else t.num.l) ++ [t.dig.l.getD k 0] by unfold Tb.number; rw [hk, Nat.add_sub_cancel_left])
  have HR := hide (fun (W : World) (hb : Below w.heap.size w W) => (hn.1.below hb).more hb.size)
  unfold stV VC
  rw [hk, hdl]
  have hkc : ((48 + k : Nat) : Int) = 48 + (k : Int) := by omega
  rw [hkc]
  generalize t.dig.l.getD k 0 = dc at *
  generalize (Tb.number t s ch).cells = cells at *
  generalize t.num.l = nl at *
  generalize t.r0.length = n0 at *
  generalize t.r1.length = n1 at *
  generalize t.cap.l.length = n3 at *
  generalize t.fin.l.length = n5 at *
  generalize t.sw.l.length = n6 at *
  obtain ⟨n4, hn4⟩ : ∃ n4, n4 = nl.length := ⟨_, rfl⟩
  rw [← hn4] at HR hnl ⊢
  have HN4 := hide hn4
  have hk0 : (0 : Int) ≤ (k : Int) := by omega
  have hk1 : (k : Int) < 10 := by omega
  have hzs : True := trivial
  clear hi hz0 hz1 hz2 hd hn hu hcu hkl hdl hch hdg hkc hk hn4 hzs
  go_enter Try.func55, Try.ntmps55
  go_upto_region 1 with fail
  refine name_world fun V hV => ?_
  have V3 := hide (show Blk V w.heap.size 28 #[.slice A0 n0 c0, .slice A1 n1 c1, .slice t.dig.ad 10 t.dig.c, .slice t.cap.ad n3 t.cap.c, .slice t.num.ad n4 t.num.c, .slice t.fin.ad n5 t.fin.c, .slice t.sw.ad n6 t.sw.c] by rw [← hV.out, ← hdad]; exact ((Blk.new w _ _).alloc _).alloc _)
  have V4 := hide (show Blk V (w.heap.size + 1) 60 #[.int .i64 s.lang, .bool s.num, .bool s.inn] by rw [← hV.out]; exact (Blk.new2 w _ _ _).alloc _)
  have V6 := hide (show Blk V (w.heap.size + 1 + 1) 69 #[.int .i64 0, .bool false, .bool false, .int .i64 0, .slice none 0 0, .int .i64 0] by rw [← hV.out]; exact Blk.new3 w _ _ _ _)
  have HV := hide (show Below w.heap.size w V by rw [← hV.out]; exact (((Below.refl _ _).alloc (Nat.le_refl _) _).alloc (by simp) _).alloc (by simp; omega) _)
  have hgV := V6.out.lt
  have RV := hide (fun (W : World) (hb : Below V.heap.size V W) => HR.out W (HV.out.trans (hb.mono HV.out.size)))
  have DV := hide (fun (W : World) (hb : Below V.heap.size V W) => (show W.cell? (dad.add k) = some (.int .u8 (dc.toNat : Int)) by rw [(HV.out.trans (hb.mono HV.out.size)).cell (by rw [block_of_add]; exact hdb)]; exact HDC.out))
  have k3 : V.cell? ⟨w.heap.size, 4, none⟩ = some (.slice t.num.ad n4 t.num.c) := V3.out.cell 4
  have k1 : V.cell? ⟨w.heap.size, 2, none⟩ = some (.slice t.dig.ad 10 t.dig.c) := V3.out.cell 2
  have k4 : V.cell? ⟨w.heap.size + 1, 1, none⟩ = some (.bool s.num) := V4.out.cell 1
  have k5 : V.cell? ⟨w.heap.size + 1, 0, none⟩ = some (.int .i64 s.lang) := V4.out.cell 0
  have kd := DV.out V (Below.refl _ _)
  rw [hdad] at k1 V3
  have HVV := hide (Below.refl V.heap.size V)
  clear hV
  generalize hsn : s.num = sn at *
  cases sn with
  | true =>
    have HC := hide (show cells = [dc] by rw [HCELLS.out]; rfl)
    clear HCELLS
    go_upto_region 5 with (at_builtin; refine wpList_append_any _ rfl (.tmp 15) (.tmp 22) 26 rfl V.heap.size 5 i0 (.int .u8 0) 1 1 Try.underlying26 HI.out HZ0.out HZ1.out HZ2.out rfl (by omega) _ 0 [] rfl (own_nil _ _ _ _) _ (some ⟨V.heap.size, 0, none⟩) 1 1 [.int .u8 (dc.toNat : Int)] rfl (reads_new V _ _) (by simp [Value.oneCell']) (by unfold maxLen; omega) (by omega) (by simp) ?_; intro v4 w4 hown4 hgrow4 hat4; have HO4 := hide hown4; have HB4 := hide ((below_alloc V _).trans (below_grown hgrow4 (own_nil _ V.heap.size 5 1) (by simp))); clear hown4 hgrow4 hat4)
    have HO5 := hide (own_count (show w4.ownsRow V.heap.size 5 1 v4 (0 + 1) (BV cells) by rw [HC.out]; exact HO4.out))
    clear HO4
    have hcl : cells.length ≤ 5 := by have := HC.out; rw [this]; simp; try (have := HN4.out; omega)
    obtain ⟨A', c', hv4, hbs, _⟩ := bs_of_own HO5.out (by omega)
    rw [hv4] at HO5
    subst hv4
    have HBS := hide hbs
    have hs4 := HB4.out.size
    have k7 : w4.cell? ⟨w.heap.size + 1, 0, none⟩ = some (.int .i64 s.lang) := (V4.out.below HB4.out (by omega)).cell 0
    have HB6 := hide (show w4.heap[w.heap.size + 1 + 1]? = some (.cells #[.int .i64 0, .bool false, .bool false, .int .i64 0, .slice none 0 0, .int .i64 0] 69 (0, 0)) from V6.out.below HB4.out (by omega))
    have HW4 := hide (HV.out.trans (HB4.out.mono HV.out.size))
    obtain ⟨cl, hcl2⟩ : ∃ cl, cl = cells.length := ⟨_, rfl⟩
    rw [← hcl2]
    have HCL := hide hcl2
    clear hbs hcl2 k1 k5 kd
    go_wp2_with (with_reducible refine wpList_store_row rfl 69 (.tmp 6) (.tmp 28) rfl (w.heap.size + 1 + 1) #[.int .i64 s.lang, .bool true, .bool false, .int .i64 1, .slice A' cl c', .int .i64 (-1)] rfl ?b2 69 _ HB6.out ?g1 ?g2 ?g3 ?_)
    case b2 => rfl
    case g1 => exact stepInfo
    case g2 => rfl
    case g3 => simp [Value.oneCell']
    have hload : (loadVar 69 ⟨w.heap.size + 1 + 1, 0, none⟩).run Try.prog (w4.setRow (w.heap.size + 1 + 1) #[.int .i64 s.lang, .bool true, .bool false, .int .i64 1, .slice A' cl c', .int .i64 (-1)]) = .ok (.agg #[.int .i64 s.lang, .bool true, .bool false, .int .i64 1, .slice A' cl c', .int .i64 (-1)]) (w4.setRow (w.heap.size + 1 + 1) #[.int .i64 s.lang, .bool true, .bool false, .int .i64 1, .slice A' cl c', .int .i64 (-1)]) :=
      run_loadVar_row _ _ _ _ _ _ _ (setRow_heap _ (w.heap.size + 1 + 1) _ _ _ _ HB6.out) Try.underlying69 rfl stepInfo
    refine bodyPost_ret (v := .agg #[.int .i64 s.lang, .bool true, .bool false, .int .i64 1, .slice A' cl c', .int .i64 (-1)]) (results_cell0 Try.results55 _ _ ⟨w.heap.size + 1 + 1, 0, none⟩ _ rfl hload) rfl ⟨A', c', by rw [HCL.out], ?_, below_setRow HW4.out (by omega) _⟩
    have hbs := HBS.out
    refine ⟨?_, hbs.2⟩
    exact Reads.of_own (own_setRow HO5.out (by omega) _)
  | false =>
    have HC := hide (show cells = nl ++ [dc] by rw [HCELLS.out]; rfl)
    clear HCELLS
    go_upto_region 4 with (at_builtin; refine wpList_append_any _ rfl (.tmp 11) (.tmp 13) 26 rfl V.heap.size 5 i0 (.int .u8 0) 1 1 Try.underlying26 HI.out HZ0.out HZ1.out HZ2.out rfl (by omega) _ 0 [] rfl (own_nil _ _ _ _) _ t.num.ad n4 t.num.c (BV nl) rfl (RV.out V HVV.out) (BV_one nl) (by unfold maxLen; omega) (by omega) (by simp) ?_; intro v2 w2 hown2 hgrow2 hat2; have HO2 := hide hown2; have HB2 := hide (below_grown hgrow2 (own_nil _ V.heap.size 5 1) (by simp)); clear hown2 hgrow2 hat2)
    have hs2 := HB2.out.size
    clear k1 k3 k4 k5 kd
    have k1 : w2.cell? ⟨w.heap.size, 2, none⟩ = some (.slice (some dad) 10 t.dig.c) := (V3.out.below HB2.out (by omega)).cell 2
    have k5 : w2.cell? ⟨w.heap.size + 1, 0, none⟩ = some (.int .i64 s.lang) := (V4.out.below HB2.out (by omega)).cell 0
    have kd := DV.out w2 HB2.out
    go_upto_region 5 with (at_builtin; refine wpList_append_any _ rfl (.tmp 15) (.tmp 22) 26 rfl V.heap.size 5 i0 (.int .u8 0) 1 1 Try.underlying26 HI.out HZ0.out HZ1.out HZ2.out rfl (by omega) _ (0 + n4) _ rfl (HO2.out.alloc _) _ (some ⟨w2.heap.size, 0, none⟩) 1 1 [.int .u8 (dc.toNat : Int)] rfl (reads_new w2 _ _) (by simp [Value.oneCell']) (by unfold maxLen; omega) (by omega) (by simp; omega) ?_; intro v4 w4 hown4 hgrow4 hat4; have HO4 := hide hown4; have HB4 := hide (HB2.out.trans ((below_alloc' w2 _ hs2).trans (below_grown hgrow4 (HO2.out.alloc _) (by simp; omega)))); clear hown4 hgrow4 hat4)
    have HO5 := hide (own_count (show w4.ownsRow V.heap.size 5 1 v4 (0 + n4 + 1) (BV cells) by rw [HC.out, ← BV_snoc]; exact HO4.out))
    clear HO4 HO2
    have hcl : cells.length ≤ 5 := by have := HC.out; rw [this]; simp; try (have := HN4.out; omega)
    obtain ⟨A', c', hv4, hbs, _⟩ := bs_of_own HO5.out (by omega)
    rw [hv4] at HO5
    subst hv4
    have HBS := hide hbs
    have hs4 := HB4.out.size
    have k7 : w4.cell? ⟨w.heap.size + 1, 0, none⟩ = some (.int .i64 s.lang) := (V4.out.below HB4.out (by omega)).cell 0
    have HB6 := hide (show w4.heap[w.heap.size + 1 + 1]? = some (.cells #[.int .i64 0, .bool false, .bool false, .int .i64 0, .slice none 0 0, .int .i64 0] 69 (0, 0)) from V6.out.below HB4.out (by omega))
    have HW4 := hide (HV.out.trans (HB4.out.mono HV.out.size))
    obtain ⟨cl, hcl2⟩ : ∃ cl, cl = cells.length := ⟨_, rfl⟩
    rw [← hcl2]
    have HCL := hide hcl2
    clear hbs hcl2 k1 k5 kd
    go_wp2_with (with_reducible refine wpList_store_row rfl 69 (.tmp 6) (.tmp 28) rfl (w.heap.size + 1 + 1) #[.int .i64 s.lang, .bool true, .bool false, .int .i64 1, .slice A' cl c', .int .i64 (-1)] rfl ?b2 69 _ HB6.out ?g1 ?g2 ?g3 ?_)
    case b2 => rfl
    case g1 => exact stepInfo
    case g2 => rfl
    case g3 => simp [Value.oneCell']
    have hload : (loadVar 69 ⟨w.heap.size + 1 + 1, 0, none⟩).run Try.prog (w4.setRow (w.heap.size + 1 + 1) #[.int .i64 s.lang, .bool true, .bool false, .int .i64 1, .slice A' cl c', .int .i64 (-1)]) = .ok (.agg #[.int .i64 s.lang, .bool true, .bool false, .int .i64 1, .slice A' cl c', .int .i64 (-1)]) (w4.setRow (w.heap.size + 1 + 1) #[.int .i64 s.lang, .bool true, .bool false, .int .i64 1, .slice A' cl c', .int .i64 (-1)]) :=
      run_loadVar_row _ _ _ _ _ _ _ (setRow_heap _ (w.heap.size + 1 + 1) _ _ _ _ HB6.out) Try.underlying69 rfl stepInfo
    refine bodyPost_ret (v := .agg #[.int .i64 s.lang, .bool true, .bool false, .int .i64 1, .slice A' cl c', .int .i64 (-1)]) (results_cell0 Try.results55 _ _ ⟨w.heap.size + 1 + 1, 0, none⟩ _ rfl hload) rfl ⟨A', c', by rw [HCL.out], ?_, below_setRow HW4.out (by omega) _⟩
    have hbs := HBS.out
    refine ⟨?_, hbs.2⟩
    exact Reads.of_own (own_setRow HO5.out (by omega) _)
end Go.Proofs.Ytbcfndhnopmbbaa
