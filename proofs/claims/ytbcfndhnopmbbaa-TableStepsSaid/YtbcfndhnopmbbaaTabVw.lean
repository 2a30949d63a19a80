/-
  Tables: the walk of the law of Valid, from a contract of Bent.
-/
import Derived.Test.YtbcfndhnopmbbaaTabVr
import Derived.Test.YtbcfndhnopmbbaaTabTb
import Derived.Test.YtbcfndhnopmbbaaTabH
namespace Go.Proofs.Ytbcfndhnopmbbaa
open Go.RowKit
set_option linter.unusedVariables false
set_option linter.unusedSimpArgs false
/-- tables of a size that Bent can be called with -/
def Fit (m : Nat) (t : Tb.Tab) : Prop := t.r0.length ≤ m ∧ t.r1.length ≤ m ∧ 1 ≤ t.dig.l.length ∧ t.dig.l.length ≤ 100
/-- tables, which is not said -/
def gTab (m : Nat) : World → Value → Prop := fun W v => ∃ t, TabAt W W.heap.size v t ∧ Fit m t
theorem stab_tab (m : Nat) : Stab (gTab m) := fun _ _ _ hb ⟨t, h, f⟩ => ⟨t, (h.below hb).more hb.size, f⟩
def BentC : Prop := ∀ (m : Nat), m ≤ 600 → ∀ (v : Value) (x y z : Int) (W : World), gTab m W v → Wr.inI x → Wr.inI y → Wr.inI z →
  Calls Try.prog 9 #[v, .int .i64 x, .int .i64 y, .int .i64 z] W fun e w' => ∃ v', e = .returned v' ∧ gTab (m + 100) w' v' ∧ Below W.heap.size W w'
/-- a list of four tables -/
def gTabs : World → Value → Prop := fun W v => ∃ g, v = .slice (some ⟨g, 0, none⟩) 4 4 ∧ g < W.heap.size ∧ ∀ i, i < 4 → ∃ (u0 u1 u2 u3 u4 u5 u6 : Value) (t : Tb.Tab), TabAt W W.heap.size (.agg #[u0, u1, u2, u3, u4, u5, u6]) t ∧
  ∀ (j : Nat) (u : Value), ([u0, u1, u2, u3, u4, u5, u6] : List Value)[j]? = some u → W.cell? ⟨g, i * 7 + j, none⟩ = some u
theorem stab_tabs : Stab gTabs := fun W W' v hb ⟨g, h1, h2, h3⟩ => ⟨g, h1, Nat.lt_of_lt_of_le h2 hb.size, fun i hi => by
  obtain ⟨u0, u1, u2, u3, u4, u5, u6, t, ht, hc⟩ := h3 i hi
  exact ⟨u0, u1, u2, u3, u4, u5, u6, t, (ht.below hb).more hb.size, fun j u hu => by rw [hb.cell (by exact h2)]; exact hc j u hu⟩⟩
def nilTab : Tb.Tab := ⟨[], [], ⟨[], none, 0⟩, ⟨[], none, 0⟩, ⟨[], none, 0⟩, ⟨[], none, 0⟩, ⟨[], none, 0⟩⟩
theorem nil_tab (W : World) : TabAt W W.heap.size (.agg #[.slice none 0 0, .slice none 0 0, .slice none 0 0, .slice none 0 0, .slice none 0 0, .slice none 0 0, .slice none 0 0]) nilTab := by
  have hb : BsAt W W.heap.size ⟨[], none, 0⟩ := ⟨⟨rfl, fun h => absurd h (by simp)⟩, Nat.le_refl _, by simp⟩
  have hr : RulesAt W W.heap.size none [] := ⟨⟨rfl, fun h => absurd h (by simp)⟩, fun r hr => (by cases hr), by simp⟩
  exact ⟨none, none, 0, 0, rfl, hr, hr, Nat.le_refl _, Nat.le_refl _, hb, hb, hb, hb, hb⟩
theorem fit_tablesT {t : Tb.Tab} {n : Int} (h : Tb.eT t = Tb.tablesT n) : Fit 40 t := by
  have e0 : t.r0.length = (Tb.once (Tb.rawR n 0)).length := by
    have := congrArg (fun q => q.r0.length) h
    simpa [Tb.eT, tablesT_r0] using this
  have e1 : t.r1.length = (Tb.once (Tb.rawR n 1)).length := by
    have := congrArg (fun q => q.r1.length) h
    simpa [Tb.eT, tablesT_r1] using this
  have e2 : t.dig.l.length = 10 := by
    have := congrArg (fun q => q.dig.l.length) h
    simpa [Tb.eT, Tb.eB, Tb.tablesT] using this
  have h0 := Nat.le_trans (Tb.once_len (Tb.rawR n 0)) (Tb.rawR_len n 0)
  have h1 := Nat.le_trans (Tb.once_len (Tb.rawR n 1)) (Tb.rawR_len n 1)
  exact ⟨by omega, by omega, by omega, by omega⟩
theorem four_tabs (W : World) (a0 a1 a2 a3 a4 a5 a6 b0 b1 b2 b3 b4 b5 b6 c0 c1 c2 c3 c4 c5 c6 d0 d1 d2 d3 d4 d5 d6 : Value) (ta tb tc td : Tb.Tab) (ha : TabAt W W.heap.size (.agg #[a0, a1, a2, a3, a4, a5, a6]) ta) (hb : TabAt W W.heap.size (.agg #[b0, b1, b2, b3, b4, b5, b6]) tb) (hc : TabAt W W.heap.size (.agg #[c0, c1, c2, c3, c4, c5, c6]) tc) (hd : TabAt W W.heap.size (.agg #[d0, d1, d2, d3, d4, d5, d6]) td) :
    gTabs (W.alloc (.cells #[a0, a1, a2, a3, a4, a5, a6, b0, b1, b2, b3, b4, b5, b6, c0, c1, c2, c3, c4, c5, c6, d0, d1, d2, d3, d4, d5, d6] 28)) (.slice (some ⟨W.heap.size, 0, none⟩) 4 4) := by
  have hB := Blk.new W 28 #[a0, a1, a2, a3, a4, a5, a6, b0, b1, b2, b3, b4, b5, b6, c0, c1, c2, c3, c4, c5, c6, d0, d1, d2, d3, d4, d5, d6]
  have go : ∀ {u : Value} {t : Tb.Tab}, TabAt W W.heap.size u t → TabAt (W.alloc (.cells #[a0, a1, a2, a3, a4, a5, a6, b0, b1, b2, b3, b4, b5, b6, c0, c1, c2, c3, c4, c5, c6, d0, d1, d2, d3, d4, d5, d6] 28)) (W.alloc (.cells #[a0, a1, a2, a3, a4, a5, a6, b0, b1, b2, b3, b4, b5, b6, c0, c1, c2, c3, c4, c5, c6, d0, d1, d2, d3, d4, d5, d6] 28)).heap.size u t := fun h => (h.below (below_alloc W _)).more (below_alloc W _).size
  refine ⟨W.heap.size, rfl, hB.lt, fun i hi => ?_⟩
  have hj : ∀ {l : List Value} {j : Nat} {u : Value}, l.length = 7 → l[j]? = some u → j = 0 ∨ j = 1 ∨ j = 2 ∨ j = 3 ∨ j = 4 ∨ j = 5 ∨ j = 6 := fun hl h => by
    have := (List.getElem?_eq_some_iff.1 h).1
    omega
  match i, hi with
  | 0, _ => exact ⟨a0, a1, a2, a3, a4, a5, a6, ta, go ha, fun j u h => by rcases hj rfl h with rfl | rfl | rfl | rfl | rfl | rfl | rfl <;> exact (hB.cell _).trans h⟩
  | 1, _ => exact ⟨b0, b1, b2, b3, b4, b5, b6, tb, go hb, fun j u h => by rcases hj rfl h with rfl | rfl | rfl | rfl | rfl | rfl | rfl <;> exact (hB.cell _).trans h⟩
  | 2, _ => exact ⟨c0, c1, c2, c3, c4, c5, c6, tc, go hc, fun j u h => by rcases hj rfl h with rfl | rfl | rfl | rfl | rfl | rfl | rfl <;> exact (hB.cell _).trans h⟩
  | 3, _ => exact ⟨d0, d1, d2, d3, d4, d5, d6, td, go hd, fun j u h => by rcases hj rfl h with rfl | rfl | rfl | rfl | rfl | rfl | rfl <;> exact (hB.cell _).trans h⟩
def ksV (TV UV : Value) (x y z : Int) : List (World → Value → Prop) := [gIs (TV), gIs (UV), gIs (UV), gIs (.int .i64 z), gIs (.int .i64 y), gIs (.int .i64 (y.tdiv 11)), gIs (.int .i64 x), gTab 240, gIs (.agg #[.slice none 0 0, .slice none 0 0, .slice none 0 0, .slice none 0 0, .slice none 0 0, .slice none 0 0, .slice none 0 0]), gTabs]
theorem ksV_stab (TV UV : Value) (x y z : Int) : StabL (ksV TV UV x y z) := stabL_cons (stab_is _) (stabL_cons (stab_is _) (stabL_cons (stab_is _) (stabL_cons (stab_is _) (stabL_cons (stab_is _) (stabL_cons (stab_is _) (stabL_cons (stab_is _) (stabL_cons (stab_tab _) (stabL_cons (stab_is _) (stabL_cons stab_tabs (stabL_nil))))))))))
def ksW (g i : Nat) (XV : Value) (va : Int) : List (World → Value → Prop) := [gIs (.slice (some ⟨g, 0, none⟩) 4 4), gIs (.int .i64 (i : Int)), gIs (.pointer (some ⟨g, i * 7, none⟩)), gIs (XV), gIs (.int .i64 va), gIs (.slice (some ⟨g, 0, none⟩) 4 4), gIs (.int .i64 (i : Int)), gIs (.pointer (some ⟨g, i * 7, none⟩)), gIs (XV), gIs (.int .i64 va)]
theorem ksW_stab (g i : Nat) (XV : Value) (va : Int) : StabL (ksW g i XV va) := stabL_cons (stab_is _) (stabL_cons (stab_is _) (stabL_cons (stab_is _) (stabL_cons (stab_is _) (stabL_cons (stab_is _) (stabL_cons (stab_is _) (stabL_cons (stab_is _) (stabL_cons (stab_is _) (stabL_cons (stab_is _) (stabL_cons (stab_is _) (stabL_nil))))))))))
set_option maxHeartbeats 8000000 in
set_option maxRecDepth 100000 in
theorem validlaw_walk (n x y z : Int) (w : World) (hn : Wr.inI n) (hx : Wr.inI x) (hy : Wr.inI y) (hz : Wr.inI z) (hT : TablesC n) (hL : LivesC) (hB : BentC) :
    Calls Try.prog 3 #[.int .i64 n, .int .i64 x, .int .i64 y, .int .i64 z] w fun e w' => e = .returned (.bool true) ∧ Below w.heap.size w w' := by
  have CT := hide (hT w)
  have CL := hide hL
  clear hT hL
  go_enter Try.func3, Try.ntmps3
  go_upto_region 2 with (go_at_call 8; refine (unhide CT).mono ?_; rintro e w1 ⟨v, t, rfl, hta, hte, hb1⟩; have HTA1 := hide hta; have HTE := hide hte; have B1 := hide hb1; obtain ⟨A0, A1, c0, c1, rfl, hta'⟩ := hta; clear hta' hb1 hte)
  refine name_world fun V hV => ?_
  have VT := hide (show Blk V w1.heap.size 28 #[.slice A0 t.r0.length c0, .slice A1 t.r1.length c1, .slice t.dig.ad t.dig.l.length t.dig.c, .slice t.cap.ad t.cap.l.length t.cap.c, .slice t.num.ad t.num.l.length t.num.c, .slice t.fin.ad t.fin.l.length t.fin.c, .slice t.sw.ad t.sw.l.length t.sw.c] by rw [← hV.out]; exact Blk.new w1 _ _)
  have HV1 := hide (show Below w1.heap.size w1 V by rw [← hV.out]; exact below_alloc w1 _)
  clear hV
  have HVW := hide (B1.out.trans (HV1.out.mono B1.out.size))
  have HTV1 := hide ((HTA1.out.below HV1.out).more HV1.out.size)
  have HFT := hide (fit_tablesT HTE.out)
  obtain ⟨hva, _, _⟩ := tab_of HTE.out
  have HVA := hide hva
  obtain ⟨TV, hTV⟩ : ∃ TV : Value, TV = .agg #[.slice A0 t.r0.length c0, .slice A1 t.r1.length c1, .slice t.dig.ad t.dig.l.length t.dig.c, .slice t.cap.ad t.cap.l.length t.cap.c, .slice t.num.ad t.num.l.length t.num.c, .slice t.fin.ad t.fin.l.length t.fin.c, .slice t.sw.ad t.sw.l.length t.sw.c] := ⟨_, rfl⟩
  have HTV := hide hTV.symm
  rw [← hTV] at HTV1
  have HG1 := hide (show gTab 40 V TV from ⟨t, HTV1.out, HFT.out⟩)
  have CB1 := hide (show Calls Try.prog 9 #[.agg #[.slice A0 t.r0.length c0, .slice A1 t.r1.length c1, .slice t.dig.ad t.dig.l.length t.dig.c, .slice t.cap.ad t.cap.l.length t.cap.c, .slice t.num.ad t.num.l.length t.num.c, .slice t.fin.ad t.fin.l.length t.fin.c, .slice t.sw.ad t.sw.l.length t.sw.c], .int .i64 x, .int .i64 y, .int .i64 z] V fun e w' => ∃ v', e = .returned v' ∧ gTab 140 w' v' ∧ Below V.heap.size V w' by
    rw [← hTV]
    exact hB 40 (by omega) TV x y z V HG1.out hx hy hz)
  have hgt := VT.out.lt
  clear hTV hva CT HTA1 HTE HV1
  obtain ⟨g9, hg9⟩ : ∃ g9, g9 = w1.heap.size := ⟨_, rfl⟩
  rw [← hg9] at VT hgt ⊢
  clear hg9 B1
  generalize t.r0.length = n0 at *
  generalize t.r1.length = n1 at *
  generalize t.dig.l.length = n2 at *
  generalize t.cap.l.length = n3 at *
  generalize t.num.l.length = n4 at *
  generalize t.fin.l.length = n5 at *
  generalize t.sw.l.length = n6 at *
  have q0 : V.cell? ⟨g9, 0, none⟩ = some (.slice A0 n0 c0) := VT.out.cell 0
  have q1 : V.cell? ⟨g9, 1, none⟩ = some (.slice A1 n1 c1) := VT.out.cell 1
  have q2 : V.cell? ⟨g9, 2, none⟩ = some (.slice t.dig.ad n2 t.dig.c) := VT.out.cell 2
  have q3 : V.cell? ⟨g9, 3, none⟩ = some (.slice t.cap.ad n3 t.cap.c) := VT.out.cell 3
  have q4 : V.cell? ⟨g9, 4, none⟩ = some (.slice t.num.ad n4 t.num.c) := VT.out.cell 4
  have q5 : V.cell? ⟨g9, 5, none⟩ = some (.slice t.fin.ad n5 t.fin.c) := VT.out.cell 5
  have q6 : V.cell? ⟨g9, 6, none⟩ = some (.slice t.sw.ad n6 t.sw.c) := VT.out.cell 6
  go_upto_region 3 with (go_at_call 9; refine (unhide CB1).mono ?_; rintro e w2 ⟨v2, rfl, hg2, hb2⟩; obtain ⟨u, hu, hfu⟩ := hg2; have HU2 := hide hu; have HFU := hide hfu; have B2 := hide hb2; obtain ⟨D0, D1, d0, d1, rfl, hu'⟩ := hu; clear hu' hb2 hfu)
  refine name_world fun B hBw => ?_
  have BU := hide (show Blk B w2.heap.size 28 #[.slice D0 u.r0.length d0, .slice D1 u.r1.length d1, .slice u.dig.ad u.dig.l.length u.dig.c, .slice u.cap.ad u.cap.l.length u.cap.c, .slice u.num.ad u.num.l.length u.num.c, .slice u.fin.ad u.fin.l.length u.fin.c, .slice u.sw.ad u.sw.l.length u.sw.c] by rw [← hBw.out]; exact Blk.new w2 _ _)
  have H2B := hide (show Below w2.heap.size w2 B by rw [← hBw.out]; exact below_alloc w2 _)
  clear hBw q0 q1 q2 q3 q4 q5 q6 CB1
  have HVB := hide (B2.out.trans (H2B.out.mono B2.out.size))
  have HWB := hide (HVW.out.trans (HVB.out.mono HVW.out.size))
  have BT := hide (VT.out.below HVB.out hgt)
  have HTA := hide ((HTV1.out.below HVB.out).more HVB.out.size)
  have HUA1 := hide ((HU2.out.below H2B.out).more H2B.out.size)
  obtain ⟨UV, hUV⟩ : ∃ UV : Value, UV = .agg #[.slice D0 u.r0.length d0, .slice D1 u.r1.length d1, .slice u.dig.ad u.dig.l.length u.dig.c, .slice u.cap.ad u.cap.l.length u.cap.c, .slice u.num.ad u.num.l.length u.num.c, .slice u.fin.ad u.fin.l.length u.fin.c, .slice u.sw.ad u.sw.l.length u.sw.c] := ⟨_, rfl⟩
  have HUV := hide hUV.symm
  rw [← hUV] at HUA1
  have HUA := hide HUA1.out
  have HGU := hide (show gTab 140 B UV from ⟨u, HUA.out, HFU.out⟩)
  clear hUV HUA1 HU2 B2 H2B VT HVB HVW HG1 HFT HFU HTV1
  generalize w2.heap.size = g10 at BU ⊢
  have HTC := hide (fun (W : World) (hb : Below B.heap.size B W) => (show W.cell? ⟨g9, 0, none⟩ = some (.slice A0 n0 c0) ∧ W.cell? ⟨g9, 1, none⟩ = some (.slice A1 n1 c1) ∧ W.cell? ⟨g9, 2, none⟩ = some (.slice t.dig.ad n2 t.dig.c) ∧ W.cell? ⟨g9, 3, none⟩ = some (.slice t.cap.ad n3 t.cap.c) ∧ W.cell? ⟨g9, 4, none⟩ = some (.slice t.num.ad n4 t.num.c) ∧ W.cell? ⟨g9, 5, none⟩ = some (.slice t.fin.ad n5 t.fin.c) ∧ W.cell? ⟨g9, 6, none⟩ = some (.slice t.sw.ad n6 t.sw.c) from by
    have Q := BT.out.below hb BT.out.lt
    exact ⟨Q.cell 0, Q.cell 1, Q.cell 2, Q.cell 3, Q.cell 4, Q.cell 5, Q.cell 6⟩))
  have HUC := hide (fun (W : World) (hb : Below B.heap.size B W) => (show W.cell? ⟨g10, 0, none⟩ = some (.slice D0 u.r0.length d0) ∧ W.cell? ⟨g10, 1, none⟩ = some (.slice D1 u.r1.length d1) ∧ W.cell? ⟨g10, 2, none⟩ = some (.slice u.dig.ad u.dig.l.length u.dig.c) ∧ W.cell? ⟨g10, 3, none⟩ = some (.slice u.cap.ad u.cap.l.length u.cap.c) ∧ W.cell? ⟨g10, 4, none⟩ = some (.slice u.num.ad u.num.l.length u.num.c) ∧ W.cell? ⟨g10, 5, none⟩ = some (.slice u.fin.ad u.fin.l.length u.fin.c) ∧ W.cell? ⟨g10, 6, none⟩ = some (.slice u.sw.ad u.sw.l.length u.sw.c) from by
    have Q := BU.out.below hb BU.out.lt
    exact ⟨Q.cell 0, Q.cell 1, Q.cell 2, Q.cell 3, Q.cell 4, Q.cell 5, Q.cell 6⟩))
  have hq11 : IntKind.i64.wrap (y.tdiv 11) = y.tdiv 11 := by
    have h := inI_tdiv y 11 hy (by omega)
    unfold Wr.inI at h
    rw [IntKind.wrap_i64]
    omega
  refine wp_region_threeT 0 10 [some 20, some 21, some 22, some 23, some 24, some 25, some 26, some 27, some 28, some 29] (gAll (ksV TV UV x y z))
    (fun _ W => Below B.heap.size B W) (by decide) (by kernel_rfl) (by kernel_rfl) (by kernel_rfl) (by rfl) (by decide) (by rfl) (Below.refl _ _).drew ?_ ?_ ?_
  · intro j hj hjm b A x' W hC hd hr
    have stay : ∀ W', Below W.heap.size W W' → Below B.heap.size B W' := fun W' hb => hC.trans (hb.mono hC.size)
    have KSS := ksV_stab TV UV x y z
    have hj' : j = 1 ∨ j = 2 ∨ j = 3 ∨ j = 4 ∨ j = 5 ∨ j = 6 ∨ j = 7 ∨ j = 8 ∨ j = 9 := by omega
    rcases hj' with rfl | rfl | rfl | rfl | rfl | rfl | rfl | rfl | rfl
    · have e10 : A.tmps[10]?.getD undef = .pointer (some ⟨g10, 0, none⟩) := hr 10 (by decide)
      refine wpOp_step rfl (fun K' hK => ?_)
      obtain ⟨t0, t1, t2, t3, t4, t5, t6⟩ := HUC.out W hC
      go_simp
      exact hK _ _ ⟨_, rfl, HUV.out, fun _ _ _ h => h, hC⟩
    · have e10 : A.tmps[10]?.getD undef = .pointer (some ⟨g10, 0, none⟩) := hr 10 (by decide)
      refine wpOp_step rfl (fun K' hK => ?_)
      obtain ⟨t0, t1, t2, t3, t4, t5, t6⟩ := HUC.out W hC
      go_simp
      exact hK _ _ ⟨_, rfl, HUV.out, fun _ _ _ h => h, hC⟩
    · have e3 : A.tmps[3]?.getD undef = .int .i64 z := hr 3 (by decide)
      refine wpOp_step rfl (fun K' hK => ?_)
      go_simp
      exact hK _ _ ⟨_, rfl, rfl, fun _ _ _ h => h, hC⟩
    · have e2 : A.tmps[2]?.getD undef = .int .i64 y := hr 2 (by decide)
      refine wpOp_step rfl (fun K' hK => ?_)
      go_simp
      exact hK _ _ ⟨_, rfl, rfl, fun _ _ _ h => h, hC⟩
    · have d4 : A.tmps[24]?.getD undef = .int .i64 y := ((hd 4 (by decide)).1 24 rfl).trans (hd 4 (by decide)).2
      refine wpOp_step rfl (fun K' hK => ?_)
      go_simp
      exact hK _ _ ⟨_, rfl, rfl, fun _ _ _ h => h, hC⟩
    · have e1 : A.tmps[1]?.getD undef = .int .i64 x := hr 1 (by decide)
      refine wpOp_step rfl (fun K' hK => ?_)
      go_simp
      exact hK _ _ ⟨_, rfl, rfl, fun _ _ _ h => h, hC⟩
    · have d2 : A.tmps[22]?.getD undef = UV := ((hd 2 (by decide)).1 22 rfl).trans (hd 2 (by decide)).2
      have d3 : A.tmps[23]?.getD undef = .int .i64 z := ((hd 3 (by decide)).1 23 rfl).trans (hd 3 (by decide)).2
      have d5 : A.tmps[25]?.getD undef = .int .i64 (y.tdiv 11) := ((hd 5 (by decide)).1 25 rfl).trans (hd 5 (by decide)).2
      have d6 : A.tmps[26]?.getD undef = .int .i64 x := ((hd 6 (by decide)).1 26 rfl).trans (hd 6 (by decide)).2
      refine wpOp_step rfl (fun K' hK => ?_)
      go_simp
      go_at_call 9
      refine (hB 140 (by omega) UV z (y.tdiv 11) x W (stab_tab _ _ _ _ hC HGU.out) hz (inI_tdiv y 11 hy (by omega)) hx).mono ?_
      rintro e W' ⟨v, rfl, hv, hb⟩
      exact hK _ _ ⟨_, rfl, hv, fun k' _ u h => gAll_below KSS hb k' u h, stay _ hb⟩
    · refine wpOp_step rfl (fun K' hK => ?_)
      go_simp
      exact hK _ _ ⟨_, rfl, rfl, fun _ _ _ h => h, hC⟩
    · have d0 : A.tmps[20]?.getD undef = TV := ((hd 0 (by decide)).1 20 rfl).trans (hd 0 (by decide)).2
      have d1 : A.tmps[21]?.getD undef = UV := ((hd 1 (by decide)).1 21 rfl).trans (hd 1 (by decide)).2
      have d7 : A.tmps[27]?.getD undef = x' 7 := (hd 7 (by decide)).1 27 rfl
      have r7 : gTab 240 W (x' 7) := (hd 7 (by decide)).2
      have d8 : A.tmps[28]?.getD undef = .agg #[.slice none 0 0, .slice none 0 0, .slice none 0 0, .slice none 0 0, .slice none 0 0, .slice none 0 0, .slice none 0 0] := ((hd 8 (by decide)).1 28 rfl).trans (hd 8 (by decide)).2
      refine wpOp_step rfl (fun K' hK => ?_)
      obtain ⟨t7, ht7, _⟩ : gTab 240 W (x' 7) := r7
      obtain ⟨B0, B1, b0, b1, hv7, _⟩ := id ht7
      rw [hv7] at d7 ht7
      rw [← HTV.out] at d0
      rw [← HUV.out] at d1
      go_simp
      refine hK _ _ ⟨_, rfl, four_tabs W _ _ _ _ _ _ _ _ _ _ _ _ _ _ _ _ _ _ _ _ _ _ _ _ _ _ _ _ t u t7 nilTab (by have h := (HTA.out.below (show Below B.heap.size B W from hC)).more hC.size; rw [← HTV.out] at h; exact h) (by have h := (HUA.out.below (show Below B.heap.size B W from hC)).more hC.size; rw [← HUV.out] at h; exact h) ht7 (nil_tab W), fun k' _ u h => gAll_below KSS (below_alloc W _) k' u h, stay _ (below_alloc W _)⟩
  · intro A x' W hC hd hr
    have stay : ∀ W', Below W.heap.size W W' → Below B.heap.size B W' := fun W' hb => hC.trans (hb.mono hC.size)
    have KSS := ksV_stab TV UV x y z
    have e9 : A.tmps[9]?.getD undef = .pointer (some ⟨g9, 0, none⟩) := hr 9 (by decide)
    refine wpOp_step rfl (fun K' hK => ?_)
    obtain ⟨t0, t1, t2, t3, t4, t5, t6⟩ := HTC.out W hC
    go_simp
    exact hK _ _ ⟨_, rfl, HTV.out, fun _ _ _ h => h, hC⟩
  · intro x' W hC hR
    have hx9 : gTabs W (x' 9) := hR 9 (by decide)
    refine wpOp_step rfl (fun K' hK => ?_)
    simp only [putL, Act.put, Nat.zero_add, Nat.reduceAdd, List.setIfInBounds_toArray, List.set_cons_succ, List.set_cons_zero]
    obtain ⟨g, hg, hgl, hfour⟩ := hx9
    rw [hg]
    generalize x' 0 = y0
    generalize x' 1 = y1
    generalize x' 2 = y2
    generalize x' 3 = y3
    generalize x' 4 = y4
    generalize x' 5 = y5
    generalize x' 6 = y6
    generalize x' 7 = y7
    generalize x' 8 = y8
    go_simp
    refine hK _ _ ?_
    clear hK K' hR hg
    have HC3 := hide hC
    have HFOUR := hide hfour
    clear hC hfour
    go_wp2
    go_loopw [12] (fun s wr => ∃ i : Nat, i ≤ 4 ∧ s = .int .i64 (i : Int) ∧ Below W.heap.size W wr) (fun s _ => 4 - (intOf s).toNat)
    case atStart => exact ⟨0, by omega, rfl, Below.refl _ _⟩
    case round =>
      obtain ⟨i, hi, rfl, hbel⟩ := hrel
      obtain ⟨we, rfl⟩ : ∃ we, we = wr := ⟨wr, rfl⟩
      have HEB := hide hbel
      have hi0 : (0 : Int) ≤ (i : Int) := by omega
      by_cases hlt : (i : Int) < 4
      · obtain ⟨u0, u1, u2, u3, u4, u5, u6, ti, hti, hci⟩ := HFOUR.out i (by omega)
        obtain ⟨XV, hXV⟩ : ∃ XV : Value, XV = .agg #[u0, u1, u2, u3, u4, u5, u6] := ⟨_, rfl⟩
        have HXV := hide hXV.symm
        rw [← hXV] at hti
        have HTI := hide hti
        have HXC := hide (fun (V : World) (hb : Below we.heap.size we V) => (show V.cell? ⟨g, i * 7, none⟩ = some u0 ∧ V.cell? ⟨g, i * 7 + 1, none⟩ = some u1 ∧ V.cell? ⟨g, i * 7 + 2, none⟩ = some u2 ∧ V.cell? ⟨g, i * 7 + 3, none⟩ = some u3 ∧ V.cell? ⟨g, i * 7 + 4, none⟩ = some u4 ∧ V.cell? ⟨g, i * 7 + 5, none⟩ = some u5 ∧ V.cell? ⟨g, i * 7 + 6, none⟩ = some u6 from by
          have hh : ∀ (j : Nat) (u : Value), ([u0, u1, u2, u3, u4, u5, u6] : List Value)[j]? = some u → V.cell? ⟨g, i * 7 + j, none⟩ = some u := fun j u hu => by
            rw [hb.cell (by show g < we.heap.size; exact Nat.lt_of_lt_of_le hgl HEB.out.size), HEB.out.cell (by exact hgl)]
            exact hci j u hu
          exact ⟨hh 0 _ rfl, hh 1 _ rfl, hh 2 _ rfl, hh 3 _ rfl, hh 4 _ rfl, hh 5 _ rfl, hh 6 _ rfl⟩))
        have HTE := hide ((HTI.out.below HEB.out).more HEB.out.size)
        obtain ⟨va, hva⟩ : ∃ va, va = Tb.valid ti := ⟨_, rfl⟩
        have CV1 := hide (fun (V : World) (hb : Below we.heap.size we V) => (show Calls Try.prog 10 #[XV] V fun e w' => e = .returned (.int .i64 va) ∧ Below V.heap.size V w' by rw [hva]; exact valid_any XV ti V ((HTE.out.below hb).more hb.size)))
        have CV2 := hide (fun (V : World) (hb : Below we.heap.size we V) => (show Calls Try.prog 11 #[XV] V fun e w' => e = .returned (.int .i64 va) ∧ Below V.heap.size V w' by rw [hva]; exact refValid_any XV ti V ((HTE.out.below hb).more hb.size)))
        clear hva hXV hci hti hbel
        go_upto_region 7 with fail
        refine wp_region_threeT 0 10 [some 36, some 37, some 38, some 39, some 40, some 41, some 42, some 43, some 44, some 45] (gAll (ksW g i XV va))
          (fun _ W => Below we.heap.size we W) (by decide) (by kernel_rfl) (by kernel_rfl) (by kernel_rfl) (by rfl) (by decide) (by rfl) (Below.refl _ _).drew ?_ ?_ ?_
        · intro j hj hjm b A x' W hC hd hr
          have stay : ∀ W', Below W.heap.size W W' → Below we.heap.size we W' := fun W' hb => hC.trans (hb.mono hC.size)
          have KSS := ksW_stab g i XV va
          have hj' : j = 1 ∨ j = 2 ∨ j = 3 ∨ j = 4 ∨ j = 5 ∨ j = 6 ∨ j = 7 ∨ j = 8 ∨ j = 9 := by omega
          rcases hj' with rfl | rfl | rfl | rfl | rfl | rfl | rfl | rfl | rfl
          · have e12 : A.tmps[12]?.getD undef = .int .i64 (i : Int) := hr 12 (by decide)
            refine wpOp_step rfl (fun K' hK => ?_)
            go_simp
            exact hK _ _ ⟨_, rfl, rfl, fun _ _ _ h => h, hC⟩
          · have d0 : A.tmps[36]?.getD undef = .slice (some ⟨g, 0, none⟩) 4 4 := ((hd 0 (by decide)).1 36 rfl).trans (hd 0 (by decide)).2
            have d1 : A.tmps[37]?.getD undef = .int .i64 (i : Int) := ((hd 1 (by decide)).1 37 rfl).trans (hd 1 (by decide)).2
            refine wpOp_step rfl (fun K' hK => ?_)
            go_simp
            exact hK _ _ ⟨_, rfl, rfl, fun _ _ _ h => h, hC⟩
          · have d2 : A.tmps[38]?.getD undef = .pointer (some ⟨g, i * 7, none⟩) := ((hd 2 (by decide)).1 38 rfl).trans (hd 2 (by decide)).2
            refine wpOp_step rfl (fun K' hK => ?_)
            obtain ⟨t0, t1, t2, t3, t4, t5, t6⟩ := HXC.out W hC
            go_simp
            exact hK _ _ ⟨_, rfl, HXV.out, fun _ _ _ h => h, hC⟩
          · have d3 : A.tmps[39]?.getD undef = XV := ((hd 3 (by decide)).1 39 rfl).trans (hd 3 (by decide)).2
            refine wpOp_step rfl (fun K' hK => ?_)
            go_simp
            go_at_call 10
            refine (CV1.out W hC).mono ?_
            rintro e W' ⟨rfl, hb⟩
            exact hK _ _ ⟨_, rfl, rfl, fun k' _ u h => gAll_below KSS hb k' u h, stay _ hb⟩
          · have e11 : A.tmps[11]?.getD undef = .slice (some ⟨g, 0, none⟩) 4 4 := hr 11 (by decide)
            refine wpOp_step rfl (fun K' hK => ?_)
            go_simp
            exact hK _ _ ⟨_, rfl, rfl, fun _ _ _ h => h, hC⟩
          · have e12 : A.tmps[12]?.getD undef = .int .i64 (i : Int) := hr 12 (by decide)
            refine wpOp_step rfl (fun K' hK => ?_)
            go_simp
            exact hK _ _ ⟨_, rfl, rfl, fun _ _ _ h => h, hC⟩
          · have d5 : A.tmps[41]?.getD undef = .slice (some ⟨g, 0, none⟩) 4 4 := ((hd 5 (by decide)).1 41 rfl).trans (hd 5 (by decide)).2
            have d6 : A.tmps[42]?.getD undef = .int .i64 (i : Int) := ((hd 6 (by decide)).1 42 rfl).trans (hd 6 (by decide)).2
            refine wpOp_step rfl (fun K' hK => ?_)
            go_simp
            exact hK _ _ ⟨_, rfl, rfl, fun _ _ _ h => h, hC⟩
          · have d7 : A.tmps[43]?.getD undef = .pointer (some ⟨g, i * 7, none⟩) := ((hd 7 (by decide)).1 43 rfl).trans (hd 7 (by decide)).2
            refine wpOp_step rfl (fun K' hK => ?_)
            obtain ⟨t0, t1, t2, t3, t4, t5, t6⟩ := HXC.out W hC
            go_simp
            exact hK _ _ ⟨_, rfl, HXV.out, fun _ _ _ h => h, hC⟩
          · have d8 : A.tmps[44]?.getD undef = XV := ((hd 8 (by decide)).1 44 rfl).trans (hd 8 (by decide)).2
            refine wpOp_step rfl (fun K' hK => ?_)
            go_simp
            go_at_call 11
            refine (CV2.out W hC).mono ?_
            rintro e W' ⟨rfl, hb⟩
            exact hK _ _ ⟨_, rfl, rfl, fun k' _ u h => gAll_below KSS hb k' u h, stay _ hb⟩
        · intro A x' W hC hd hr
          have stay : ∀ W', Below W.heap.size W W' → Below we.heap.size we W' := fun W' hb => hC.trans (hb.mono hC.size)
          have KSS := ksW_stab g i XV va
          have e11 : A.tmps[11]?.getD undef = .slice (some ⟨g, 0, none⟩) 4 4 := hr 11 (by decide)
          refine wpOp_step rfl (fun K' hK => ?_)
          go_simp
          exact hK _ _ ⟨_, rfl, rfl, fun _ _ _ h => h, hC⟩
        · intro x' W hC hR
          have h4 : x' 4 = .int .i64 va := hR 4 (by decide)
          have h9 : x' 9 = .int .i64 va := hR 9 (by decide)
          refine wpOp_step rfl (fun K' hK => ?_)
          simp only [putL, Act.put, Nat.zero_add, Nat.reduceAdd, List.setIfInBounds_toArray, List.set_cons_succ, List.set_cons_zero]
          rw [h4, h9]
          generalize x' 0 = y0
          generalize x' 1 = y1
          generalize x' 2 = y2
          generalize x' 3 = y3
          generalize x' 5 = y5
          generalize x' 6 = y6
          generalize x' 7 = y7
          generalize x' 8 = y8
          have hvv : (va != va) = false := by simp
          go_simp
          refine hK _ _ ?_
          clear hK K' h4 h9 hR
          have HBF := hide (HEB.out.trans (hC.mono HEB.out.size))
          clear hC
          go_wp2
          exact ⟨⟨i + 1, by omega, by go_num, HBF.out⟩, by simp [intOf]; omega⟩
      · have HEND := hide (HC3.out.trans (hbel.mono HC3.out.size))
        clear hbel HFOUR
        obtain ⟨t0, t1, t2, t3, t4, t5, t6⟩ := HTC.out we HEND.out
        have CVT := hide (show Calls Try.prog 10 #[.agg #[.slice A0 n0 c0, .slice A1 n1 c1, .slice t.dig.ad n2 t.dig.c, .slice t.cap.ad n3 t.cap.c, .slice t.num.ad n4 t.num.c, .slice t.fin.ad n5 t.fin.c, .slice t.sw.ad n6 t.sw.c]] we fun e w' => e = .returned (.int .i64 0) ∧ Below we.heap.size we w' by
          have h0 := valid_any TV t we ((HTA.out.below HEND.out).more HEND.out.size)
          rw [HVA.out, ← HTV.out] at h0
          exact h0)
        have h00 : ((0 : Int) == 0) = true := rfl
        go_wp2_with (first
          | (go_at_call 10; refine (unhide CVT).mono ?_; rintro e w7 ⟨rfl, hb7⟩; have B7 := hide (HEND.out.trans (hb7.mono HEND.out.size)); clear hb7)
          | (go_at_call 12; refine (unhide CL _).mono ?_; rintro e w8 ⟨rfl, hb8⟩; have B8 := hide (B7.out.trans (hb8.mono B7.out.size)); clear hb8))
        go_ret
        exact ⟨rfl, HWB.out.trans (B8.out.mono HWB.out.size)⟩
end Go.Proofs.Ytbcfndhnopmbbaa
