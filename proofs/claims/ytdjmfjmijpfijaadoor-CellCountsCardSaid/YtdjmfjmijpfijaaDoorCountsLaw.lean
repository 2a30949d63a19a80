/-
  Cells: the law CellCounts, walked.
-/
import Derived.Test.YtdjmfjmijpfijaaDoorSameD
import Derived.Test.YtdjmfjmijpfijaaDoorPageD
import Derived.Test.YtdjmfjmijpfijaaDoorCountD
import Derived.Test.YtdjmfjmijpfijaaDoorLivesC
namespace Go.Proofs.YtdjmfjmijpfijaaDoor
open Go.RowKit
set_option linter.unusedVariables false
set_option linter.unusedSimpArgs false
theorem sameB_more (ls : List (List UInt8)) : sameB ls (ls ++ [[0], []]) = true := by
  unfold sameB
  rw [decide_eq_true_iff, Ce.canon_iff]
  intro i k
  unfold Ce.cellAt
  by_cases h : i < ls.length
  · rw [show (ls ++ [[0], []] : List (List UInt8)).getD i [] = ls.getD i [] by simp [List.getD, List.getElem?_append_left h]]
  · have h1 : ls.getD i [] = [] := by simp [List.getD, show ls.length ≤ i by omega]
    rw [h1]
    have h2 : (ls ++ [[0], []] : List (List UInt8)).getD i [] = ([[0], []] : List (List UInt8)).getD (i - ls.length) [] := by
      rw [List.getD_eq_getElem?_getD, List.getD_eq_getElem?_getD, List.getElem?_append_right (by omega)]
    rw [h2]
    rcases hq : i - ls.length with _ | _ | q
    · cases k <;> rfl
    · cases k <;> rfl
    · rfl
theorem own_emptyT (w : World) (t : TypeId) : (w.alloc (.cells #[] t)).ownsRow w.heap.size t 1 (.slice (some ⟨w.heap.size, 0, none⟩) 0 0) 0 [] :=
  ⟨rfl, .inr ⟨w.heap.size, 0, #[], rfl, Nat.le_refl _, heap_alloc_new w _, Nat.le_refl _, by unfold maxLen; omega, rfl, rfl⟩⟩
/-- a page that reads as these values -/
def PgV (w : World) (B : Nat) (vs : List Value) (ls : List (List UInt8)) : Prop :=
  vs.length = ls.length ∧ ∀ k (h : k < ls.length), ∃ A' m c, vs[k]? = some (.slice A' m c) ∧ m ≤ c ∧ Reads w B 1 A' m (BV ls[k])
theorem Pg.open (w : World) {B n : Nat} {A : Option Addr} {ls : List (List UInt8)} (h : Pg w B A n ls) : ∃ vs, Reads w B 1 A n vs ∧ PgV w B vs ls ∧ ls.length = n := by
  obtain ⟨vs, h1, h2, h3⟩ := h
  exact ⟨vs, h1, ⟨by have := h1.1; omega, h3⟩, h2⟩
theorem PgV.one {w : World} {B : Nat} {vs : List Value} {ls : List (List UInt8)} (h : PgV w B vs ls) : ∀ v ∈ vs, v.oneCell' = true := by
  intro v hv
  obtain ⟨k, hk, rfl⟩ := List.getElem_of_mem hv
  obtain ⟨A, m, c, h1, _⟩ := h.2 k (by have := h.1; omega)
  rw [List.getElem?_eq_getElem hk] at h1
  injection h1 with h1
  rw [h1]
  rfl
theorem PgV.same {w w' : World} {vs : List Value} {ls : List (List UInt8)} (h : PgV w w.heap.size vs ls) (hb : Below w.heap.size w w') : PgV w' w'.heap.size vs ls :=
  ⟨h.1, fun k hk => by
    obtain ⟨A, m, c, h1, h2, h3⟩ := h.2 k hk
    exact ⟨A, m, c, h1, h2, (h3.below hb).more hb.size⟩⟩
theorem PgV.snoc {w : World} {B : Nat} {vs : List Value} {ls : List (List UInt8)} (h : PgV w B vs ls) (l : List UInt8) (A : Option Addr) (c : Nat) (hc : l.length ≤ c) (hr : Reads w B 1 A l.length (BV l)) : PgV w B (vs ++ [.slice A l.length c]) (ls ++ [l]) := by
  refine ⟨by simp [h.1], fun k hk => ?_⟩
  by_cases hkl : k < ls.length
  · obtain ⟨A', m', c', h1, h2⟩ := h.2 k hkl
    refine ⟨A', m', c', ?_, ?_⟩
    · rw [List.getElem?_append_left (by rw [h.1]; exact hkl)]; exact h1
    · rw [List.getElem_append_left hkl]; exact h2
  · have hk0 : k = ls.length := by rw [List.length_append] at hk; simp at hk; omega
    subst hk0
    have e : (ls ++ [l])[ls.length]'hk = l := by simp
    refine ⟨A, l.length, c, ?_, hc, ?_⟩
    · rw [List.getElem?_append_right (by rw [h.1]; omega), h.1, Nat.sub_self]; rfl
    · rw [e]; exact hr
theorem PgV.pg {w : World} {B n : Nat} {A : Option Addr} {vs : List Value} {ls : List (List UInt8)} (h : PgV w B vs ls) (hr : Reads w B 1 A n vs) (hn : ls.length = n) : Pg w B A n ls := ⟨vs, hr, hn, h.2⟩
/-- the great page: one line of zeros, the others empty -/
def great (m q : Nat) : List (List UInt8) := List.replicate q 0 :: List.replicate (m - 1) []
theorem great_len (m q : Nat) (hm : 0 < m) : (great m q).length = m := by simp [great]; omega
theorem great_lines (m q : Nat) (hq : q ≤ 1000) : ∀ l ∈ great m q, l.length ≤ 1048576 := by
  intro l hl
  rcases List.mem_cons.1 hl with rfl | h
  · simp; omega
  · have := List.eq_of_mem_replicate h
    subst this
    simp
theorem great_pg (w : World) (gp gl m q : Nat) (hm : 0 < m) (hp : Blk w gp 27 ((.slice (some ⟨gl, 0, none⟩) q q : Value) :: List.replicate (m - 1) (.slice none 0 0)).toArray) (hl : Blk w gl 5 (BV (List.replicate q 0)).toArray) : Pg w w.heap.size (some ⟨gp, 0, none⟩) m (great m q) := by
  refine ⟨_, reads_blk hp (by simp; omega), great_len m q hm, fun k hk => ?_⟩
  have hkm : k < m := by rw [great_len m q hm] at hk; exact hk
  cases k with
  | zero => exact ⟨_, q, q, rfl, Nat.le_refl _, reads_blk (xs := BV (List.replicate q 0)) hl (by rw [BV_len]; exact List.length_replicate)⟩
  | succ k =>
    refine ⟨none, 0, 0, ?_, Nat.le_refl _, ?_⟩
    · rw [List.getElem?_cons_succ, List.getElem?_replicate, if_pos (by omega)]
    · have e : (great m q)[k + 1]'hk = [] := by simp [great]
      rw [e]
      exact Reads.none_
theorem reads_two (y : World) : Reads ((y.alloc (.cells #[.int .u8 0] 5)).alloc (.cells #[.slice (some ⟨y.heap.size, 0, none⟩) 1 1, .slice none 0 0] 27)) ((y.alloc (.cells #[.int .u8 0] 5)).alloc (.cells #[.slice (some ⟨y.heap.size, 0, none⟩) 1 1, .slice none 0 0] 27)).heap.size 1 (some ⟨y.heap.size + 1, 0, none⟩) 2 [.slice (some ⟨y.heap.size, 0, none⟩) 1 1, .slice none 0 0] := by
  have h := Blk.new (y.alloc (.cells #[.int .u8 0] 5)) 27 #[.slice (some ⟨y.heap.size, 0, none⟩) 1 1, .slice none 0 0]
  rw [show (y.alloc (.cells #[.int .u8 0] 5)).heap.size = y.heap.size + 1 by simp] at h
  exact reads_blk (xs := [.slice (some ⟨y.heap.size, 0, none⟩) 1 1, .slice none 0 0]) h rfl
theorem page_three (X y1 y2 y3 : World) (vsP : List Value) (ls : List (List UInt8)) (v2 v3 : Value) (hv : PgV X X.heap.size vsP ls) (h1 : Below X.heap.size X y1) (h2 : Below y1.heap.size y1 y2)
    (ho2 : y2.ownsRow y1.heap.size 27 1 v2 (0 + ls.length) ([] ++ vsP)) (ho3 : y3.ownsRow y1.heap.size 27 1 v3 (0 + ls.length + 2) ([] ++ vsP ++ [.slice (some ⟨y2.heap.size, 0, none⟩) 1 1, .slice none 0 0]))
    (hg : ((y2.alloc (.cells #[.int .u8 0] 5)).alloc (.cells #[.slice (some ⟨y2.heap.size, 0, none⟩) 1 1, .slice none 0 0] 27)).grownBy y3 v2.ownBlock) :
    ∃ A3 c3, v3 = .slice A3 (ls.length + 2) c3 ∧ Pg y3 y3.heap.size A3 (ls.length + 2) (ls ++ [[0], []]) ∧ Below y1.heap.size y1 y3 := by
  have hb3 : Below y1.heap.size y1 y3 := by
    refine (h2.trans ?_)
    have ha : Below y1.heap.size y2 ((y2.alloc (.cells #[.int .u8 0] 5)).alloc (.cells #[.slice (some ⟨y2.heap.size, 0, none⟩) 1 1, .slice none 0 0] 27)) :=
      ((Below.refl _ _).alloc h2.size _).alloc (by simp; have := h2.size; omega) _
    exact ha.trans (below_grown hg ((ho2.alloc _).alloc _) (by simp; have := h2.size; omega))
  have hblk : Blk y3 y2.heap.size 5 (BV [0]).toArray := by
    refine ((Blk.new y2 5 (BV [0]).toArray).alloc _).grown hg ?_
    intro he
    have := (ho2.lt _ he.symm).2
    omega
  obtain ⟨A3, c3, rfl, hc3, _⟩ := own_slice ho3
  have e3 : 0 + ls.length + 2 = ls.length + 2 := by omega
  have hpv := hv.same (h1.trans (hb3.mono h1.size))
  have hp1 := hpv.snoc [0] (some ⟨y2.heap.size, 0, none⟩) 1 (by decide) (reads_blk hblk rfl)
  have hp2 := hp1.snoc [] none 0 (by decide) Reads.none_
  refine ⟨A3, c3, by rw [e3], ?_, hb3⟩
  have hr := Reads.of_own ho3
  rw [List.nil_append, e3] at hr
  rw [List.append_assoc, List.append_assoc] at hp2
  exact hp2.pg hr (by simp)
set_option maxHeartbeats 8000000 in
set_option maxRecDepth 100000 in
theorem counts_walk (A0 A1 : Option Addr) (n0 c0 n1 c1 : Nat) (xs0 xs1 : List Int) (lines wide : Int) (w : World) (hr0 : Reads w w.heap.size 1 A0 n0 (xs0.map (Value.int .i64))) (hx0 : ∀ x ∈ xs0, Wr.inI x)
    (hr1 : Reads w w.heap.size 1 A1 n1 (xs1.map (Value.int .i64))) (hx1 : ∀ x ∈ xs1, Wr.inI x) (hl : Wr.inI lines) (hw : Wr.inI wide) :
    Calls Tryd.prog 3 #[.slice A0 n0 c0, .slice A1 n1 c1, .int .i64 lines, .int .i64 wide] w fun e w' => e = .returned (.bool true) ∧ Below w.heap.size w w' := by
  obtain ⟨i0, hi, hz0, hz1, hz2⟩ := info_parts lineInfo
  have HI := hide hi
  have HZ0 := hide hz0
  have HZ1 := hide hz1
  have HZ2 := hide hz2
  have HLV := hide lives_any
  have CPG := hide (page_any A0 n0 c0 xs0 w hr0 hx0)
  have CPG2 := hide (fun (W : World) (hb : Below w.heap.size w W) => page_any A1 n1 c1 xs1 W ((hr1.below hb).more hb.size) hx1)
  have CA1 := hide (fun W => (show Calls Tryd.prog 6 #[.int .i64 lines, .int .i64 5] W fun e w' => e = .returned (.int .i64 ((Ce.around lines 5 : Nat) : Int)) ∧ W = w' from around_any lines 5 W hl (by omega) (by omega)))
  have CA2 := hide (fun W => (show Calls Tryd.prog 6 #[.int .i64 wide, .int .i64 5] W fun e w' => e = .returned (.int .i64 ((Ce.around wide 5 : Nat) : Int)) ∧ W = w' from around_any wide 5 W hw (by omega) (by omega)))
  have ha1 := Ce.around_lt lines 5 (by omega)
  have ha2 := Ce.around_lt wide 5 (by omega)
  generalize Ce.around lines 5 = a1 at *
  generalize Ce.around wide 5 = a2 at *
  obtain ⟨m, hm⟩ : ∃ m, m = 23 + a1 := ⟨_, rfl⟩
  obtain ⟨q, hq⟩ : ∃ q, q = 38 + a2 := ⟨_, rfl⟩
  have hmk1 : ∀ W', (Instr.makeSlice 24 (.int .i64 (23 + (a1 : Int))) (.int .i64 (23 + (a1 : Int)))).run Tryd.prog W' = .ok (.slice (some ⟨W'.heap.size, 0, none⟩) m m) (W'.alloc (.cells (filled m 0 [] (Value.slice none 0 0)).toArray 27)) := fun W' => by
    rw [show 23 + (a1 : Int) = (m : Int) by omega, ← madeLine]
    exact run_make_row' 24 27 (.slice none 0 0) 24 Tryd.underlying24 lineInfo rfl .i64 .i64 m (by omega) (by omega) W'
  have hmk2 : ∀ W', (Instr.makeSlice 27 (.int .i64 (38 + (a2 : Int))) (.int .i64 (38 + (a2 : Int)))).run Tryd.prog W' = .ok (.slice (some ⟨W'.heap.size, 0, none⟩) q q) (W'.alloc (.cells (BV (List.replicate q 0)).toArray 5)) := fun W' => by
    rw [show 38 + (a2 : Int) = (q : Int) by omega, ← madeU8]
    exact run_make_row' 27 5 (.int .u8 0) 1 Tryd.underlying27 byteInfo rfl .i64 .i64 q (by omega) (by omega) W'
  have hm0 : 0 < m := by omega
  have hm27 : m ≤ 27 := by omega
  have hq42 : q ≤ 42 := by omega
  have ha10 : (0 : Int) ≤ (a1 : Int) := by omega
  have ha15 : (a1 : Int) < 5 := by omega
  have ha20 : (0 : Int) ≤ (a2 : Int) := by omega
  have ha25 : (a2 : Int) < 5 := by omega
  clear hr0 hx0 hr1 hx1 hl hw hi hz0 hz1 hz2 hm hq
  go_enter Tryd.func3, Tryd.ntmps3
  go_upto_region 3 with (first
    | (go_at_call 5; refine (unhide CPG).mono ?_; rintro e w1 ⟨Ap, cp, ls, rfl, hl5, hl1, hpg, hcp, hb1⟩; have HL5 := hide hl5; have HL1 := hide hl1; have HPG := hide hpg; have H1 := hide hb1; have HCP := hide hcp; clear hl5 hl1 hpg hb1 hcp)
    | (go_at_call 6; refine (unhide CA1 _).mono ?_; rintro e w2 ⟨rfl, rfl⟩))
  refine name_world fun V hV => ?_
  have HGP := hide (show Blk V w1.heap.size 27 (filled m 0 [] (Value.slice none 0 0)).toArray by rw [← hV.out]; exact Blk.new w1 _ _)
  have HV := hide (show Below w1.heap.size w1 V by rw [← hV.out]; exact below_alloc w1 _)
  have hgl := HGP.out.lt
  clear hV hmk1 CA1
  generalize hgq : w1.heap.size = gp at *
  have HGQ := hide hgq
  clear hgq
  have hcp0 : V.cell? ⟨gp, 0, none⟩ = some (.slice none 0 0) := by rw [HGP.out.cell, List.getElem?_toArray]; exact filled_get m 0 _ _ rfl hm0
  have hap0 : (V.alloc (.cells (BV (List.replicate q 0)).toArray 5)).cell? ⟨gp, 0, none⟩ = some (.slice none 0 0) := by rw [(HGP.out.alloc _).cell, List.getElem?_toArray]; exact filled_get m 0 _ _ rfl hm0
  have hfz0 := HGP.out.frozen 0
  have haf0 := (HGP.out.alloc (.cells (BV (List.replicate q 0)).toArray 5)).frozen 0
  have hm0i : (0 : Int) < (m : Int) := by omega
  go_upto_region 4 with (go_at_call 6; refine (unhide CA2 _).mono ?_; rintro e w2 ⟨rfl, rfl⟩)
  refine name_world fun X hX => ?_
  have hsc : ∀ u, (V.setCell ⟨gp, 0, none⟩ u).heap.size = V.heap.size := fun u => by simp [World.setCell]
  have HXL := hide (show Blk X V.heap.size 5 (BV (List.replicate q 0)).toArray by
    rw [← hX.out]
    have h := Blk.new (V.setCell ⟨gp, 0, none⟩ (.slice (some ⟨V.heap.size, 0, none⟩) q q)) 5 (BV (List.replicate q 0)).toArray
    rwa [hsc] at h)
  have HXP := hide (show Blk X gp 27 ((.slice (some ⟨V.heap.size, 0, none⟩) q q : Value) :: List.replicate (m - 1) (.slice none 0 0)).toArray by
    rw [← hX.out]
    have h := (HGP.out.set_ 0 (.slice (some ⟨V.heap.size, 0, none⟩) q q)).alloc (.cells (BV (List.replicate q 0)).toArray 5)
    rw [filled_next m 0 [] _ _ rfl hm0] at h
    exact h)
  have HXB := hide (show Below gp V X by rw [← hX.out]; exact ((Below.refl gp V).setCell (p := ⟨gp, 0, none⟩) (Nat.le_refl _) _).alloc (by rw [hsc]; omega) _)
  clear hX hcp0 hap0 hfz0 haf0 hmk2 CA2 hsc
  have HGR := hide (great_pg X gp V.heap.size m q hm0 HXP.out HXL.out)
  have hgs := HXP.out.lt
  have HWX := hide (H1.out.trans ((HV.out.trans HXB.out).mono (by have := H1.out.size; have := HGQ.out; omega)))
  have HPX := hide (((HPG.out.below (HV.out.trans HXB.out)).more (Nat.le_of_lt hgs)))
  clear HGP HV HXB HXL HXP HPG
  obtain ⟨vsP, hrP, hvP, hnP⟩ := HPX.out.open
  have HVP := hide hvP
  have HRP := hide hrP
  have hls5 := HL5.out
  have CP2 := hide (unhide CPG2 X HWX.out)
  clear hrP hvP hnP CPG2
  go_cut [11] (fun s11 wx => ∃ (g : Nat) (Aq : Option Addr) (cq : Nat) (ls2 : List (List UInt8)) (A3 : Option Addr) (c3 : Nat), s11 = .slice (some ⟨g, 0, none⟩) 5 5 ∧ Blk wx g 24 #[.slice Ap ls.length cp, .slice Aq ls2.length cq, .slice (some ⟨gp, 0, none⟩) m m, .slice A3 (ls.length + 2) c3, .slice none 0 0] ∧ ls2.length ≤ 5 ∧ (∀ l ∈ ls2, l.length ≤ 1001) ∧ Pg wx wx.heap.size Aq ls2.length ls2 ∧ Pg wx wx.heap.size A3 (ls.length + 2) (ls ++ [[0], []]) ∧ Below X.heap.size X wx)
  case first =>
    go_upto_region 5 with (first
      | (go_at_call 5; refine (unhide CP2).mono ?_; rintro e y1 ⟨Aq, cq, ls2, rfl, hl5, hl1, hpg, hcp, hb1⟩; have KL5 := hide hl5; have KL1 := hide hl1; have KPG := hide hpg; have Y1 := hide hb1; clear hl5 hl1 hpg hb1 hcp)
      | (at_builtin; refine wpList_append_any _ rfl (.tmp 34) (.tmp 35) 24 rfl y1.heap.size 27 i0 (.slice none 0 0) 1 24 Tryd.underlying24 HI.out HZ0.out HZ1.out HZ2.out rfl (by omega) _ 0 [] rfl (own_emptyT y1 27) _ Ap ls.length cp vsP rfl ((HRP.out.below Y1.out).alloc Y1.out.size _) HVP.out.one (by unfold maxLen; omega) (by omega) (by simp) ?_; intro v2 y2 hown2 hgrow2 hat2; have HO2 := hide hown2; have Y2 := hide ((below_alloc y1 _).trans (below_grown hgrow2 (own_emptyT y1 27) (by simp))); clear hown2 hgrow2 hat2)
      | (at_builtin; refine wpList_append_any _ rfl (.tmp 36) (.tmp 38) 24 rfl y1.heap.size 27 i0 (.slice none 0 0) 1 24 Tryd.underlying24 HI.out HZ0.out HZ1.out HZ2.out rfl (by omega) v2 (0 + ls.length) ([] ++ vsP) rfl ((HO2.out.alloc _).alloc _) _ (some ⟨y2.heap.size + 1, 0, none⟩) 2 2 [.slice (some ⟨y2.heap.size, 0, none⟩) 1 1, .slice none 0 0] rfl (reads_two y2) (by intro v hv; simp at hv; rcases hv with rfl | rfl <;> rfl) (by unfold maxLen; omega) (by omega) (by have := Y2.out.size; simp; omega) ?_; intro v3 y3 hown3 hgrow3 hat3; obtain ⟨A3, c3, rfl, hp3, hb3⟩ := page_three X y1 y2 y3 vsP ls v2 v3 HVP.out Y1.out Y2.out HO2.out hown3 hgrow3; have P3 := hide hp3; have Y3 := hide hb3; clear hown3 hgrow3 hat3 hp3 hb3))
    go_meet
    have hy3s := Y3.out.size
    refine ⟨y3.heap.size, Aq, cq, ls2, A3, c3, rfl, Blk.new y3 _ _, KL5.out, KL1.out, ?_, ?_, ?_⟩
    · exact (KPG.out.same Y3.out).same (below_alloc y3 _)
    · exact P3.out.same (below_alloc y3 _)
    · exact (Y1.out.trans (Y3.out.mono Y1.out.size)).trans (below_alloc' y3 _ (Nat.le_trans Y1.out.size hy3s))
  case rest =>
    obtain ⟨g, Aq, cq, ls2, A3, c3, rfl, hblk, hk5, hk1, hpq, hp3, hbel⟩ := hcut
    obtain ⟨Z, rfl⟩ : ∃ Z, Z = wc := ⟨wc, rfl⟩
    have HZK := hide hblk
    have hgz := hblk.lt
    have HWZ := hide (HWX.out.trans (hbel.mono HWX.out.size))
    have HPZ := hide (HPX.out.same hbel)
    have HGZ := hide (HGR.out.same hbel)
    have HQZ := hide hpq
    have H3Z := hide hp3
    have HL1' := HL1.out
    have hq1000 : q ≤ 1000 := by omega
    have HT := hide (show ∀ i, i < 5 → ∃ (A : Option Addr) (n c : Nat) (xs : List (List UInt8)), (#[.slice Ap ls.length cp, .slice Aq ls2.length cq, .slice (some ⟨gp, 0, none⟩) m m, .slice A3 (ls.length + 2) c3, .slice none 0 0] : Array Value)[i]? = some (.slice A n c) ∧ Pg Z Z.heap.size A n xs ∧ n ≤ 1048576 ∧ (∀ l ∈ xs, l.length ≤ 1048576) by
      intro i hi
      obtain rfl | rfl | rfl | rfl | rfl : i = 0 ∨ i = 1 ∨ i = 2 ∨ i = 3 ∨ i = 4 := by omega
      · exact ⟨_, _, _, ls, rfl, HPZ.out, by omega, fun l hl => by have := HL1' l hl; omega⟩
      · exact ⟨_, _, _, ls2, rfl, hpq, by omega, fun l hl => by have := hk1 l hl; omega⟩
      · exact ⟨_, _, _, great m q, rfl, HGZ.out, by omega, great_lines m q hq1000⟩
      · refine ⟨_, _, _, ls ++ [[0], []], rfl, hp3, by omega, fun l hl => ?_⟩
        rcases List.mem_append.1 hl with h | h
        · have := HL1' l h; omega
        · simp at h; rcases h with rfl | rfl <;> simp
      · exact ⟨_, _, _, [], rfl, Pg.nil _ _, by omega, fun l hl => by cases hl⟩)
    have HZZ := hide (Below.refl Z.heap.size Z)
    clear hblk hbel hpq hp3 hk1 hk5 CP2 HVP HRP HL1'
    go_wp2
    go_loopw [12] (fun s12 wr => ∃ i : Nat, i ≤ 5 ∧ s12 = .int .i64 (i : Int) ∧ Below Z.heap.size Z wr) (fun s12 _ => 5 - (intOf s12).toNat)
    case atStart => exact ⟨0, by omega, rfl, HZZ.out⟩
    case round =>
      obtain ⟨i, hi, rfl, hbel⟩ := hrel
      obtain ⟨wd, rfl⟩ : ∃ wd, wd = wr := ⟨wr, rfl⟩
      have HB := hide hbel
      by_cases hlt : i < 5
      · obtain ⟨A, n, c, xs, hcl, hpx, hn, hll⟩ := HT.out i hlt
        have hc : wd.cell? ⟨g, i, none⟩ = some (.slice A n c) := by rw [(HZK.out.below hbel hgz).cell]; exact hcl
        have hi0 : (0 : Int) ≤ (i : Int) := by omega
        have hi1 : (i : Int) < 5 := by omega
        have HLT := hide hlt
        have HCL := hide hcl
        have HPX2 := hide hpx
        have HLL := hide hll
        have C1 := hide (count_any A n c xs wd (hpx.same hbel) hn hll)
        have C2 := hide (refCount_any A n c xs wd (hpx.same hbel) hn hll)
        have h1 : (((Ce.nzs xs : Nat) : Int) != ((Ce.nzs xs : Nat) : Int)) = false := by simp
        have h2 : (((Ce.nds xs : Nat) : Int) != ((Ce.nds xs : Nat) : Int)) = false := by simp
        generalize ((Ce.nzs xs : Nat) : Int) = z at *
        generalize ((Ce.nds xs : Nat) : Int) = d at *
        clear hbel hlt hcl hpx hll
        go_upto_region 10 with (first
          | (go_at_call 7; refine (unhide C1).mono ?_; rintro e x1 ⟨rfl, rfl⟩)
          | (go_at_call 8; refine (unhide C2).mono ?_; rintro e x2 ⟨rfl, hb⟩; have HX2 := hide (HB.out.trans (hb.mono HB.out.size)); clear hb))
        have HCC := hide (fun (W : World) (hb : Below x2.heap.size x2 W) => (show W.cell? ⟨g, i, none⟩ = some (.slice A n c) by rw [(HZK.out.below (HX2.out.trans (hb.mono HX2.out.size)) hgz).cell]; exact HCL.out))
        have CF := hide (fun (W : World) (hb : Below x2.heap.size x2 W) => fits_any A n c xs W (HPX2.out.same (HX2.out.trans (hb.mono HX2.out.size))) hn HLL.out)
        have CG := hide (fun (W : World) (hb : Below x2.heap.size x2 W) => refFits_any A n c xs W (HPX2.out.same (HX2.out.trans (hb.mono HX2.out.size))) hn HLL.out)
        have hff : (Ce.fits xs != Ce.fits xs) = false := by simp
        generalize Ce.fits xs = ft at *
        clear C1 C2
        refine wp_region_below (by kernel_rfl) (by kernel_rfl) ?_
        repeat (refine wpQuiet_step (fun K hK => ?_); go_simp; first
          | (refine hK _ ?_; clear hK K)
          | (refine ⟨_, fun wq hq => rfl, hK _ ?_⟩; clear hK K)
          | (refine ⟨.slice A n c, fun wq hq => ?_, ?_⟩; (rw [unhide HCC wq hq]; exact ⟨rfl, rfl⟩); refine hK _ ?_; clear hK K)
          | ((with_reducible refine ⟨.bool ft, fun wq hq => (unhide CF wq hq).mono fun e w' h => And.intro h.1 (hq.trans (h.2.mono hq.size)), ?_⟩); refine hK _ ?_; clear hK K)
          | ((with_reducible refine ⟨.bool ft, fun wq hq => (unhide CG wq hq).mono fun e w' h => And.intro h.1 (hq.trans (h.2.mono hq.size)), ?_⟩); refine hK _ ?_; clear hK K))
        refine wpQuiet_nil ?_
        intro x3 hx3
        have HX3 := hide (HX2.out.trans (hx3.mono HX2.out.size))
        clear hx3 HCC CF CG hff h1 h2
        go_wp2
        go_loopw [17] (fun s17 wr => ∃ j : Nat, j ≤ 5 ∧ s17 = .int .i64 (j : Int) ∧ Below Z.heap.size Z wr) (fun s17 _ => 5 - (intOf s17).toNat)
        case atStart => exact ⟨0, by omega, rfl, HX3.out⟩
        case round =>
          obtain ⟨j, hj, rfl, hbel⟩ := hrel
          obtain ⟨we, rfl⟩ : ∃ we, we = wr := ⟨wr, rfl⟩
          have HE := hide hbel
          by_cases hlt : j < 5
          · obtain ⟨A', n', c', ys, hcl', hpy, hn', hll'⟩ := HT.out j hlt
            have hj0 : (0 : Int) ≤ (j : Int) := by omega
            have hj1 : (j : Int) < 5 := by omega
            have HLTJ := hide hlt
            have HCI := hide (fun (W : World) (hb : Below we.heap.size we W) => (show W.cell? ⟨g, i, none⟩ = some (.slice A n c) by rw [(HZK.out.below (HE.out.trans (hb.mono HE.out.size)) hgz).cell]; exact HCL.out))
            have HCJ := hide (fun (W : World) (hb : Below we.heap.size we W) => (show W.cell? ⟨g, j, none⟩ = some (.slice A' n' c') by rw [(HZK.out.below (HE.out.trans (hb.mono HE.out.size)) hgz).cell]; exact hcl'))
            have CS := hide (fun (W : World) (hb : Below we.heap.size we W) => same_any A A' n n' c c' xs ys W (HPX2.out.same (HE.out.trans (hb.mono HE.out.size))) (hpy.same (HE.out.trans (hb.mono HE.out.size))) hn hn' HLL.out hll')
            have CR := hide (fun (W : World) (hb : Below we.heap.size we W) => refSame_any A A' n n' c c' xs ys W (HPX2.out.same (HE.out.trans (hb.mono HE.out.size))) (hpy.same (HE.out.trans (hb.mono HE.out.size))) hn hn' HLL.out hll')
            have hss : (sameB xs ys != sameB xs ys) = false := by simp
            generalize sameB xs ys = sb at *
            clear hbel hlt hcl' hpy hll'
            go_upto_region 15 with fail
            refine wp_region_below (by kernel_rfl) (by kernel_rfl) ?_
            repeat (refine wpQuiet_step (fun K hK => ?_); go_simp; first
              | (refine hK _ ?_; clear hK K)
              | (refine ⟨_, fun wq hq => rfl, hK _ ?_⟩; clear hK K)
              | (refine ⟨.slice A n c, fun wq hq => ?_, ?_⟩; (rw [unhide HCI wq hq]; exact ⟨rfl, rfl⟩); refine hK _ ?_; clear hK K)
              | (refine ⟨.slice A' n' c', fun wq hq => ?_, ?_⟩; (rw [unhide HCJ wq hq]; exact ⟨rfl, rfl⟩); refine hK _ ?_; clear hK K)
              | ((with_reducible refine ⟨.bool sb, fun wq hq => (unhide CS wq hq).mono fun e w' h => And.intro h.1 (hq.trans (h.2.mono hq.size)), ?_⟩); refine hK _ ?_; clear hK K)
              | ((with_reducible refine ⟨.bool sb, fun wq hq => (unhide CR wq hq).mono fun e w' h => And.intro h.1 (h.2 ▸ hq), ?_⟩); refine hK _ ?_; clear hK K))
            refine wpQuiet_nil ?_
            intro x4 hx4
            have HX4 := hide (HE.out.trans (hx4.mono HE.out.size))
            clear hx4 HCI HCJ CS CR
            go_wp2
            exact ⟨⟨j + 1, HLTJ.out, by go_num, HX4.out⟩, by have := HLTJ.out; simp [intOf]; omega⟩
          · obtain rfl : j = 5 := by omega
            clear hlt hbel
            rw [show ((5 : Nat) : Int) = 5 from rfl]
            go_wp2
            exact ⟨⟨i + 1, HLT.out, by go_num, HE.out⟩, by have := HLT.out; simp [intOf]; omega⟩
      · obtain rfl : i = 5 := by omega
        rw [show ((5 : Nat) : Int) = 5 from rfl]
        have hc3' : wd.cell? ⟨g, 3, none⟩ = some (.slice A3 (ls.length + 2) c3) := by rw [(HZK.out.below hbel hgz).cell]; rfl
        have CS := hide (same_any Ap A3 ls.length (ls.length + 2) cp c3 ls (ls ++ [[0], []]) wd (HPZ.out.same hbel) (H3Z.out.same hbel) (by omega) (by omega) (fun l hl => by have := HL1.out l hl; omega) (fun l hl => by
          rcases List.mem_append.1 hl with h | h
          · have := HL1.out l h; omega
          · simp at h; rcases h with rfl | rfl <;> simp))
        rw [sameB_more] at CS
        clear hlt hbel
        go_wp2_with (first
          | (go_at_call 11; refine (unhide CS).mono ?_; rintro e x1 ⟨rfl, hb⟩; have HX1 := hide (HB.out.trans (hb.mono HB.out.size)); clear hb)
          | (go_at_call 13; refine (unhide HLV x1).mono ?_; rintro e x2 ⟨rfl, hb⟩; have HX2 := hide (HX1.out.trans (hb.mono HX1.out.size)); clear hb))
        go_ret
        exact ⟨rfl, HWZ.out.trans (HX2.out.mono HWZ.out.size)⟩
end Go.Proofs.YtdjmfjmijpfijaaDoor
