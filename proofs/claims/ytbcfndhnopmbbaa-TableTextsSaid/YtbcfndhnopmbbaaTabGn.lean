/-
  Tables: words for values of a region beside one that appends; rows of rules of the call's own beside a variable.
-/
import Derived.Test.YtbcfndhnopmbbaaTabGd
import Derived.Test.YtbcfndhnopmbbaaTabW0
namespace Go.Proofs.Ytbcfndhnopmbbaa
open Go.RowKit
set_option linter.unusedVariables false
set_option linter.unusedSimpArgs false
theorem grown_tr {a b c : World} {row : Option Nat} (h : a.grownBy b row) (k : b.grownBy c row) : a.grownBy c row :=
  ⟨k.os.trans h.os, k.tape.trans h.tape, k.output.trans h.output, Nat.le_trans h.size k.size, fun i hi hne => (k.block i (Nat.lt_of_lt_of_le hi h.size) hne).trans (h.block i hi hne)⟩
/-- changes in a row that is a's own or new are none of a's, but for the row g -/
theorem grown_own {a b c : World} {row : Option Nat} {g : Nat} (h : a.grownBy b (some g)) (k : b.grownBy c row) (hr : ∀ i, row = some i → a.heap.size ≤ i) : a.grownBy c (some g) :=
  ⟨k.os.trans h.os, k.tape.trans h.tape, k.output.trans h.output, Nat.le_trans h.size k.size, fun i hi hne => (k.block i (Nat.lt_of_lt_of_le hi h.size) (fun e => by have := hr i e.symm; omega)).trans (h.block i hi hne)⟩
/-- what stays whatever is written but in rows below b0 -/
def StabN (b0 : Nat) (G : World → Value → Prop) : Prop := ∀ W W' row v, W.grownBy W' row → (∀ g, row = some g → g < b0) → G W v → G W' v
theorem StabN.stab {b0 : Nat} {G : World → Value → Prop} (h : StabN b0 G) : Stab G := fun W W' v hb hg => h W W' none v (only_of_below hb none) (fun g h => by cases h) hg
theorem stabn_any (b0 : Nat) : StabN b0 gAny := fun _ _ _ _ _ _ h => h
theorem stabn_is (b0 : Nat) (u : Value) : StabN b0 (gIs u) := fun _ _ _ _ _ _ h => h
/-- a new row -/
def gNew (b0 : Nat) (T : TypeId) (cs : List Value) : World → Value → Prop := fun W v => RNew b0 T cs v W
theorem stabn_new (b0 : Nat) (T : TypeId) (cs : List Value) : StabN b0 (gNew b0 T cs) := fun _ _ _ _ hg hr h => RNew.grown h hg hr
/-- a rule with new cells -/
def gRl (b0 : Nat) (t : List UInt8) (wh : Int) (cs : List UInt8) : World → Value → Prop := fun W v => ∃ g, v = .agg #[.string (S t), .int .i64 wh, .slice (some ⟨g, 0, none⟩) cs.length cs.length] ∧ b0 ≤ g ∧ Blk W g 5 (BV cs).toArray
theorem stabn_rl (b0 : Nat) (t : List UInt8) (wh : Int) (cs : List UInt8) : StabN b0 (gRl b0 t wh cs) := fun _ _ _ _ hg hr ⟨g, h1, h2, h3⟩ => ⟨g, h1, h2, h3.grown hg fun e => by have := hr g e.symm; omega⟩
/-- a row of one such rule -/
def gRls (b0 : Nat) (t : List UInt8) (wh : Int) (cs : List UInt8) : World → Value → Prop := fun W v => ∃ g h, v = .slice (some ⟨h, 0, none⟩) 1 1 ∧ b0 ≤ h ∧ Blk W h 74 #[.string (S t), .int .i64 wh, .slice (some ⟨g, 0, none⟩) cs.length cs.length] ∧ b0 ≤ g ∧ Blk W g 5 (BV cs).toArray
theorem stabn_rls (b0 : Nat) (t : List UInt8) (wh : Int) (cs : List UInt8) : StabN b0 (gRls b0 t wh cs) := fun _ _ _ _ hg hr ⟨g, h, h1, h2, h3, h4, h5⟩ => ⟨g, h, h1, h2, h3.grown hg fun e => by (have := hr h e.symm; omega), h4, h5.grown hg fun e => by (have := hr g e.symm; omega)⟩
/-- rules of the call's own, from block b on -/
def OwnR (w : World) (b : Nat) (v : Value) (R : List Tb.Rl) : Prop :=
  ∃ rs : List Tb.Rl, w.ownsRow b 74 3 v rs.length (RC rs) ∧ RulesF w v rs ∧ rs.map Tb.eR = R ∧ ∀ r ∈ rs, ∀ a, r.cells.ad = some a → b ≤ a.block
theorem OwnR.nil (w : World) (b : Nat) : OwnR w b (.slice none 0 0) [] := ⟨[], own_nil _ _ _ _, RulesF.nil _ _, rfl, fun r hr => by cases hr⟩
theorem OwnR.below {w w' : World} {b : Nat} {v : Value} {R : List Tb.Rl} (h : OwnR w b v R) (hb : Below w.heap.size w w') : OwnR w' b v R := by
  obtain ⟨rs, h1, h2, h3, h4⟩ := h
  exact ⟨rs, own_below h1 hb, h2.below hb, h3, h4⟩
theorem OwnR.lt {w : World} {b : Nat} {v : Value} {R : List Tb.Rl} (h : OwnR w b v R) (g : Nat) (hg : v.ownBlock = some g) : b ≤ g ∧ g < w.heap.size := by
  obtain ⟨rs, h1, _⟩ := h
  exact h1.lt g hg
theorem OwnR.lower {w : World} {b b' : Nat} {v : Value} {R : List Tb.Rl} (h : OwnR w b v R) (hb : b' ≤ b) : OwnR w b' v R := by
  obtain ⟨rs, h1, h2, h3, h4⟩ := h
  exact ⟨rs, own_lower h1 hb, h2, h3, fun r hr a ha => Nat.le_trans hb (h4 r hr a ha)⟩
theorem OwnR.ne {w : World} {b g : Nat} {t : TypeId} {cs : Array Value} {v : Value} {R : List Tb.Rl} (h : OwnR w b v R) (hg : Blk w g t cs) (ht : 74 ≠ t) : v.ownBlock ≠ some g := by
  obtain ⟨rs, h1, _⟩ := h
  exact own_blk_ne h1 hg ht
theorem own_grownOff {w w' : World} {b e size n : Nat} {v : Value} {xs : List Value} {row : Option Nat} (h : w.ownsRow b e size v n xs) (hg : w.grownBy w' row) (hne : ∀ g, row = some g → v.ownBlock ≠ some g) : w'.ownsRow b e size v n xs := by
  refine ⟨h.1, ?_⟩
  rcases h.2 with h0 | ⟨g, cap, cur, h1, h2, h3, h4⟩
  · exact .inl h0
  · refine .inr ⟨g, cap, cur, h1, h2, ?_, h4⟩
    have hgl : g < w.heap.size := by
      rcases Nat.lt_or_ge g w.heap.size with h | h
      · exact h
      · rw [Array.getElem?_eq_none h] at h3; cases h3
    rw [hg.block g hgl (fun e => by
      refine hne g e.symm ?_
      rw [h1]
      rfl)]
    exact h3
theorem OwnR.grownOff {w w' : World} {b g : Nat} {v : Value} {R : List Tb.Rl} (h : OwnR w b v R) (hg : w.grownBy w' (some g)) (hgb : g < b) : OwnR w' b v R := by
  obtain ⟨rs, h1, h2, h3, h4⟩ := h
  refine ⟨rs, own_grownOff h1 hg (fun k hk e => ?_), fun r hr => ⟨⟨(h2 r hr).1.1.grown hg (fun a ha hc => ?_), (h2 r hr).1.2⟩, (h2 r hr).2⟩, h3, h4⟩
  · have := (h1.lt k e).1
    injection hk with hk
    omega
  · have := h4 r hr a ha
    injection hc with hc
    omega
theorem OwnR.lang {w : World} {b g : Nat} {v : Value} {R : List Tb.Rl} (h : OwnR w b v R) (hgb : g < b) (hl : R.length ≤ 1048576) : LangAt w g v R := by
  obtain ⟨rs, h1, h2, h3, h4⟩ := h
  have hlen : rs.length ≤ 1048576 := by rw [← h3, List.length_map] at hl; exact hl
  obtain ⟨A, c, hv, hc, hr, ha⟩ := rules_of_own h1 h2 hlen
  exact ⟨A, c, rs, hv, hc, hr, h3, fun a e => by have := ha a e; omega, fun r hr a e => by have := h4 r hr a e; omega⟩
theorem OwnR.push {W : World} {b b0 g h : Nat} {v : Value} {R : List Tb.Rl} (ho : OwnR W b v R) (t : List UInt8) (wh : Int) (cs : List UInt8) (hh : Blk W h 74 #[.string (S t), .int .i64 wh, .slice (some ⟨g, 0, none⟩) cs.length cs.length])
    (hg : Blk W g 5 (BV cs).toArray) (ht : t.length ≤ 1000) (hw : Wr.inI wh) (hc : 0 < cs.length) (hc2 : cs.length ≤ 1000) (hgb : b ≤ g) (hgv : ∀ k, v.ownBlock = some k → k < b0) (hg0 : b0 ≤ g) (hb : b ≤ W.heap.size) (hl : R.length ≤ 1000) (ty : TypeId) :
    ∃ v' W', (Builtin.append_ #[22, 22] ty #[v, .slice (some ⟨h, 0, none⟩) 1 1]).run Try.prog W = .ok v' W' ∧ OwnR W' b v' (R ++ [Tb.mkR t wh cs]) ∧ W.grownBy W' v.ownBlock ∧ (v'.ownBlock = v.ownBlock ∨ v'.ownBlock = some W.heap.size) := by
  obtain ⟨rs, h1, h2, h3, h4⟩ := ho
  have hlen : rs.length ≤ 1000 := by rw [← h3, List.length_map] at hl; exact hl
  obtain ⟨v', W', hrun, hown', hrf', hgrow', hat'⟩ := rules_push W b h v rs ⟨t, wh, ⟨cs, some ⟨g, 0, none⟩, cs.length⟩⟩ h1 h2 hh ⟨bs_of_blk W g cs hg (by omega), hc, by show t.length ≤ _; omega, hw⟩
    (fun a ha => by injection ha with ha; subst ha; intro e; have := hgv _ e.symm; have h1 : b0 ≤ g := hg0; have h2 : g < b0 := this; omega) hb (by omega) ty
  refine ⟨v', W', hrun, ⟨_, hown', hrf', by rw [List.map_append, h3]; rfl, fun r hr a ha => ?_⟩, hgrow', hat'⟩
  rcases List.mem_append.1 hr with hr | hr
  · exact h4 r hr a ha
  · rw [List.mem_singleton] at hr
    subst hr
    injection ha with ha
    subst ha
    exact hgb
theorem RulesF.app {w w' : World} {v v' : Value} {xs ys : List Tb.Rl} (h : RulesF w v xs) (hy : ∀ y ∈ ys, RuleOk w y ∧ ∀ a, y.cells.ad = some a → some a.block ≠ v.ownBlock) (hg : w.grownBy w' v.ownBlock)
    (hat : v'.ownBlock = v.ownBlock ∨ v'.ownBlock = some w.heap.size) : RulesF w' v' (xs ++ ys) := by
  intro y hm
  have hq : RuleOk w y ∧ ∀ a, y.cells.ad = some a → some a.block ≠ v.ownBlock := by
    rcases List.mem_append.1 hm with hm | hm
    · exact h y hm
    · exact hy y hm
  have h1 := (RulesF.snoc (w := w) (w' := w') (v := v) (v' := v') (RulesF.nil w v) hq.1 hq.2 hg hat) y (by simp)
  exact h1
/-- more rules at the end of a row of rules -/
theorem OwnR.app {W : World} {b g : Nat} {v : Value} {R : List Tb.Rl} (ho : OwnR W b v R) (ys : List Tb.Rl) (hy : ∀ y ∈ ys, RuleOk W y ∧ ∀ a, y.cells.ad = some a → some a.block ≠ v.ownBlock ∧ b ≤ a.block)
    (hg : Blk W g 74 (RC ys).toArray) (hb : b ≤ W.heap.size) (hl : R.length ≤ 1000) (hl2 : ys.length ≤ 1000) (ty : TypeId) :
    ∃ v' W', (Builtin.append_ #[22, 22] ty #[v, .slice (some ⟨g, 0, none⟩) ys.length ys.length]).run Try.prog W = .ok v' W' ∧ OwnR W' b v' (R ++ ys.map Tb.eR) ∧ W.grownBy W' v.ownBlock ∧ (v'.ownBlock = v.ownBlock ∨ v'.ownBlock = some W.heap.size) := by
  obtain ⟨rs, hown, F, h3, h4⟩ := ho
  have hlen : rs.length ≤ 1000 := by rw [← h3, List.length_map] at hl; exact hl
  obtain ⟨j0, hj, hy0, hy1, hy2⟩ := info_parts ruleInfo3'
  obtain ⟨v', w', hrun, hown', hgrow', hat'⟩ := run_append_any (P := Try.prog) W b 22 ty 74 j0 (.agg #[.string { data := #[] }, .int .i64 0, .slice none 0 0]) 3 48 Try.underlying22 hj hy0 hy1 hy2 rfl (by omega)
    v rs.length (RC rs) hown W.heap.size (some ⟨g, 0, none⟩) ys.length ys.length (RC ys)
    ⟨RC_len ys, fun _ => ⟨_, rfl, hg.lt, fun j u hu => by
      have h2 := Blk.cell hg j
      rw [show ((⟨g, 0, none⟩ : Addr).add j) = ⟨g, j, none⟩ by unfold Addr.add; split <;> simp_all, h2, ← hu]
      rw [List.getElem?_toArray]⟩⟩
    (fun u hu => RC_one ys u hu) (by unfold maxLen; omega) (by omega) hb
  refine ⟨v', w', hrun, ⟨rs ++ ys, ?_, F.app (fun y hm => ⟨(hy y hm).1, fun a ha => ((hy y hm).2 a ha).1⟩) hgrow' hat', by rw [List.map_append, h3], fun r hr a ha => ?_⟩, hgrow', hat'⟩
  · rw [RC_append, List.length_append]
    exact hown'
  · rcases List.mem_append.1 hr with hr | hr
    · exact h4 r hr a ha
    · exact ((hy r hr).2 a ha).2
theorem stab_own (b : Nat) (R : List Tb.Rl) : Stab (fun W v => OwnR W b v R) := fun _ _ _ hb h => h.below hb
end Go.Proofs.Ytbcfndhnopmbbaa
