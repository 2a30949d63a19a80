/-
  Tables: rows of rules of the call's own whose cells may be empty; parts of tables apart from two blocks.
-/
import Derived.Test.YtbcfndhnopmbbaaTabVw
namespace Go.Proofs.Ytbcfndhnopmbbaa
open Go.RowKit
set_option linter.unusedVariables false
set_option linter.unusedSimpArgs false
/-- a rule beside the row v -/
def RuleY (w : World) (v : Value) (r : Tb.Rl) : Prop := BsAt w w.heap.size r.cells ∧ r.text.length ≤ 1048576 ∧ Wr.inI r.wh ∧ (0 < r.cells.l.length → ∀ a, r.cells.ad = some a → some a.block ≠ v.ownBlock)
def OwnY (w : World) (b : Nat) (v : Value) (rs : List Tb.Rl) : Prop := w.ownsRow b 74 3 v rs.length (RC rs) ∧ ∀ r ∈ rs, RuleY w v r
theorem OwnY.nil (w : World) (b : Nat) : OwnY w b (.slice none 0 0) [] := ⟨own_nil _ _ _ _, fun r hr => by cases hr⟩
theorem BsAt.grownY {w w' : World} {b : Tb.Bs} {row : Option Nat} (h : BsAt w w.heap.size b) (hg : w.grownBy w' row) (hr : 0 < b.l.length → ∀ a, b.ad = some a → some a.block ≠ row) : BsAt w' w'.heap.size b := by
  by_cases hl : 0 < b.l.length
  · exact h.grown hg (hr hl)
  · exact ⟨⟨h.1.1, fun hn => absurd hn hl⟩, h.2⟩
theorem RuleY.below {w w' : World} {v : Value} {r : Tb.Rl} (h : RuleY w v r) (hb : Below w.heap.size w w') : RuleY w' v r := ⟨h.1.same hb, h.2⟩
theorem OwnY.below {w w' : World} {b : Nat} {v : Value} {rs : List Tb.Rl} (h : OwnY w b v rs) (hb : Below w.heap.size w w') : OwnY w' b v rs := ⟨own_below h.1 hb, fun r hr => (h.2 r hr).below hb⟩
/-- rules appended, wherever they lie -/
theorem OwnY.app {W : World} {b : Nat} {v : Value} {rs : List Tb.Rl} (ho : OwnY W b v rs) (ys : List Tb.Rl) (A : Option Addr) (c : Nat) (hr : Reads W W.heap.size 3 A ys.length (RC ys)) (hy : ∀ y ∈ ys, RuleY W v y) (hb : b ≤ W.heap.size) (hl : rs.length ≤ 100000) (hl2 : ys.length ≤ 100000) (ty : TypeId) :
    ∃ v' W', (Builtin.append_ #[22, 22] ty #[v, .slice A ys.length c]).run Try.prog W = .ok v' W' ∧ OwnY W' b v' (rs ++ ys) ∧ W.grownBy W' v.ownBlock ∧ (v'.ownBlock = v.ownBlock ∨ v'.ownBlock = some W.heap.size) := by
  obtain ⟨j0, hj, hy0, hy1, hy2⟩ := info_parts ruleInfo3'
  obtain ⟨v', w', hrun, hown', hgrow', hat'⟩ := run_append_any (P := Try.prog) W b 22 ty 74 j0 (.agg #[.string { data := #[] }, .int .i64 0, .slice none 0 0]) 3 48 Try.underlying22 hj hy0 hy1 hy2 rfl (by omega)
    v rs.length (RC rs) ho.1 W.heap.size A ys.length c (RC ys) hr (fun u hu => RC_one ys u hu) (by unfold maxLen; omega) (by omega) hb
  refine ⟨v', w', hrun, ⟨?_, fun r hm => ?_⟩, hgrow', hat'⟩
  · rw [RC_append, List.length_append]
    exact hown'
  · have hq : RuleY W v r := by
      rcases List.mem_append.1 hm with hm | hm
      · exact ho.2 r hm
      · exact hy r hm
    refine ⟨hq.1.grownY hgrow' hq.2.2.2, hq.2.1, hq.2.2.1, fun hn a ha => ?_⟩
    rcases hat' with h1 | h1
    · rw [h1]; exact hq.2.2.2 hn a ha
    · rw [h1]
      obtain ⟨ad, e, hbl, _⟩ := hq.1.1.2 hn
      rw [ha] at e
      injection e with e
      subst e
      intro hc
      injection hc with hc
      omega
/-- the first rules of a row are a row -/
theorem OwnY.pre {W : World} {b : Nat} {A : Option Addr} {c : Nat} {rs : List Tb.Rl} (ho : OwnY W b (.slice A rs.length c) rs) (k : Nat) (hk : k ≤ rs.length) (hA : A ≠ none) : OwnY W b (.slice A k c) (rs.take k) := by
  have hkl : (rs.take k).length = k := by rw [List.length_take]; omega
  refine ⟨?_, fun r hr => by
    have h := ho.2 r (List.mem_of_mem_take hr)
    refine ⟨h.1, h.2.1, h.2.2.1, fun hn a ha => ?_⟩
    have h2 := h.2.2.2 hn a ha
    cases A <;> exact h2⟩
  rw [hkl]
  refine ⟨by rw [RC_len, hkl], ?_⟩
  rcases ho.1.2 with ⟨h0, _⟩ | ⟨g, cap, cur, hv, h2, h3, h4, h5, h6, h7⟩
  · injection h0 with h0
    exact absurd h0 hA
  · injection hv with hv1 hv2 hv3
    subst hv1
    subst hv3
    refine .inr ⟨g, c, cur, rfl, h2, h3, by omega, h5, h6, ?_⟩
    have e : (RC rs).take (k * 3) = RC (rs.take k) := by
      clear ho hkl h7 h6 h5 h4 h3 h2 hA hv2
      induction k generalizing rs with
      | zero => simp [RC]
      | succ k ih =>
        cases rs with
        | nil => simp at hk
        | cons r rs =>
          show (ruC r ++ RC rs).take ((k + 1) * 3) = ruC r ++ RC (rs.take k)
          rw [show (k + 1) * 3 = (ruC r).length + k * 3 by show _ = 3 + k * 3; omega, List.take_length_add_append, ih (by simpa using hk)]
    rw [← e, ← h7, List.take_take]
    congr 1
    omega
theorem RC_drop (rs : List Tb.Rl) (a : Nat) : (RC rs).drop (a * 3) = RC (rs.drop a) := by
  induction a generalizing rs with
  | zero => simp
  | succ a ih =>
    cases rs with
    | nil => simp [RC]
    | cons x l =>
      rw [List.drop_succ_cons, ← ih]
      show (ruC x ++ RC l).drop ((a + 1) * 3) = _
      rw [show (a + 1) * 3 = 3 + a * 3 by omega, ← List.drop_drop]
      rfl
/-- the last rules of a row, to be read -/
theorem reads_rest3 {w : World} {B : Nat} {td : Addr} {rs : List Tb.Rl} (h : Reads w B 3 (some td) rs.length (RC rs)) (a : Nat) (ha : a ≤ rs.length) : Reads w B 3 (some (td.add (a * 3))) (rs.length - a) (RC (rs.drop a)) := by
  refine ⟨by rw [RC_len, List.length_drop], fun hn => ?_⟩
  obtain ⟨ad, e, hbl, hc⟩ := h.2 (by omega)
  injection e with e
  subst e
  refine ⟨_, rfl, by rw [block_of_add]; exact hbl, fun j u hu => ?_⟩
  rw [add_of_add]
  refine hc _ _ ?_
  rw [← RC_drop, List.getElem?_drop] at hu
  exact hu
/-- bytes apart from two blocks -/
def BsZ (w : World) (g h : Nat) (m : Value) (n : Nat) : Prop := ∃ A c l, m = .slice A n c ∧ l.length = n ∧ BsAt w w.heap.size ⟨l, A, c⟩ ∧ (0 < n → ∀ a, A = some a → a.block ≠ g ∧ a.block ≠ h)
theorem BsZ.grown {w w' : World} {g h n : Nat} {m : Value} {row : Option Nat} (hz : BsZ w g h m n) (hg : w.grownBy w' row) (hr : row = some g ∨ row = some h ∨ row = none) : BsZ w' g h m n := by
  obtain ⟨A, c, l, h1, h2, h3, h4⟩ := hz
  refine ⟨A, c, l, h1, h2, h3.grownY hg (fun hn a ha hc => ?_), h4⟩
  have hq := h4 (by rw [← h2]; exact hn) a ha
  rcases hr with e | e | e <;> rw [e] at hc
  · injection hc with hc; exact hq.1 hc
  · injection hc with hc; exact hq.2 hc
  · cases hc
/-- rules of a language apart from two blocks, at most so many -/
def LangZ (w : World) (g h M : Nat) (m : Value) : Prop := ∃ A c rs, m = .slice A rs.length c ∧ rs.length ≤ c ∧ rs.length ≤ M ∧ RulesAt w w.heap.size A rs ∧ (0 < rs.length → ∀ a, A = some a → a.block ≠ g ∧ a.block ≠ h) ∧
  ∀ r ∈ rs, 0 < r.cells.l.length → ∀ a, r.cells.ad = some a → a.block ≠ g ∧ a.block ≠ h
theorem Reads.grownZ {w w' : World} {size n : Nat} {A : Option Addr} {xs : List Value} {row : Option Nat} (h : Reads w w.heap.size size A n xs) (hg : w.grownBy w' row) (ho : 0 < n → ∀ a, A = some a → some a.block ≠ row) : Reads w' w'.heap.size size A n xs :=
  ⟨h.1, fun hn => by
    obtain ⟨ad, e, hb, hc⟩ := h.2 hn
    refine ⟨ad, e, Nat.lt_of_lt_of_le hb hg.size, fun j u hu => ?_⟩
    rw [World.cell?_of_block (hg.block (ad.add j).block (by rw [block_of_add]; exact hb) (by
      rw [block_of_add]
      exact ho hn ad e))]
    exact hc j u hu⟩
theorem LangZ.grown {w w' : World} {g h M : Nat} {m : Value} {row : Option Nat} (hz : LangZ w g h M m) (hg : w.grownBy w' row) (hr : row = some g ∨ row = some h ∨ row = none) : LangZ w' g h M m := by
  obtain ⟨A, c, rs, h1, h2, h3, h4, h5, h6⟩ := hz
  have far : ∀ a : Addr, a.block ≠ g ∧ a.block ≠ h → some a.block ≠ row := fun a hq hc => by
    rcases hr with e | e | e <;> rw [e] at hc
    · injection hc with hc; exact hq.1 hc
    · injection hc with hc; exact hq.2 hc
    · cases hc
  exact ⟨A, c, rs, h1, h2, h3, ⟨h4.1.grownZ hg (fun hn a ha => far a (h5 hn a ha)), fun r hm => ⟨(h4.2.1 r hm).1.grownY hg (fun hn a ha => far a (h6 r hm hn a ha)), (h4.2.1 r hm).2⟩, h4.2.2⟩, h5, h6⟩
theorem tab_Z {w : World} {g h M nd nc nn nf ns : Nat} {m0 m1 d c n f s : Value} (h0 : LangZ w g h M m0) (h1 : LangZ w g h M m1) (hd : BsZ w g h d nd) (hc : BsZ w g h c nc) (hn : BsZ w g h n nn) (hf : BsZ w g h f nf) (hs : BsZ w g h s ns) (hnd : 1 ≤ nd ∧ nd ≤ 100) :
    gTab M w (.agg #[m0, m1, d, c, n, f, s]) := by
  obtain ⟨A0, c0, rs0, rfl, k0, l0, r0, _, _⟩ := h0
  obtain ⟨A1, c1, rs1, rfl, k1, l1, r1, _, _⟩ := h1
  obtain ⟨Ad, cd, ld, rfl, ed, bd, _⟩ := hd
  obtain ⟨Ac, cc, lc, rfl, ec, bc, _⟩ := hc
  obtain ⟨An, cn, ln, rfl, en, bn, _⟩ := hn
  obtain ⟨Af, cf, lf, rfl, ef, bf, _⟩ := hf
  obtain ⟨As, cs, ls, rfl, es, bs, _⟩ := hs
  subst ed ec en ef es
  exact ⟨⟨rs0, rs1, ⟨ld, Ad, cd⟩, ⟨lc, Ac, cc⟩, ⟨ln, An, cn⟩, ⟨lf, Af, cf⟩, ⟨ls, As, cs⟩⟩, ⟨A0, A1, c0, c1, rfl, r0, r1, k0, k1, bd, bc, bn, bf, bs⟩, l0, l1, hnd⟩
/-- own rules, apart from two blocks below them -/
theorem OwnY.langZ {w : World} {b g h M : Nat} {v : Value} {rs : List Tb.Rl} (ho : OwnY w b v rs) (hg : g < b) (hh : h < b) (hM : rs.length ≤ M) (hM2 : M ≤ 100000) (hc : ∀ r ∈ rs, 0 < r.cells.l.length → ∀ a, r.cells.ad = some a → a.block ≠ g ∧ a.block ≠ h) : LangZ w g h M v := by
  obtain ⟨A, c, rfl, hnc, _⟩ := own_slice ho.1
  refine ⟨A, c, rs, rfl, hnc, hM, ⟨Reads.of_own ho.1, fun r hr => ⟨(ho.2 r hr).1, (ho.2 r hr).2.1, (ho.2 r hr).2.2.1⟩, by omega⟩, fun hn a ha => ?_, hc⟩
  subst ha
  have := (ho.1.lt a.block rfl).1
  omega
/-- a field of a rule set -/
def setRl (r : Tb.Rl) (f : Nat) (u : Value) (r' : Tb.Rl) : Prop := (ruC r).set f u = ruC r'
theorem RC_set (rs : List Tb.Rl) (i f : Nat) (u : Value) (r' : Tb.Rl) (hi : i < rs.length) (hf : f < 3) (h : setRl (rs[i]'hi) f u r') : (RC rs).set (i * 3 + f) u = RC (rs.set i r') := by
  induction rs generalizing i with
  | nil => simp at hi
  | cons r rs ih =>
    cases i with
    | zero =>
      show (ruC r ++ RC rs).set (0 * 3 + f) u = ruC r' ++ RC rs
      rw [List.set_append_left _ _ (by show 0 * 3 + f < 3; omega), show 0 * 3 + f = f by omega]
      congr 1
    | succ i =>
      show (ruC r ++ RC rs).set ((i + 1) * 3 + f) u = ruC r ++ RC (rs.set i r')
      rw [List.set_append_right _ _ (by show 3 ≤ (i + 1) * 3 + f; omega), show (i + 1) * 3 + f - (ruC r).length = i * 3 + f by show (i + 1) * 3 + f - 3 = _; omega]
      rw [ih i (by simpa using hi) h]
theorem OwnY.set {w : World} {b g n c i f : Nat} {rs : List Tb.Rl} {u : Value} {r' : Tb.Rl} (ho : OwnY w b (.slice (some ⟨g, 0, none⟩) n c) rs) (hi : i < rs.length) (hf : f < 3) (hs : setRl (rs[i]'hi) f u r') (hr : RuleY w (.slice (some ⟨g, 0, none⟩) n c) r') :
    OwnY (w.setCell ⟨g, i * 3 + f, none⟩ u) b (.slice (some ⟨g, 0, none⟩) n c) (rs.set i r') := by
  have hg : w.grownBy (w.setCell ⟨g, i * 3 + f, none⟩ u) (some g) := grown_set (World.grownBy.refl w (some g)) _ u
  refine ⟨⟨by rw [RC_len], ?_⟩, fun r hm => ?_⟩
  · rcases ho.1.2 with ⟨h0, _⟩ | ⟨g', cap, cur, hv, h2, h3, h4, h5, h6, h7⟩
    · cases h0
    · injection hv with hv1 hv2 hv3
      injection hv1 with hv1
      injection hv1 with hv1
      subst hv1
      subst hv3
      refine .inr ⟨g, c, cur.setIfInBounds (i * 3 + f) u, by rw [List.length_set, hv2], h2, Blk.set_ (show Blk w g 74 cur from h3) _ u, by rw [List.length_set]; exact h4, h5, by simpa using h6, ?_⟩
      rw [Array.toList_setIfInBounds, List.length_set, List.take_set, h7]
      exact RC_set rs i f u r' hi hf hs
  · have hq : RuleY w (.slice (some ⟨g, 0, none⟩) n c) r := by
      rcases List.mem_or_eq_of_mem_set hm with h | h
      · exact ho.2 r h
      · rw [h]; exact hr
    exact ⟨hq.1.grownY hg (fun hn a ha => hq.2.2.2 hn a ha), hq.2⟩
end Go.Proofs.Ytbcfndhnopmbbaa
