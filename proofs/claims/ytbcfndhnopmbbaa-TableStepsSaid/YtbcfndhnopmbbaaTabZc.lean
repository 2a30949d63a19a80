/-
  Tables, plainly: the steps hang on the word alone.
-/
import Derived.Test.YtbcfndhnopmbbaaTabZa
namespace Go.Proofs.Ytbcfndhnopmbbaa
open Go.RowKit
set_option linter.unusedVariables false
set_option linter.unusedSimpArgs false
namespace Tb
/-- what two places have alike: the characters from the word's beginning to its end, and that the word ends there -/
structure Alike (l m : Text) (p q a b : Nat) : Prop where
  hap : a ≤ p
  hpb : p < b
  haq : a ≤ p ∧ p - a ≤ q
  bl : b ≤ l.length
  bm : q + (b - p) ≤ m.length
  same : ∀ d, a + d < b → at_ l (a + d) = at_ m (q - (p - a) + d)
  word : letter (at_ l p).2 = true → ∀ d, a ≤ d → d < b → letter (at_ l d).2 = true ∧ (at_ l d).1 = (at_ l p).1
  one : letter (at_ l p).2 = false → a = p ∧ b = p + 1
  endl : b < l.length → ¬ (letter (at_ l b).2 = true ∧ (at_ l b).1 = (at_ l p).1) ∨ letter (at_ l p).2 = false
  endm : q + (b - p) < m.length → ¬ (letter (at_ m (q + (b - p))).2 = true ∧ (at_ m (q + (b - p))).1 = (at_ l p).1) ∨ letter (at_ l p).2 = false
  begl : 0 < a → ¬ (letter (at_ l (a - 1)).2 = true ∧ (at_ l (a - 1)).1 = (at_ l p).1) ∨ letter (at_ l p).2 = false
  begm : 0 < q - (p - a) → ¬ (letter (at_ m (q - (p - a) - 1)).2 = true ∧ (at_ m (q - (p - a) - 1)).1 = (at_ l p).1) ∨ letter (at_ l p).2 = false
variable {l m : Text} {p q a b : Nat}
theorem Alike.there (h : Alike l m p q a b) (d : Nat) (hd : p + d < b) : at_ m (q + d) = at_ l (p + d) := by
  have h1 := h.hap
  have h2 := h.haq.2
  have e := h.same (p - a + d) (by omega)
  rw [show a + (p - a + d) = p + d by omega, show q - (p - a) + (p - a + d) = q + d by omega] at e
  exact e.symm
theorem Alike.here (h : Alike l m p q a b) : at_ m q = at_ l p := by have := h.there 0 (by have := h.hpb; omega); simpa using this
theorem small_letter {c : UInt8} (h : small c = true) : letter c = true := by unfold letter; rw [h]; rfl
theorem low_small {c : UInt8} (h : small (low c) = true) : letter c = true := by
  cases hc : letter c with
  | true => rfl
  | false =>
    have h2 : low c = c := by
      unfold letter at hc
      simp only [Bool.or_eq_false_iff] at hc
      unfold low
      rw [hc.2]
      rfl
    rw [h2] at h
    rw [small_letter h] at hc
    cases hc
/-- whether a rule's text stands at either place -/
theorem Alike.stands (h : Alike l m p q a b) {s : List UInt8} (h1 : 1 ≤ s.length) (hs : s.all small = true ∨ s.length = 1) : stands s l p = stands s m q := by
  have hpb := h.hpb
  have key : ∀ (x : Text) (z : Nat), (∀ d, p + d < b → at_ x (z + d) = at_ l (p + d)) → z + (b - p) ≤ x.length →
      (z + (b - p) < x.length → ¬ (letter (at_ x (z + (b - p))).2 = true ∧ (at_ x (z + (b - p))).1 = (at_ l p).1) ∨ letter (at_ l p).2 = false) →
      Tb.stands s x z = (decide (p + s.length ≤ b) && (List.range s.length).all (standsAt s l p)) := by
    intro x z hx hz he
    have hx0 : at_ x z = at_ l p := by have := hx 0 (by omega); simpa using this
    unfold Tb.stands
    by_cases hc : p + s.length ≤ b
    · rw [decide_eq_true hc, decide_eq_true (show z + s.length ≤ x.length by omega), Bool.true_and, Bool.true_and]
      have e : ∀ i ∈ List.range s.length, standsAt s x z i = standsAt s l p i := fun i hi => by
        have hi' := List.mem_range.1 hi
        unfold standsAt
        rw [hx i (by omega), hx0]
      rw [Bool.eq_iff_iff, List.all_eq_true, List.all_eq_true]
      exact ⟨fun hh i hi => by rw [← e i hi]; exact hh i hi, fun hh i hi => by rw [e i hi]; exact hh i hi⟩
    · rw [decide_eq_false hc, Bool.false_and]
      have hsm : s.all small = true := by
        rcases hs with hs | hs
        · exact hs
        · omega
      rw [Bool.and_eq_false_iff]
      by_cases hl : z + s.length ≤ x.length
      · right
        rw [List.all_eq_false]
        have hsd : ∀ k, k < s.length → small (s.getD k 0) = true := by
          intro k hk
          rw [List.all_eq_true] at hsm
          rw [show s.getD k 0 = s[k] by simp [List.getD, hk]]
          exact hsm _ (List.getElem_mem hk)
        cases hlet : letter (at_ l p).2 with
        | true =>
          refine ⟨b - p, List.mem_range.2 (by omega), ?_⟩
          intro hst
          unfold standsAt at hst
          rw [if_neg (by omega), Bool.and_eq_true, decide_eq_true_eq, decide_eq_true_eq, hx0] at hst
          rcases he (by omega) with h9 | h9
          · exact h9 ⟨by rw [hst.1]; exact small_letter (hsd _ (by omega)), hst.2⟩
          · rw [hlet] at h9; cases h9
        | false =>
          refine ⟨0, List.mem_range.2 (by omega), ?_⟩
          intro hst
          unfold standsAt at hst
          rw [if_pos rfl, Bool.and_eq_true, decide_eq_true_eq, decide_eq_true_eq, Nat.add_zero, hx0] at hst
          have h9 := hsd 0 (by omega)
          rw [← hst.1] at h9
          rw [low_small h9] at hlet
          cases hlet
      · left
        exact decide_eq_false hl
  have hbl := h.bl
  rw [key l p (fun d _ => rfl) (by omega) (fun hlt => by rw [show p + (b - p) = b by omega] at *; exact h.endl hlt), key m q h.there h.bm h.endm]
theorem inside_false {x : Text} {z : Nat} (h : ¬ (letter (at_ x (z - 1)).2 = true ∧ letter (at_ x z).2 = true ∧ (at_ x (z - 1)).1 = (at_ x z).1) ∨ z = 0 ∨ x.length ≤ z) : inside x z = false := by
  unfold inside
  by_cases h0 : 0 < z ∧ z < x.length
  · rcases h with h | h | h
    · cases h1 : letter (at_ x (z - 1)).2 <;> cases h2 : letter (at_ x z).2 <;> simp
      intro _ _ h3
      exact absurd ⟨h1, h2, h3⟩ h
    · omega
    · omega
  · rw [decide_eq_false h0]; rfl
theorem inside_true {x : Text} {z : Nat} (h0 : 0 < z ∧ z < x.length) (h1 : letter (at_ x (z - 1)).2 = true) (h2 : letter (at_ x z).2 = true) (h3 : (at_ x (z - 1)).1 = (at_ x z).1) : inside x z = true := by
  unfold inside
  rw [decide_eq_true h0, decide_eq_true h3, h1, h2]
  rfl
theorem Alike.begin (h : Alike l m p q a b) : inside l p = inside m q := by
  have h1 := h.hap
  have h2 := h.hpb
  have h3 := h.haq.2
  have h4 := h.bl
  have h5 := h.bm
  cases hlet : letter (at_ l p).2 with
  | false =>
    rw [inside_false (.inl fun hh => by rw [hlet] at hh; exact absurd hh.2.1 (by simp)), inside_false (.inl fun hh => by rw [h.here, hlet] at hh; exact absurd hh.2.1 (by simp))]
  | true =>
    by_cases hap : a < p
    · have hw := h.word hlet (p - 1) (by omega) (by omega)
      have e := h.same (p - 1 - a) (by omega)
      rw [show a + (p - 1 - a) = p - 1 by omega, show q - (p - a) + (p - 1 - a) = q - 1 by omega] at e
      rw [inside_true ⟨by omega, by omega⟩ hw.1 hlet hw.2, inside_true ⟨by omega, by omega⟩ (by rw [← e]; exact hw.1) (by rw [h.here]; exact hlet) (by rw [← e, h.here]; exact hw.2)]
    · obtain rfl : a = p := by omega
      have e1 : inside l a = false := inside_false (by
        by_cases h0 : 0 < a
        · refine .inl fun hh => ?_
          rcases h.begl h0 with h9 | h9
          · exact h9 ⟨hh.1, hh.2.2⟩
          · rw [hlet] at h9; cases h9
        · exact .inr (.inl (by omega)))
      have e2 : inside m q = false := inside_false (by
        by_cases h0 : 0 < q
        · refine .inl fun hh => ?_
          have h8 := h.begm
          rw [show q - (a - a) = q by omega] at h8
          rcases h8 h0 with h9 | h9
          · exact h9 ⟨hh.1, by rw [hh.2.2, h.here]⟩
          · rw [hlet] at h9; cases h9
        · exact .inr (.inl (by omega)))
      rw [e1, e2]
theorem Alike.ending (h : Alike l m p q a b) (n : Nat) (hn : 1 ≤ n) (hb : p + n ≤ b) : inside l (p + n) = inside m (q + n) := by
  have h1 := h.hap
  have h2 := h.hpb
  have h4 := h.bl
  have h5 := h.bm
  have e1 : at_ m (q + n - 1) = at_ l (p + n - 1) := by
    have e := h.there (n - 1) (by omega)
    rw [show q + (n - 1) = q + n - 1 by omega, show p + (n - 1) = p + n - 1 by omega] at e
    exact e
  cases hlet : letter (at_ l p).2 with
  | false =>
    have hone := (h.one hlet).2
    have hn1 : n = 1 := by omega
    subst hn1
    rw [show p + 1 - 1 = p by omega] at e1
    rw [inside_false (.inl fun hh => by rw [show p + 1 - 1 = p by omega, hlet] at hh; exact absurd hh.1 (by simp)), inside_false (.inl fun hh => by rw [e1, hlet] at hh; exact absurd hh.1 (by simp))]
  | true =>
    have hw := h.word hlet (p + n - 1) (by omega) (by omega)
    by_cases hlt : p + n < b
    · have hw2 := h.word hlet (p + n) (by omega) hlt
      have e2 := h.there n hlt
      rw [inside_true ⟨by omega, by omega⟩ hw.1 hw2.1 (by rw [hw.2, hw2.2]), inside_true ⟨by omega, by omega⟩ (by rw [e1]; exact hw.1) (by rw [e2]; exact hw2.1) (by rw [e1, e2, hw.2, hw2.2])]
    · have hpe : p + n = b := by omega
      have f1 : inside l (p + n) = false := inside_false (by
        by_cases h0 : p + n < l.length
        · refine .inl fun hh => ?_
          rw [hpe] at hh h0
          rcases h.endl h0 with h9 | h9
          · exact h9 ⟨hh.2.1, by rw [← hh.2.2, ← hpe, hw.2]⟩
          · rw [hlet] at h9; cases h9
        · exact .inr (.inr (by omega)))
      have f2 : inside m (q + n) = false := inside_false (by
        by_cases h0 : q + n < m.length
        · refine .inl fun hh => ?_
          have h8 := h.endm
          rw [show q + (b - p) = q + n by omega] at h8
          rcases h8 h0 with h9 | h9
          · exact h9 ⟨hh.2.1, by rw [← hh.2.2, e1, hw.2]⟩
          · rw [hlet] at h9; cases h9
        · exact .inr (.inr (by omega)))
      rw [f1, f2]
theorem right_form {r : Rl} (h : right r = true) : r.text.all small = true ∨ r.text.length = 1 := by
  unfold right at h
  simp only [Bool.and_eq_true] at h
  have h2 := h.2
  split at h2
  · rename_i h3; exact .inl h3
  · simp only [Bool.and_eq_true, decide_eq_true_eq] at h2
    exact .inr h2.1.1
/-- where a rule's text stands, it ends within the word -/
theorem Alike.within (h : Alike l m p q a b) {s : List UInt8} (h1 : 1 ≤ s.length) (hs : s.all small = true ∨ s.length = 1) (hst : Tb.stands s l p = true) : p + s.length ≤ b := by
  have hpb := h.hpb
  rcases Nat.lt_or_ge b (p + s.length) with hc | hc
  · have hsm : s.all small = true := by
      rcases hs with hs | hs
      · exact hs
      · omega
    have hsd : ∀ k, k < s.length → small (s.getD k 0) = true := by
      intro k hk
      rw [List.all_eq_true] at hsm
      rw [show s.getD k 0 = s[k] by simp [List.getD, hk]]
      exact hsm _ (List.getElem_mem hk)
    unfold Tb.stands at hst
    rw [Bool.and_eq_true, decide_eq_true_eq, List.all_eq_true] at hst
    cases hlet : letter (at_ l p).2 with
    | true =>
      have h2 := hst.2 (b - p) (List.mem_range.2 (by omega))
      unfold standsAt at h2
      rw [if_neg (by omega), Bool.and_eq_true, decide_eq_true_eq, decide_eq_true_eq, show p + (b - p) = b by omega] at h2
      rcases h.endl (by omega) with h9 | h9
      · exact absurd ⟨by rw [h2.1]; exact small_letter (hsd _ (by omega)), h2.2⟩ h9
      · rw [hlet] at h9; cases h9
    | false =>
      have h2 := hst.2 0 (List.mem_range.2 (by omega))
      unfold standsAt at h2
      rw [if_pos rfl, Bool.and_eq_true, decide_eq_true_eq, decide_eq_true_eq, Nat.add_zero] at h2
      have h9 := hsd 0 (by omega)
      rw [← h2.1] at h9
      rw [low_small h9] at hlet
      cases hlet
  · exact hc
theorem Alike.fits (h : Alike l m p q a b) {r : Rl} (hr : right r = true) : Tb.fits r l p = Tb.fits r m q := by
  have h1 := (right_text hr).1
  have hs := right_form hr
  unfold Tb.fits
  cases hst : Tb.stands r.text l p with
  | false => rw [← h.stands h1 hs, hst]; rfl
  | true => rw [← h.stands h1 hs, hst, h.begin, h.ending r.text.length h1 (h.within h1 hs hst)]
/-- the steps are those of the other text -/
theorem Alike.next (h : Alike l m p q a b) (t : Tab) (s : St) (hv : valid t = 0) : Tb.next t s l p = Tb.next t s m q := by
  obtain ⟨_, _, hpr, _⟩ := valid_zero hv
  obtain ⟨r0, r1, _⟩ := proper_parts hpr
  have hall : ∀ r ∈ rulesOf t s.lang, right r = true := by
    unfold rulesOf
    split
    · exact r0
    · exact r1
  have hp : ∀ i, pieceAt (rulesOf t s.lang) t s l p i = pieceAt (rulesOf t s.lang) t s m q i := by
    intro i
    unfold pieceAt
    cases hi : (rulesOf t s.lang)[i]? with
    | none => rfl
    | some r =>
      have hr := hall r (List.mem_of_getElem? hi)
      simp only []
      rw [h.fits hr, h.here]
  unfold Tb.next pieces
  rw [h.here, show pieceAt (rulesOf t s.lang) t s l p = pieceAt (rulesOf t s.lang) t s m q from funext hp]
end Tb
end Go.Proofs.Ytbcfndhnopmbbaa
/-
  Tables, plainly: the text of the law in which something else stands round the word is alike.
-/
namespace Go.Proofs.Ytbcfndhnopmbbaa
open Go.RowKit
set_option linter.unusedVariables false
set_option linter.unusedSimpArgs false
namespace Tb
theorem at_append_left (x y : Text) (k : Nat) (h : k < x.length) : at_ (x ++ y) k = at_ x k := by
  unfold at_
  simp [List.getD, List.getElem?_append_left h]
theorem at_append_right (x y : Text) (k : Nat) (h : x.length ≤ k) : at_ (x ++ y) k = at_ y (k - x.length) := by
  unfold at_
  simp [List.getD, List.getElem?_append_right h]
theorem at_part (l : Text) (a b d : Nat) (h : a + d < b) : at_ ((l.drop a).take (b - a)) d = at_ l (a + d) := by
  unfold at_
  simp only [List.getD]
  rw [List.getElem?_take_of_lt (by omega), List.getElem?_drop]
def other (l : Text) (a b : Nat) (x : Int) (K M : Text) : Text := K ++ [(x, 32)] ++ (l.drop a).take (b - a) ++ [(x, 32)] ++ M
theorem other_word (l : Text) (a b : Nat) (x : Int) (K M : Text) (hab : a ≤ b) (hb : b ≤ l.length) (d : Nat) (h : a + d < b) : at_ (other l a b x K M) (K.length + 1 + d) = at_ l (a + d) := by
  unfold other
  have hl : ((l.drop a).take (b - a)).length = b - a := by rw [List.length_take, List.length_drop]; omega
  have hk : (K ++ [(x, (32 : UInt8))]).length = K.length + 1 := by simp
  rw [at_append_left _ _ _ (by simp only [List.length_append, hl, List.length_cons, List.length_nil]; omega), at_append_left _ _ _ (by rw [List.length_append, hk, hl]; omega), at_append_right _ _ _ (by rw [hk]; omega), hk, show K.length + 1 + d - (K.length + 1) = d by omega]
  exact at_part l a b d h
theorem other_before (l : Text) (a b : Nat) (x : Int) (K M : Text) : at_ (other l a b x K M) K.length = (x, 32) := by
  unfold other
  rw [List.append_assoc, List.append_assoc, at_append_left _ _ _ (by simp), at_append_right _ _ _ (Nat.le_refl _), Nat.sub_self]
  rfl
theorem other_behind (l : Text) (a b : Nat) (x : Int) (K M : Text) (hab : a ≤ b) (hb : b ≤ l.length) : at_ (other l a b x K M) (K.length + 1 + (b - a)) = (x, 32) := by
  unfold other
  have hl : ((l.drop a).take (b - a)).length = b - a := by rw [List.length_take, List.length_drop]; omega
  have hk : (K ++ [(x, (32 : UInt8))] ++ (l.drop a).take (b - a)).length = K.length + 1 + (b - a) := by rw [List.length_append, hl]; simp
  rw [at_append_left _ _ _ (by rw [List.length_append, hk]; simp), at_append_right _ _ _ (by rw [hk]; omega), hk, Nat.sub_self]
  rfl
theorem other_len (l : Text) (a b : Nat) (x : Int) (K M : Text) (hab : a ≤ b) (hb : b ≤ l.length) : (other l a b x K M).length = K.length + 1 + (b - a) + 1 + M.length := by
  unfold other
  have hl : ((l.drop a).take (b - a)).length = b - a := by rw [List.length_take, List.length_drop]; omega
  simp only [List.length_append, hl, List.length_cons, List.length_nil]
theorem alike_other (l : Text) (p a b : Nat) (x : Int) (K M : Text) (hap : a ≤ p) (hpb : p < b) (hb : b ≤ l.length)
    (word : letter (at_ l p).2 = true → ∀ d, a ≤ d → d < b → letter (at_ l d).2 = true ∧ (at_ l d).1 = (at_ l p).1) (one : letter (at_ l p).2 = false → a = p ∧ b = p + 1)
    (endl : b < l.length → ¬ (letter (at_ l b).2 = true ∧ (at_ l b).1 = (at_ l p).1) ∨ letter (at_ l p).2 = false)
    (begl : 0 < a → ¬ (letter (at_ l (a - 1)).2 = true ∧ (at_ l (a - 1)).1 = (at_ l p).1) ∨ letter (at_ l p).2 = false) :
    Alike l (other l a b x K M) p (K.length + 1 + (p - a)) a b := by
  have h32 : letter 32 = false := by decide
  have hlen := other_len l a b x K M (by omega) hb
  refine ⟨hap, hpb, ⟨hap, by omega⟩, hb, by omega, fun d hd => ?_, word, one, endl, fun _ => .inl fun hh => ?_, begl, fun _ => .inl fun hh => ?_⟩
  · rw [show K.length + 1 + (p - a) - (p - a) + d = K.length + 1 + d by omega, other_word l a b x K M (by omega) hb d hd]
  · rw [show K.length + 1 + (p - a) + (b - p) = K.length + 1 + (b - a) by omega, other_behind l a b x K M (by omega) hb] at hh
    rw [h32] at hh
    exact absurd hh.1 (by simp)
  · rw [show K.length + 1 + (p - a) - (p - a) - 1 = K.length by omega, other_before] at hh
    rw [h32] at hh
    exact absurd hh.1 (by simp)
theorem good_other {l K M : Text} {a b : Nat} {x : Int} (hx : langOk x = true) (hl : ∀ y ∈ l, good y) (hK : ∀ y ∈ K, good y) (hM : ∀ y ∈ M, good y) : ∀ y ∈ other l a b x K M, good y := by
  have hb : good (x, 32) := ⟨hx, .inr (.inr (show (32 : UInt8) ∈ markB by decide))⟩
  intro y hy
  unfold other at hy
  simp only [List.mem_append, List.mem_cons, List.not_mem_nil, or_false] at hy
  rcases hy with (((hy | hy) | hy) | hy) | hy
  · exact hK y hy
  · rw [hy]; exact hb
  · exact hl y (List.mem_of_mem_drop (List.mem_of_mem_take hy))
  · rw [hy]; exact hb
  · exact hM y hy
/-- the steps at a place of a text are those at a place alike -/
theorem Alike.steps {l m : Text} {p q a b : Nat} (h : Alike l m p q a b) (t : Tab) (s : St) (hv : valid t = 0) (hs : langOk s.lang = true) (hl : ∀ y ∈ l, good y) (hm : ∀ y ∈ m, good y) : Tb.steps t s l (p : Int) = Tb.steps t s m (q : Int) := by
  have h1 := h.hpb
  have h2 := h.bl
  have h3 := h.bm
  have a1 : l.all symOk = true := by rw [List.all_eq_true]; exact fun x hx => good_symOk (hl x hx)
  have a2 : m.all symOk = true := by rw [List.all_eq_true]; exact fun x hx => good_symOk (hm x hx)
  unfold Tb.steps
  rw [if_pos ⟨by omega, by omega, hs, a1, hv⟩, if_pos ⟨by omega, by omega, hs, a2, hv⟩]
  exact h.next t s hv
end Tb
end Go.Proofs.Ytbcfndhnopmbbaa
