/-
  Tables, plainly: the text of the law in which something else stands round the word is alike.
-/
import Derived.Test.YtonjcnkolgbomaaTabZb
namespace Go.Proofs.Ytonjcnkolgbomaa
open Go.RowKit
set_option linter.unusedVariables false
set_option linter.unusedSimpArgs false
namespace Tb
theorem at_append_left (x y : Text) (k : Nat) (h : k < x.length) : at_ (x ++ y) k = at_ x k := by
  unfold at_
  simp [List.getD, List.getElem?_append_left h]
theorem at_append_right (x y : Text) (k : Nat) (h : x.length ≤ k) : at_ (x ++ y) k = at_ y (k - x.length) := by
  unfold at_
  simp [List.getD, List.getElem?_append_right h]
theorem at_part (l : Text) (a b d : Nat) (h : a + d < b) : at_ ((l.drop a).take (b - a)) d = at_ l (a + d) := by
  unfold at_
  simp only [List.getD]
  rw [List.getElem?_take_of_lt (by omega), List.getElem?_drop]
def other (l : Text) (a b : Nat) (x : Int) (K M : Text) : Text := K ++ [(x, 32)] ++ (l.drop a).take (b - a) ++ [(x, 32)] ++ M
theorem other_word (l : Text) (a b : Nat) (x : Int) (K M : Text) (hab : a ≤ b) (hb : b ≤ l.length) (d : Nat) (h : a + d < b) : at_ (other l a b x K M) (K.length + 1 + d) = at_ l (a + d) := by
  unfold other
  have hl : ((l.drop a).take (b - a)).length = b - a := by rw [List.length_take, List.length_drop]; omega
  have hk : (K ++ [(x, (32 : UInt8))]).length = K.length + 1 := by simp
  rw [at_append_left _ _ _ (by simp only [List.length_append, hl, List.length_cons, List.length_nil]; omega), at_append_left _ _ _ (by rw [List.length_append, hk, hl]; omega), at_append_right _ _ _ (by rw [hk]; omega), hk, show K.length + 1 + d - (K.length + 1) = d by omega]
  exact at_part l a b d h
theorem other_before (l : Text) (a b : Nat) (x : Int) (K M : Text) : at_ (other l a b x K M) K.length = (x, 32) := by
  unfold other
  rw [List.append_assoc, List.append_assoc, at_append_left _ _ _ (by simp), at_append_right _ _ _ (Nat.le_refl _), Nat.sub_self]
  rfl
theorem other_behind (l : Text) (a b : Nat) (x : Int) (K M : Text) (hab : a ≤ b) (hb : b ≤ l.length) : at_ (other l a b x K M) (K.length + 1 + (b - a)) = (x, 32) := by
  unfold other
  have hl : ((l.drop a).take (b - a)).length = b - a := by rw [List.length_take, List.length_drop]; omega
  have hk : (K ++ [(x, (32 : UInt8))] ++ (l.drop a).take (b - a)).length = K.length + 1 + (b - a) := by rw [List.length_append, hl]; simp
  rw [at_append_left _ _ _ (by rw [List.length_append, hk]; simp), at_append_right _ _ _ (by rw [hk]; omega), hk, Nat.sub_self]
  rfl
theorem other_len (l : Text) (a b : Nat) (x : Int) (K M : Text) (hab : a ≤ b) (hb : b ≤ l.length) : (other l a b x K M).length = K.length + 1 + (b - a) + 1 + M.length := by
  unfold other
  have hl : ((l.drop a).take (b - a)).length = b - a := by rw [List.length_take, List.length_drop]; omega
  simp only [List.length_append, hl, List.length_cons, List.length_nil]
theorem alike_other (l : Text) (p a b : Nat) (x : Int) (K M : Text) (hap : a ≤ p) (hpb : p < b) (hb : b ≤ l.length)
    (word : letter (at_ l p).2 = true → ∀ d, a ≤ d → d < b → letter (at_ l d).2 = true ∧ (at_ l d).1 = (at_ l p).1) (one : letter (at_ l p).2 = false → a = p ∧ b = p + 1)
    (endl : b < l.length → ¬ (letter (at_ l b).2 = true ∧ (at_ l b).1 = (at_ l p).1) ∨ letter (at_ l p).2 = false)
    (begl : 0 < a → ¬ (letter (at_ l (a - 1)).2 = true ∧ (at_ l (a - 1)).1 = (at_ l p).1) ∨ letter (at_ l p).2 = false) :
    Alike l (other l a b x K M) p (K.length + 1 + (p - a)) a b := by
  have h32 : letter 32 = false := by decide
  have hlen := other_len l a b x K M (by omega) hb
  refine ⟨hap, hpb, ⟨hap, by omega⟩, hb, by omega, fun d hd => ?_, word, one, endl, fun _ => .inl fun hh => ?_, begl, fun _ => .inl fun hh => ?_⟩
  · rw [show K.length + 1 + (p - a) - (p - a) + d = K.length + 1 + d by omega, other_word l a b x K M (by omega) hb d hd]
  · rw [show K.length + 1 + (p - a) + (b - p) = K.length + 1 + (b - a) by omega, other_behind l a b x K M (by omega) hb] at hh
    rw [h32] at hh
    exact absurd hh.1 (by simp)
  · rw [show K.length + 1 + (p - a) - (p - a) - 1 = K.length by omega, other_before] at hh
    rw [h32] at hh
    exact absurd hh.1 (by simp)
theorem good_other {l K M : Text} {a b : Nat} {x : Int} (hx : langOk x = true) (hl : ∀ y ∈ l, good y) (hK : ∀ y ∈ K, good y) (hM : ∀ y ∈ M, good y) : ∀ y ∈ other l a b x K M, good y := by
  have hb : good (x, 32) := ⟨hx, .inr (.inr (show (32 : UInt8) ∈ markB by decide))⟩
  intro y hy
  unfold other at hy
  simp only [List.mem_append, List.mem_cons, List.not_mem_nil, or_false] at hy
  rcases hy with (((hy | hy) | hy) | hy) | hy
  · exact hK y hy
  · rw [hy]; exact hb
  · exact hl y (List.mem_of_mem_drop (List.mem_of_mem_take hy))
  · rw [hy]; exact hb
  · exact hM y hy
/-- the steps at a place of a text are those at a place alike -/
theorem Alike.steps {l m : Text} {p q a b : Nat} (h : Alike l m p q a b) (t : Tab) (s : St) (hv : valid t = 0) (hs : langOk s.lang = true) (hl : ∀ y ∈ l, good y) (hm : ∀ y ∈ m, good y) : Tb.steps t s l (p : Int) = Tb.steps t s m (q : Int) := by
  have h1 := h.hpb
  have h2 := h.bl
  have h3 := h.bm
  have a1 : l.all symOk = true := by rw [List.all_eq_true]; exact fun x hx => good_symOk (hl x hx)
  have a2 : m.all symOk = true := by rw [List.all_eq_true]; exact fun x hx => good_symOk (hm x hx)
  unfold Tb.steps
  rw [if_pos ⟨by omega, by omega, hs, a1, hv⟩, if_pos ⟨by omega, by omega, hs, a2, hv⟩]
  exact h.next t s hv
end Tb
end Go.Proofs.Ytonjcnkolgbomaa
