/-
  Cells: Back of the reference, few, by contract; CellDots, walked.
-/
import Derived.Test.YtdjmfjmijpfijaaDoorLivesC
namespace Go.Proofs.YtdjmfjmijpfijaaDoor
open Go.RowKit
set_option linter.unusedVariables false
set_option linter.unusedSimpArgs false
namespace Ce
def flip (x : Int) : Int := if x ≤ 3 then x + 3 else x - 3
def goodB (xs : List Int) : Bool := xs.all (fun x => decide (1 ≤ x) && decide (x ≤ 6)) && decide xs.Nodup
theorem of_goodB {xs : List Int} (h : goodB xs = true) : of xs = ((sumB xs : Int), 0) := by
  unfold goodB at h
  rw [Bool.and_eq_true, List.all_eq_true, decide_eq_true_iff] at h
  refine of_ok (fun x hx => ?_) h.2
  have := h.1 x hx
  rw [Bool.and_eq_true, decide_eq_true_iff, decide_eq_true_iff] at this
  exact this
set_option maxRecDepth 100000 in
theorem facts (c : Nat) (hc : c < 256) : of (dots c) = (((c % 64 : Nat) : Int), 0) ∧ of ((dots c).map flip) = (((back c : Nat) : Int), 0) ∧ back (back c) = c % 64 ∧ (dots (back c)).length = (dots c).length ∧ back c < 64 := by
  have H : ∀ c : Fin 256, goodB (dots c.val) = true ∧ sumB (dots c.val) = c.val % 64 ∧ goodB ((dots c.val).map flip) = true ∧ sumB ((dots c.val).map flip) = back c.val ∧ back (back c.val) = c.val % 64 ∧ (dots (back c.val)).length = (dots c.val).length ∧ back c.val < 64 := by decide +kernel
  obtain ⟨h1, h2, h3, h4, h5, h6, h7⟩ := H ⟨c, hc⟩
  exact ⟨by rw [of_goodB h1, h2], by rw [of_goodB h3, h4], h5, h6, h7⟩
theorem dots_range (c : Nat) : ∀ x ∈ dots c, 1 ≤ x ∧ x ≤ 6 := fun x hx => by
  rw [dots_map, List.mem_map] at hx
  obtain ⟨k, hk, rfl⟩ := hx
  have := dotsN_lt c k hk
  omega
theorem dots_len6 (c : Nat) : (dots c).length ≤ 6 := dotsTo_len c 6
end Ce
theorem reads_take {w : World} {B n : Nat} {A : Option Addr} {xs : List Value} (hr : Reads w B 1 A n xs) (m : Nat) (hm : m ≤ n) : Reads w B 1 A m (xs.take m) := by
  have hl : xs.length = n := by have := hr.1; omega
  refine ⟨by rw [List.length_take]; omega, fun h0 => ?_⟩
  obtain ⟨ad, e, hb, hc⟩ := hr.2 (by omega)
  refine ⟨ad, e, hb, fun j u hj => hc j u ?_⟩
  rw [List.getElem?_take] at hj
  split at hj
  · exact hj
  · cases hj
end Go.Proofs.YtdjmfjmijpfijaaDoor
