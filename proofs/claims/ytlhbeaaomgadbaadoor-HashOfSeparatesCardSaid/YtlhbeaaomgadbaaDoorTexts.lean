/-
  What the size of an argument says of the strings it holds.
-/
import Derived.Test.YtlhbeaaomgadbaaDoorWrap
namespace Go.Proofs.YtlhbeaaomgadbaaDoor
open Go.ChangeShapes Go.WideShapes Go.ChangeAt Go.WideMaps Go.WideElems Go.RowKit Go.ChangeMaps
set_option linter.unusedVariables false
section
variable {H : Type} {enc : TypeId × Value → H} {W : World}
theorem weights_all_mem {P : Program} {e : TypeId} (xs : List (List UInt8)) (x : List UInt8) (h : x ∈ xs) : x.length ∈ DataW.weightsAll P e (xs.map fun x => (.lit (.string x) : DataW H)) := by
  induction xs with
  | nil => cases h
  | cons y ys ih =>
    rw [List.map_cons, DataW.weightsAll, List.mem_append]
    rcases List.mem_cons.1 h with rfl | h
    · left; simp [DataW.weights]
    · right; exact ih h
theorem texts_sized {P : Program} {ts : List TypeId} {ds : List (DataW H)} (h : (DataW.weightsEach P ts ds).all (· ≤ reachBytes) = true) {j : Nat} {t e : TypeId} {d : DataW H} {xs : List (List UInt8)} (ht : ts[j]? = some t) (hd : ds[j]? = some d) (hu : P.underlying t = some (.slice e))
    (hx : (d = .nil ∧ xs = []) ∨ ∃ sp, d = .slice (xs.map fun x => .lit (.string x)) sp) : ∀ x ∈ xs, x.length ≤ 140737488351232 := by
  intro x hm
  rcases hx with ⟨_, rfl⟩ | ⟨sp, rfl⟩
  · cases hm
  · have := List.all_eq_true.1 h _ (DataW.weights_mem_each ht hd x.length (by
      simp only [DataW.weights, hu]
      exact List.mem_cons.2 (.inr (List.mem_append.2 (.inl (weights_all_mem xs x hm))))))
    have h2 : x.length ≤ reachBytes := by simpa using this
    exact h2
end
end Go.Proofs.YtlhbeaaomgadbaaDoor
