/-
  What the second form's bound on the bulk says of what the walks read.
-/
import Derived.Test.YtbkpnfejhaedhaaRows
import Derived.Test.YtbkpnfejhaedhaaWrap
import Derived.Test.YtbkpnfejhaedhaaFew
namespace Go.Proofs.Ytbkpnfejhaedhaa
open Go.ChangeShapes Go.WideShapes Go.ChangeAt Go.RowKit
set_option linter.unusedVariables false
set_option linter.unusedSimpArgs false

section
variable {H : Type}
theorem bulk_pos (d : DataW H) : 1 ≤ Rows.uptoBulk d := by
  cases d with
  | lit l => cases l <;> simp [Rows.uptoBulk]
  | _ => simp [Rows.uptoBulk]
theorem bulk_len (ds : List (DataW H)) : ds.length ≤ Rows.uptoBulkAll ds := by
  induction ds with
  | nil => simp
  | cons d ds ih => rw [Rows.uptoBulkAll, List.length_cons]; have := bulk_pos d; omega
theorem bulk_capped {d : DataW H} {c : Nat} (h : Capped d c) : c ≤ Rows.uptoBulk d := by
  rcases h with ⟨_, rfl⟩ | ⟨el, sp, rfl, rfl⟩
  · omega
  · rw [Rows.uptoBulk]; have := bulk_len el; have := bulk_len sp; omega
theorem bulk_texts (xs : List (List UInt8)) : Rows.uptoBulkAll (xs.map fun x => (.lit (.string x) : DataW H)) = xs.length + lens xs := by
  induction xs with
  | nil => simp [Rows.uptoBulkAll, lens_nil]
  | cons x xs ih => rw [List.map_cons, Rows.uptoBulkAll, Rows.uptoBulk, ih, List.length_cons, lens_cons]; omega
theorem bulk_text {d : DataW H} {xs : List (List UInt8)} (h : (d = .nil ∧ xs = []) ∨ ∃ sp, d = .slice (xs.map fun x => .lit (.string x)) sp) : xs.length + lens xs ≤ Rows.uptoBulk d := by
  rcases h with ⟨rfl, rfl⟩ | ⟨sp, rfl⟩
  · simp [lens_nil]
  · rw [Rows.uptoBulk, bulk_texts]; omega
theorem bulk_string (x : List UInt8) : Rows.uptoBulk (.lit (.string x) : DataW H) = x.length + 1 := by rw [Rows.uptoBulk]
theorem weights_all_mem {P : Program} {e : TypeId} (xs : List (List UInt8)) (x : List UInt8) (h : x ∈ xs) : x.length ∈ DataW.weightsAll P e (xs.map fun x => (.lit (.string x) : DataW H)) := by
  induction xs with
  | nil => cases h
  | cons y ys ih =>
    rw [List.map_cons, DataW.weightsAll, List.mem_append]
    rcases List.mem_cons.1 h with rfl | h
    · left; simp [DataW.weights]
    · right; exact ih h
theorem texts_sized {P : Program} {ts : List TypeId} {ds : List (DataW H)} (h : (DataW.weightsEach P ts ds).all (· ≤ reachBytes) = true) {j : Nat} {t e : TypeId} {d : DataW H} {xs : List (List UInt8)} (ht : ts[j]? = some t) (hd : ds[j]? = some d) (hu : P.underlying t = some (.slice e))
    (hx : (d = .nil ∧ xs = []) ∨ ∃ sp, d = .slice (xs.map fun x => .lit (.string x)) sp) : ∀ x ∈ xs, x.length ≤ 140737488351232 := by
  intro x hm
  rcases hx with ⟨_, rfl⟩ | ⟨sp, rfl⟩
  · cases hm
  · have := List.all_eq_true.1 h _ (DataW.weights_mem_each ht hd x.length (by
      simp only [DataW.weights, hu]
      exact List.mem_cons.2 (.inr (List.mem_append.2 (.inl (weights_all_mem xs x hm))))))
    have h2 : x.length ≤ reachBytes := by simpa using this
    exact h2
theorem lens_le (xs : List (List UInt8)) (b : Nat) (h : ∀ x ∈ xs, x.length ≤ b) : lens xs ≤ xs.length * b := by
  induction xs with
  | nil => simp [lens_nil]
  | cons y ys ih =>
    rw [lens_cons, List.length_cons, Nat.succ_mul]
    have := h y (List.mem_cons.2 (.inl rfl))
    have := ih (fun x hx => h x (List.mem_cons.2 (.inr hx)))
    omega
end
end Go.Proofs.Ytbkpnfejhaedhaa
