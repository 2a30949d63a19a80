/-
  few by its contract: whether the strings have at most 2000 bytes and elements in all.
-/
import Derived.Test.YtbkpnfejhaedhaaLaw
import Derived.Test.YtbkpnfejhaedhaaPure2
namespace Go.Proofs.Ytbkpnfejhaedhaa
open Go.RowKit
set_option linter.unusedVariables false
set_option linter.unusedSimpArgs false

/-- the lengths of strings in all -/
def lens (xs : List (List UInt8)) : Nat := (xs.map List.length).sum
theorem lens_nil : lens [] = 0 := rfl
theorem lens_cons (x : List UInt8) (xs : List (List UInt8)) : lens (x :: xs) = x.length + lens xs := by simp [lens]
theorem lens_append (a b : List (List UInt8)) : lens (a ++ b) = lens a + lens b := by simp [lens]
theorem lens_take (xs : List (List UInt8)) (k : Nat) (h : k < xs.length) : lens (xs.take (k + 1)) = lens (xs.take k) + xs[k].length := by
  rw [List.take_succ_eq_append_getElem h, lens_append, lens_cons, lens_nil]; omega
theorem lens_take_le (xs : List (List UInt8)) (k : Nat) : lens (xs.take k) ≤ lens xs := by
  have h : lens xs = lens (xs.take k) + lens (xs.drop k) := by rw [← lens_append, List.take_append_drop]
  omega

set_option maxHeartbeats 400000 in
set_option maxRecDepth 100000 in
theorem few_any (A : Option Addr) (n c : Nat) (xs : List (List UInt8)) (w : World) (hr : Reads w w.heap.size 1 A n (xs.map VS)) (hs : n + lens xs ≤ 4611686018427387904) :
    Calls Try.prog 11 #[.slice A n c] w fun e w' => e = .returned (.bool (decide (n + lens xs ≤ 2000))) ∧ w = w' := by
  have hl : n = xs.length := by have := hr.1; simpa using this.symm
  have HA := hide hr
  have HL := hide hl
  clear hr hl
  go_enter Try.func11, Try.ntmps11
  go_wp2
  go_loopw [3, 10] (fun t i wr => ∃ k : Nat, k ≤ n ∧ t = .int .i64 ((n + lens (xs.take k) : Nat) : Int) ∧ i = .int .i64 (k : Int) ∧ wr = w) (fun t i _ => n - (intOf i).toNat)
  case atStart => exact ⟨0, Nat.zero_le _, by simp [lens_nil], rfl, rfl⟩
  case round =>
    obtain ⟨k, hk, rfl, rfl, hwr⟩ := hrel
    subst hwr
    by_cases hlt : k < n
    · obtain ⟨ad, hA, hkl, hca⟩ := reads_item HA.out k hlt
      subst hA
      have hkx : k < xs.length := by have := HL.out; omega
      have hca' : wr.cell? (ad.add k) = some (.string (S xs[k])) := by rw [hca]; simp [VS]
      have hsz : (S xs[k]).size = xs[k].length := rfl
      have hst := lens_take xs k hkx
      have hle := lens_take_le xs (k + 1)
      clear hca
      have hk1 : lens (xs.take k) ≤ lens xs := lens_take_le xs k
      generalize S xs[k] = sk at *
      generalize lens (xs.take k) = b at *
      have hsmall : n + b + sk.size ≤ 4611686018427387904 := by omega
      have HST := hide hst
      have hsz' := hide hsz
      clear hsz hst hle
      go_wp2
      go_roundw
      case rel => exact ⟨k + 1, by omega, by congr 1; have := HST.out; have := hsz'.out; omega, by go_num, trivial⟩
      case measure => simp [intOf]; omega
    · obtain rfl : k = n := by omega
      have hall : xs.take k = xs := List.take_of_length_le (by have := HL.out; omega)
      rw [hall]
      go_wp2
      go_ret
      exact ⟨by simp; omega, rfl⟩
end Go.Proofs.Ytbkpnfejhaedhaa
