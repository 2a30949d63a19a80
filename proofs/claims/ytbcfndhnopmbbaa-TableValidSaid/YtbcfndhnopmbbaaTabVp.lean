/-
  Tables, plainly: what valid is, by what is found wrong first.
-/
import Derived.Test.YtbcfndhnopmbbaaTabRr
namespace Go.Proofs.Ytbcfndhnopmbbaa
open Go.RowKit
set_option linter.unusedVariables false
set_option linter.unusedSimpArgs false
namespace Tb
def rulesN (t : Tab) (j : Nat) : List Rl := if j = 0 then t.r0 else t.r1
theorem rulesN_two {t : Tab} {j : Nat} (hj : j < 2) : (j = 0 ∧ rulesN t j = t.r0) ∨ (j = 1 ∧ rulesN t j = t.r1) := by
  have : j = 0 ∨ j = 1 := by omega
  rcases this with h | h
  · exact .inl ⟨h, by rw [h]; rfl⟩
  · exact .inr ⟨h, by rw [h]; rfl⟩
theorem valid_limit (t : Tab) (j : Nat) (hj : j < 2) (h : 96 < (rulesN t j).length) : valid t = 4 := by
  unfold valid
  rcases rulesN_two (t := t) hj with ⟨_, e⟩ | ⟨_, e⟩
  · rw [e] at h; rw [if_pos (.inl h)]
  · rw [e] at h; rw [if_pos (.inr h)]
theorem valid_wrong (t : Tab) (h0 : t.r0.length ≤ 96) (h1 : t.r1.length ≤ 96) (h : proper t = false) : valid t = 1 := by
  unfold valid
  rw [if_neg (by omega), if_pos h]
theorem proper_rule (t : Tab) (j : Nat) (hj : j < 2) (h : (rulesN t j).all right = false) : proper t = false := by
  unfold proper
  rcases rulesN_two (t := t) hj with ⟨_, e⟩ | ⟨_, e⟩
  · rw [e] at h; rw [h]; simp
  · rw [e] at h; rw [h]; simp
theorem valid_twice (t : Tab) (h0 : t.r0.length ≤ 96) (h1 : t.r1.length ≤ 96) (hp : proper t = true) (j : Nat) (hj : j < 2) (h : lone (rulesN t j) = false) : valid t = 7 := by
  unfold valid
  rw [if_neg (by omega), if_neg (by rw [hp]; simp)]
  rcases rulesN_two (t := t) hj with ⟨_, e⟩ | ⟨_, e⟩
  · rw [e] at h; rw [if_pos (.inl h)]
  · rw [e] at h; rw [if_pos (.inr h)]
theorem valid_none (t : Tab) (h0 : t.r0.length ≤ 96) (h1 : t.r1.length ≤ 96) (hp : proper t = true) (l0 : lone t.r0 = true) (l1 : lone t.r1 = true) (j : Nat) (hj : j < 2) (h : owns (rulesN t j) = false) : valid t = 6 := by
  unfold valid
  rw [if_neg (by omega), if_neg (by rw [hp]; simp), if_neg (by rw [l0, l1]; simp)]
  rcases rulesN_two (t := t) hj with ⟨_, e⟩ | ⟨_, e⟩
  · rw [e] at h; rw [if_pos (.inl h)]
  · rw [e] at h; rw [if_pos (.inr h)]
theorem valid_fine (t : Tab) (h0 : t.r0.length ≤ 96) (h1 : t.r1.length ≤ 96) (hp : proper t = true) (l0 : lone t.r0 = true) (l1 : lone t.r1 = true) (o0 : owns t.r0 = true) (o1 : owns t.r1 = true) : valid t = 0 := by
  unfold valid
  rw [if_neg (by omega), if_neg (by rw [hp]; simp), if_neg (by rw [l0, l1]; simp), if_neg (by rw [o0, o1]; simp)]
theorem lone_dup (rs : List Rl) (i j : Nat) (hi : i < rs.length) (hji : j < i) (h : key (rs[i]'hi) = key (rs[j]'(by omega))) : lone rs = false := by
  unfold lone
  refine decide_eq_false fun hn => ?_
  have hp := List.nodup_iff_pairwise_ne.1 hn
  have h1 := List.pairwise_iff_getElem.1 hp j i (by rw [List.length_map]; omega) (by rw [List.length_map]; omega) hji
  rw [List.getElem_map, List.getElem_map] at h1
  exact h1 h.symm
theorem nodup_take (rs : List Rl) (i : Nat) (hi : i < rs.length) (h : ((rs.take i).map key).Nodup) (hn : key (rs[i]'hi) ∉ (rs.take i).map key) : ((rs.take (i + 1)).map key).Nodup := by
  rw [List.take_succ_eq_append_getElem hi, List.map_append, List.map_singleton]
  rw [List.nodup_append]
  refine ⟨h, by simp, fun a ha b hb => ?_⟩
  rw [List.mem_singleton] at hb
  subst hb
  exact fun e => hn (e ▸ ha)
theorem owns_stop (rs : List Rl) (i : Nat) (hi : i < 26) (h : ownsC rs (UInt8.ofNat (97 + i)) = false) : owns rs = false := by
  cases h1 : owns rs with
  | false => rfl
  | true =>
    unfold owns at h1
    rw [List.all_eq_true] at h1
    have := h1 i (List.mem_range.2 hi)
    rw [h] at this
    cases this
theorem owns_full (rs : List Rl) (h : ∀ i, i < 26 → ownsC rs (UInt8.ofNat (97 + i)) = true) : owns rs = true := by
  unfold owns
  rw [List.all_eq_true]
  exact fun i hi => h i (List.mem_range.1 hi)
end Tb
end Go.Proofs.Ytbcfndhnopmbbaa
