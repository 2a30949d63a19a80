/-
  What the decoders answer, as WireCanonical asks it; and its closure by its contract.
-/
import Derived.Test.YtbkpnfejhaedhaaLaw
import Derived.Test.YtbkpnfejhaedhaaPure2
namespace Go.Proofs.Ytbkpnfejhaedhaa
open Go.RowKit
set_option linter.unusedVariables false
set_option linter.unusedSimpArgs false

namespace Wr
theorem factI (l : List UInt8) : inI (decI l).1 ∧ ((decI l).2.2 ≠ 0 ∨ ((decI l).2.1 ≤ l.length ∧ enc (decI l).1 = l.take (decI l).2.1)) := by
  by_cases h : (decI l).2.2 = 0
  · obtain ⟨h1, h2, h3⟩ := codecInt.canon l h
    exact ⟨h1, .inr ⟨h2, h3.symm⟩⟩
  · refine ⟨?_, .inl h⟩
    rw [decI_err h]
    show inI 0
    unfold inI
    omega
theorem factB (l : List UInt8) : (decB l).1.length ≤ l.length ∧ ((decB l).2.2 ≠ 0 ∨ ((decB l).2.1 ≤ l.length ∧ enc ((decB l).1.length : Int) ++ (decB l).1 = l.take (decB l).2.1)) := by
  by_cases h : (decB l).2.2 = 0
  · obtain ⟨h1, h2, h3⟩ := codecBytes.canon l h
    have hl := congrArg List.length h3
    rw [List.length_take, encB_len] at hl
    exact ⟨by omega, .inr ⟨h2, h3.symm⟩⟩
  · refine ⟨?_, .inl h⟩
    unfold decB at h ⊢
    by_cases h1 : (decLen 1 l).2.2 = 0
    · rw [if_neg (by simpa using h1)] at h; exact absurd rfl h
    · rw [if_pos (by simpa using h1)]; simp
theorem list_err {α : Type} (size : Nat) (get : List UInt8 → α × Nat × Int) (l : List UInt8) (h : (decList size get l).2.2 ≠ 0) : (decList size get l).1 = [] := by
  unfold decList at h ⊢
  by_cases h1 : (decLen size l).2.2 = 0
  · rw [if_neg (by simpa using h1)] at h ⊢
    unfold comb at h ⊢
    by_cases h2 : (decLoop get (decLen size l).1.toNat (l.drop (decLen size l).2.1)).2.2 = 0
    · rw [if_neg (by simpa using h2)] at h; exact absurd rfl h
    · rw [if_pos (by simpa using h2)]
  · rw [if_pos (by simpa using h1)]
theorem factL {α : Type} {get : List UInt8 → α × Nat × Int} {e : α → List UInt8} {ok : α → Prop} (C : Codec 1 get e ok) (l : List UInt8) :
    (∀ x ∈ (decList 1 get l).1, ok x) ∧ (encL e (decList 1 get l).1).length ≤ l.length ∧ (decList 1 get l).1.length ≤ l.length ∧
      ((decList 1 get l).2.2 ≠ 0 ∨ ((decList 1 get l).2.1 ≤ l.length ∧ enc ((decList 1 get l).1.length : Int) ++ encL e (decList 1 get l).1 = l.take (decList 1 get l).2.1)) := by
  by_cases h : (decList 1 get l).2.2 = 0
  · obtain ⟨h1, h2, h3⟩ := list_canon C.canon (by omega) l h
    have hl := congrArg List.length h3
    rw [List.length_take, List.length_append] at hl
    have hle := encL_least C.least _ h1
    exact ⟨h1, by omega, by omega, .inr ⟨h2, h3.symm⟩⟩
  · have h0 := list_err 1 get l h
    rw [h0]
    exact ⟨by simp, by simp [encL_nil], by simp, .inl h⟩
theorem factD (l : List UInt8) :
    (∀ x ∈ (decList 16 decD l).1, x.length = 16) ∧ (decList 16 decD l).1.length ≤ l.length ∧
      ((decList 16 decD l).2.2 ≠ 0 ∨ ((decList 16 decD l).2.1 ≤ l.length ∧ enc ((decList 16 decD l).1.length : Int) ++ (decList 16 decD l).1.flatten = l.take (decList 16 decD l).2.1)) := by
  by_cases h : (decList 16 decD l).2.2 = 0
  · obtain ⟨h1, h2, h3⟩ := digests_canon l h
    rw [flat_encL] at h3
    have hl := congrArg List.length h3
    rw [List.length_take, List.length_append, flat_len _ h1] at hl
    exact ⟨h1, by omega, .inr ⟨h2, h3.symm⟩⟩
  · have h0 := list_err 16 decD l h
    rw [h0]
    exact ⟨by simp, by simp, .inl h⟩
end Wr

theorem BV_get' (l : List UInt8) (k : Nat) (h : k < (BV l).length) : (BV l)[k] = .int .u8 (((l.getD k 0).toNat : Int)) := by
  have hk : k < l.length := by rw [BV_len] at h; exact h
  simp [BV, List.getD, hk]
set_option maxHeartbeats 400000 in
set_option maxRecDepth 100000 in
/-- the closure of WireCanonical: an error, or the consumed bytes are those -/
theorem is_any (pb : Nat) (A Am : Option Addr) (n c m d u : Nat) (er : Int) (l cl : List UInt8) (w : World) (hc : w.cell? ⟨pb, 0, none⟩ = some (.slice A n c)) (hr : Reads w w.heap.size 1 A n (BV l)) (hnc : n ≤ c) (hn : n ≤ 2000)
    (hm : Reads w w.heap.size 1 Am m (BV cl)) (h : er ≠ 0 ∨ (u ≤ l.length ∧ cl = l.take u)) :
    Calls Try.prog 37 #[.slice Am m d, .int .i64 (u : Int), .int .i64 er, .pointer (some ⟨pb, 0, none⟩)] w fun e w' => e = .returned (.bool true) ∧ ∃ k, w' = w.drewN k := by
  have hl : n = l.length := by have := hr.1; rw [BV_len] at this; omega
  by_cases he : er = 0
  · subst he
    obtain ⟨hu, rfl⟩ := h.resolve_left (fun h => h rfl)
    have hmu : m = u := by have := hm.1; rw [BV_len, List.length_take] at this; omega
    subst hmu
    rw [← hl] at hu
    have hmin : min (m : Int) (n : Int) = (m : Int) := by omega
    have HX := hide (BV_get' (l.take m))
    have HM := hide hm
    have hcutA : ∀ ad, A = some ad → Reads w w.heap.size 1 (some ad) m (BV (l.take m)) := fun ad e => by
      subst e
      have := reads_sub hr 0 m (by omega)
      simpa [Addr.add] using this
    have hnil : A = none → m = 0 ∧ n = 0 := fun e => by
      rcases Nat.eq_zero_or_pos n with h0 | h0
      · omega
      · obtain ⟨_, h1, _⟩ := hr.2 h0
        rw [e] at h1; cases h1
    clear hm h hl hr
    rcases Nat.eq_zero_or_pos m with hm0 | hm0
    · subst hm0
      rcases A with _ | ad
      · obtain ⟨_, rfl⟩ := hnil rfl
        have hN : Reads w w.heap.size 1 none 0 (BV (l.take 0)) := Reads.none_
        have hcut := hide hN
        clear hnil hcutA hN
        go_enter Try.func37, Try.ntmps37
        go_wp2_with (go_at_call 13; refine (same_eq Am none 0 d c _ _ w HX.out HM.out hcut.out (by unfold maxLen; omega)).mono ?_; rintro e w8 ⟨rfl, k8, hk8⟩; subst hk8)
        go_ret
        exact ⟨rfl, _, rfl⟩
      · have hcut := hide (hcutA ad rfl)
        clear hnil hcutA
        go_enter Try.func37, Try.ntmps37
        go_wp2_with (go_at_call 13; refine (same_eq Am (some ad) 0 d c _ _ w HX.out HM.out hcut.out (by unfold maxLen; omega)).mono ?_; rintro e w8 ⟨rfl, k8, hk8⟩; subst hk8)
        go_ret
        exact ⟨rfl, _, rfl⟩
    · rcases A with _ | ad
      · have := hnil rfl; omega
      · have hcut := hide (hcutA ad rfl)
        clear hnil hcutA
        go_enter Try.func37, Try.ntmps37
        go_wp2_with (go_at_call 13; refine (same_eq Am (some ad) m d c _ _ w HX.out HM.out hcut.out (by unfold maxLen; omega)).mono ?_; rintro e w8 ⟨rfl, k8, hk8⟩; subst hk8)
        go_ret
        exact ⟨rfl, _, rfl⟩
  · have hb : (er != 0) = true := by rw [bne_iff_ne]; exact he
    clear hr hm h hl hn
    go_enter Try.func37, Try.ntmps37
    go_wp2
    go_ret
    exact ⟨rfl, 0, rfl⟩
end Go.Proofs.Ytbkpnfejhaedhaa
