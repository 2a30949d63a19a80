/-
  possible, valid, within, by contract.
-/
import Derived.Test.YtjnbolafnhhigaaDoorTree
namespace Go.Proofs.YtjnbolafnhhigaaDoor
open Go.RowKit
set_option linter.unusedVariables false
set_option linter.unusedSimpArgs false

set_option maxHeartbeats 400000 in
set_option maxRecDepth 100000 in
theorem possible_any (h : Int) (w : World) :
    Calls Tryd.prog 35 #[.int .i64 h] w fun e w' => e = .returned (.bool (decide (0 ≤ h ∧ h ≤ 6))) ∧ w = w' := by
  rcases Int.lt_or_le h 0 with h0 | h0
  · rw [decide_eq_false (by omega)]
    go_enter Tryd.func35, Tryd.ntmps35
    go_wp2
    go_ret
    exact ⟨rfl, rfl⟩
  · go_enter Tryd.func35, Tryd.ntmps35
    go_wp2
    go_ret
    exact ⟨by show Ending.returned (Value.bool (decide (h ≤ 6))) = _; simp [h0], rfl⟩
set_option maxHeartbeats 400000 in
set_option maxRecDepth 100000 in
theorem valid_any (s : List UInt8) (h : Int) (w : World) (hs : s.length ≤ 281474976710656) :
    Calls Tryd.prog 21 #[.string (S s), .int .i64 h] w fun e w' => e = .returned (.bool (decide (s.length = 32 ∧ 0 ≤ h ∧ h ≤ 6))) ∧ w = w' := by
  have CP := hide (possible_any h w)
  have hsz : (S s).size = s.length := rfl
  by_cases h32 : s.length = 32
  · have hd : decide (s.length = 32 ∧ 0 ≤ h ∧ h ≤ 6) = decide (0 ≤ h ∧ h ≤ 6) := by simp [h32]
    rw [hd]
    have hlen : (S s).size = 32 := h32
    clear hsz h32 hd hs
    go_enter Tryd.func21, Tryd.ntmps21
    go_wp2_with (go_at_call 35; refine (unhide CP).mono ?_; rintro e w1 ⟨rfl, rfl⟩)
    go_ret
    exact ⟨by first | rfl | (show Ending.returned (Value.bool (decide (0 ≤ h) && decide (h ≤ 6))) = _; simp), rfl⟩
  · rw [decide_eq_false (by omega)]
    have hlen : ¬ ((((S s).size : Nat) : Int) = 32) := by rw [hsz]; omega
    clear hsz h32 hs
    go_enter Tryd.func21, Tryd.ntmps21
    go_wp2
    go_ret
    exact ⟨rfl, rfl⟩
set_option maxHeartbeats 400000 in
set_option maxRecDepth 100000 in
theorem within_any (i : Int) (h : Nat) (w : World) (hh : h ≤ 6) :
    Calls Tryd.prog 25 #[.int .i64 i, .int .i64 (h : Int)] w fun e w' => e = .returned (.bool (decide (0 ≤ i ∧ i < ((2 ^ h : Nat) : Int)))) ∧ w = w' := by
  have hl0 : (0 : Int) ≤ (h : Int) := by omega
  have hl6 : (h : Int) ≤ 6 := by omega
  rcases Int.lt_or_le i 0 with h0 | h0
  · rw [decide_eq_false (by omega)]
    go_enter Tryd.func25, Tryd.ntmps25
    go_wp2
    go_ret
    exact ⟨rfl, rfl⟩
  · go_enter Tryd.func25, Tryd.ntmps25
    go_wp2
    go_ret
    have hw : wrap64 (2 ^ h) = ((2 ^ h : Nat) : Int) := by
      have H : ∀ h : Fin 7, wrap64 (2 ^ h.val) = ((2 ^ h.val : Nat) : Int) := by decide +kernel
      exact H ⟨h, by omega⟩
    exact ⟨by show Ending.returned (Value.bool (decide (i < wrap64 (2 ^ h)))) = _; rw [hw]; simp [h0], rfl⟩
end Go.Proofs.YtjnbolafnhhigaaDoor
