/-
  Sign's errors, by contract.
-/
import Derived.Test.YtjnbolafnhhigaaDoorSign
namespace Go.Proofs.YtjnbolafnhhigaaDoor
open Go.RowKit
set_option linter.unusedVariables false
set_option linter.unusedSimpArgs false

theorem S_empty : S [] = { data := #[] } := rfl
set_option maxHeartbeats 1000000 in
set_option maxRecDepth 100000 in
theorem sign_arg (s m : List UInt8) (h i : Int) (w : World) (hs : s.length ≤ 281474976710656) (hb : ¬ (s.length = 32 ∧ 0 ≤ h ∧ h ≤ 6)) :
    Calls Tryd.prog 14 #[.string (S s), .int .i64 h, .int .i64 i, .string (S m)] w fun e w' => e = .returned (.tuple #[.string (S []), .int .i64 1]) ∧ Below w.heap.size w w' := by
  have CV := hide (fun (W : World) => valid_any s h W hs)
  rw [decide_eq_false hb] at CV
  clear hs hb
  go_enter Tryd.func14, Tryd.ntmps14
  go_wp2_with (go_at_call 21; refine (CV.out _).mono ?_; rintro e w1 ⟨rfl, rfl⟩)
  go_ret2
  exact ⟨rfl, Below.refl _ _⟩
set_option maxHeartbeats 1000000 in
set_option maxRecDepth 100000 in
theorem sign_spent (s m : List UInt8) (h : Nat) (i : Int) (w : World) (hs : s.length = 32) (hh : h ≤ 6) (hb : ¬ (0 ≤ i ∧ i < ((2 ^ h : Nat) : Int))) :
    Calls Tryd.prog 14 #[.string (S s), .int .i64 (h : Int), .int .i64 i, .string (S m)] w fun e w' => e = .returned (.tuple #[.string (S []), .int .i64 27]) ∧ Below w.heap.size w w' := by
  have CV := hide (fun (W : World) => valid_any s h W (by omega))
  rw [decide_eq_true (by omega)] at CV
  have CW := hide (fun (W : World) => within_any i h W hh)
  rw [decide_eq_false hb] at CW
  clear hs hb
  go_enter Tryd.func14, Tryd.ntmps14
  go_wp2_with (first
    | (go_at_call 21; refine (CV.out _).mono ?_; rintro e w1 ⟨rfl, rfl⟩)
    | (go_at_call 25; refine (CW.out _).mono ?_; rintro e w1 ⟨rfl, rfl⟩))
  go_ret2
  exact ⟨rfl, Below.refl _ _⟩
set_option maxHeartbeats 1000000 in
set_option maxRecDepth 100000 in
theorem sign_long (s m : List UInt8) (h : Nat) (i : Int) (w : World) (hs : s.length = 32) (hh : h ≤ 6) (hb : 0 ≤ i ∧ i < ((2 ^ h : Nat) : Int)) (hm : 1048576 < m.length) :
    Calls Tryd.prog 14 #[.string (S s), .int .i64 (h : Int), .int .i64 i, .string (S m)] w fun e w' => e = .returned (.tuple #[.string (S []), .int .i64 4]) ∧ Below w.heap.size w w' := by
  have CV := hide (fun (W : World) => valid_any s h W (by omega))
  rw [decide_eq_true (by omega)] at CV
  have CW := hide (fun (W : World) => within_any i h W hh)
  rw [decide_eq_true hb] at CW
  have hml : (1048576 : Int) < (((S m).size : Nat) : Int) := by rw [S_size]; omega
  clear hs hb hm
  go_enter Tryd.func14, Tryd.ntmps14
  go_wp2_with (first
    | (go_at_call 21; refine (CV.out _).mono ?_; rintro e w1 ⟨rfl, rfl⟩)
    | (go_at_call 25; refine (CW.out _).mono ?_; rintro e w1 ⟨rfl, rfl⟩))
  go_ret2
  exact ⟨rfl, Below.refl _ _⟩
end Go.Proofs.YtjnbolafnhhigaaDoor
