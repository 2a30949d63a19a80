/-
  Words of 32 bits as values; rotations by their contracts.
-/
import Derived.Test.YtjnbolafnhhigaaDoorBase
import Derived.Test.YtjnbolafnhhigaaDoorSha
namespace Go.Proofs.YtjnbolafnhhigaaDoor
open Go.RowKit
set_option linter.unusedVariables false
set_option linter.unusedSimpArgs false

/-- a word as a value -/
abbrev U (x : UInt32) : Value := .int .u32 (x.toNat : Int)

theorem U_xor (a b : UInt32) : bits .xor .u32 (a.toNat : Int) (b.toNat : Int) = ((a ^^^ b).toNat : Int) := by rw [u32_xor_nat _ _ a.toNat_lt b.toNat_lt, UInt32.toNat_xor]
theorem U_and (a b : UInt32) : bits .and .u32 (a.toNat : Int) (b.toNat : Int) = ((a &&& b).toNat : Int) := by rw [u32_and_nat _ _ a.toNat_lt b.toNat_lt, UInt32.toNat_and]
theorem U_or (a b : UInt32) : bits .or .u32 (a.toNat : Int) (b.toNat : Int) = ((a ||| b).toNat : Int) := by rw [u32_or_nat _ _ a.toNat_lt b.toNat_lt, UInt32.toNat_or]
theorem U_add (a b : UInt32) : ((a.toNat : Int) + (b.toNat : Int)) % 4294967296 = ((a + b).toNat : Int) := by
  rw [UInt32.toNat_add]; omega
theorem U_addw (a b : UInt32) : IntKind.u32.wrap ((a.toNat : Int) + (b.toNat : Int)) = ((a + b).toNat : Int) := by
  rw [IntKind.wrap_u32', U_add]
theorem U_shr (x : UInt32) (k : Nat) (h : k < 32) : (x.toNat : Int) / 2 ^ k = ((x >>> UInt32.ofNat k).toNat : Int) := by
  rw [UInt32.toNat_shiftRight, UInt32.toNat_ofNat', Nat.mod_eq_of_lt (show k < 2 ^ 32 by omega), Nat.mod_eq_of_lt h, Nat.shiftRight_eq_div_pow]
  simp
theorem U_shl (x : UInt32) (k : Nat) (h : k < 32) : (x.toNat : Int) * 2 ^ k % 4294967296 = ((x <<< UInt32.ofNat k).toNat : Int) := by
  rw [UInt32.toNat_shiftLeft, UInt32.toNat_ofNat', Nat.mod_eq_of_lt (show k < 2 ^ 32 by omega), Nat.mod_eq_of_lt h, Nat.shiftLeft_eq]
  simp

theorem rot_count (n s : Nat) (h1 : 1 ≤ n) (h2 : n ≤ 31) (hs : s = 32 - n) : bits .and .u64 (IntKind.u64.wrap (-(n : Int))) 31 = (s : Int) := by
  subst hs
  have H : ∀ k : Fin 32, 1 ≤ k.val → bits .and .u64 (IntKind.u64.wrap (-(k.val : Int))) 31 = ((32 - k.val : Nat) : Int) := by decide +kernel
  exact H ⟨n, by omega⟩ h1
theorem rot_is (x : UInt32) (n s : Nat) (h1 : 1 ≤ n) (h2 : n ≤ 31) (hs : s = 32 - n) :
    bits .or .u32 ((x.toNat : Int) * 2 ^ s % 4294967296) ((x.toNat : Int) / 2 ^ (32 - s)) = ((Sha.rotr x (UInt32.ofNat n)).toNat : Int) := by
  rw [U_shl x s (by omega), show 32 - s = n by omega, U_shr x n (by omega), U_or]
  unfold Sha.rotr
  rw [show (32 : UInt32) - UInt32.ofNat n = UInt32.ofNat s from by
    subst hs
    have H : ∀ k : Fin 32, (32 : UInt32) - UInt32.ofNat k.val = UInt32.ofNat (32 - k.val) := by decide +kernel
    exact H ⟨n, by omega⟩, UInt32.or_comm]

set_option maxHeartbeats 400000 in
set_option maxRecDepth 100000 in
theorem rotl_any (x : UInt32) (n s : Nat) (w : World) (h1 : 1 ≤ n) (h2 : n ≤ 31) (hs : s = 32 - n) :
    Calls Tryd.prog 74 #[U x, .int .i64 (-(n : Int))] w fun e w' => e = .returned (U (Sha.rotr x (UInt32.ofNat n))) ∧ w = w' := by
  have hx := x.toNat_lt
  have hc := rot_count n s h1 h2 hs
  have hs1 : 1 ≤ s := by omega
  have hs2 : s ≤ 31 := by omega
  have HS := hide (rot_is x n s h1 h2 hs)
  clear hs
  go_enter Tryd.func74, Tryd.ntmps74
  go_wp2
  go_ret
  exact ⟨by show Ending.returned (.int .u32 _) = _; rw [HS.out], rfl⟩

set_option maxHeartbeats 400000 in
set_option maxRecDepth 100000 in
/-- the rotation of package hash -/
theorem rotr_any (x : UInt32) (n : Nat) (w : World) (h1 : 1 ≤ n) (h2 : n ≤ 31) :
    Calls Tryd.prog 73 #[U x, .int .i64 (n : Int)] w fun e w' => e = .returned (U (Sha.rotr x (UInt32.ofNat n))) ∧ w = w' := by
  have H := hide (rotl_any x n (32 - n) w h1 h2 rfl)
  go_enter Tryd.func73, Tryd.ntmps73
  go_wp2_with (go_at_call 74; refine (unhide H).mono ?_; rintro e w' ⟨rfl, rfl⟩)
  go_ret
  exact ⟨rfl, rfl⟩

set_option maxHeartbeats 400000 in
set_option maxRecDepth 100000 in
/-- the rotation of the reference -/
theorem refRotr_any (x : UInt32) (n : Nat) (w : World) (h1 : 1 ≤ n) (h2 : n ≤ 31) :
    Calls Tryd.prog 70 #[U x, .int .i64 (n : Int)] w fun e w' => e = .returned (U (Sha.rotr x (UInt32.ofNat n))) ∧ ∃ k, w' = w.drewN k := by
  have hx := x.toNat_lt
  have g1 : (0 : Int) ≤ (n : Int) := by omega
  have g2 : (n : Int) ≤ 31 := by omega
  have g3 : (0 : Int) ≤ 32 - (n : Int) := by omega
  go_enter Tryd.func70, Tryd.ntmps70
  go_wp2
  have g4 : IntKind.i64.wrap (32 - (n : Int)) = 32 - (n : Int) := IntWalk.i64_in _ (by omega)
  go_quiet (fail)
  clear g4
  go_wp2
  go_ret
  refine ⟨?_, _, rfl⟩
  show Ending.returned (.int .u32 _) = _
  rw [U_shl x (32 - n) (by omega), U_shr x n (by omega), U_or]
  unfold Sha.rotr
  rw [show (32 : UInt32) - UInt32.ofNat n = UInt32.ofNat (32 - n) from by
    have H : ∀ k : Fin 32, (32 : UInt32) - UInt32.ofNat k.val = UInt32.ofNat (32 - k.val) := by decide +kernel
    exact H ⟨n, by omega⟩]
theorem rotr_2 (x : UInt32) (w : World) : Calls Tryd.prog 73 #[U x, .int .i64 2] w fun e w' => e = .returned (U (Sha.rotr x 2)) ∧ w = w' := rotr_any x 2 w (by omega) (by omega)
theorem refRotr_2 (x : UInt32) (w : World) : Calls Tryd.prog 70 #[U x, .int .i64 2] w fun e w' => e = .returned (U (Sha.rotr x 2)) ∧ ∃ k, w' = w.drewN k := refRotr_any x 2 w (by omega) (by omega)
theorem rotr_6 (x : UInt32) (w : World) : Calls Tryd.prog 73 #[U x, .int .i64 6] w fun e w' => e = .returned (U (Sha.rotr x 6)) ∧ w = w' := rotr_any x 6 w (by omega) (by omega)
theorem refRotr_6 (x : UInt32) (w : World) : Calls Tryd.prog 70 #[U x, .int .i64 6] w fun e w' => e = .returned (U (Sha.rotr x 6)) ∧ ∃ k, w' = w.drewN k := refRotr_any x 6 w (by omega) (by omega)
theorem rotr_7 (x : UInt32) (w : World) : Calls Tryd.prog 73 #[U x, .int .i64 7] w fun e w' => e = .returned (U (Sha.rotr x 7)) ∧ w = w' := rotr_any x 7 w (by omega) (by omega)
theorem refRotr_7 (x : UInt32) (w : World) : Calls Tryd.prog 70 #[U x, .int .i64 7] w fun e w' => e = .returned (U (Sha.rotr x 7)) ∧ ∃ k, w' = w.drewN k := refRotr_any x 7 w (by omega) (by omega)
theorem rotr_11 (x : UInt32) (w : World) : Calls Tryd.prog 73 #[U x, .int .i64 11] w fun e w' => e = .returned (U (Sha.rotr x 11)) ∧ w = w' := rotr_any x 11 w (by omega) (by omega)
theorem refRotr_11 (x : UInt32) (w : World) : Calls Tryd.prog 70 #[U x, .int .i64 11] w fun e w' => e = .returned (U (Sha.rotr x 11)) ∧ ∃ k, w' = w.drewN k := refRotr_any x 11 w (by omega) (by omega)
theorem rotr_13 (x : UInt32) (w : World) : Calls Tryd.prog 73 #[U x, .int .i64 13] w fun e w' => e = .returned (U (Sha.rotr x 13)) ∧ w = w' := rotr_any x 13 w (by omega) (by omega)
theorem refRotr_13 (x : UInt32) (w : World) : Calls Tryd.prog 70 #[U x, .int .i64 13] w fun e w' => e = .returned (U (Sha.rotr x 13)) ∧ ∃ k, w' = w.drewN k := refRotr_any x 13 w (by omega) (by omega)
theorem rotr_17 (x : UInt32) (w : World) : Calls Tryd.prog 73 #[U x, .int .i64 17] w fun e w' => e = .returned (U (Sha.rotr x 17)) ∧ w = w' := rotr_any x 17 w (by omega) (by omega)
theorem refRotr_17 (x : UInt32) (w : World) : Calls Tryd.prog 70 #[U x, .int .i64 17] w fun e w' => e = .returned (U (Sha.rotr x 17)) ∧ ∃ k, w' = w.drewN k := refRotr_any x 17 w (by omega) (by omega)
theorem rotr_18 (x : UInt32) (w : World) : Calls Tryd.prog 73 #[U x, .int .i64 18] w fun e w' => e = .returned (U (Sha.rotr x 18)) ∧ w = w' := rotr_any x 18 w (by omega) (by omega)
theorem refRotr_18 (x : UInt32) (w : World) : Calls Tryd.prog 70 #[U x, .int .i64 18] w fun e w' => e = .returned (U (Sha.rotr x 18)) ∧ ∃ k, w' = w.drewN k := refRotr_any x 18 w (by omega) (by omega)
theorem rotr_19 (x : UInt32) (w : World) : Calls Tryd.prog 73 #[U x, .int .i64 19] w fun e w' => e = .returned (U (Sha.rotr x 19)) ∧ w = w' := rotr_any x 19 w (by omega) (by omega)
theorem refRotr_19 (x : UInt32) (w : World) : Calls Tryd.prog 70 #[U x, .int .i64 19] w fun e w' => e = .returned (U (Sha.rotr x 19)) ∧ ∃ k, w' = w.drewN k := refRotr_any x 19 w (by omega) (by omega)
theorem rotr_22 (x : UInt32) (w : World) : Calls Tryd.prog 73 #[U x, .int .i64 22] w fun e w' => e = .returned (U (Sha.rotr x 22)) ∧ w = w' := rotr_any x 22 w (by omega) (by omega)
theorem refRotr_22 (x : UInt32) (w : World) : Calls Tryd.prog 70 #[U x, .int .i64 22] w fun e w' => e = .returned (U (Sha.rotr x 22)) ∧ ∃ k, w' = w.drewN k := refRotr_any x 22 w (by omega) (by omega)
theorem rotr_25 (x : UInt32) (w : World) : Calls Tryd.prog 73 #[U x, .int .i64 25] w fun e w' => e = .returned (U (Sha.rotr x 25)) ∧ w = w' := rotr_any x 25 w (by omega) (by omega)
theorem refRotr_25 (x : UInt32) (w : World) : Calls Tryd.prog 70 #[U x, .int .i64 25] w fun e w' => e = .returned (U (Sha.rotr x 25)) ∧ ∃ k, w' = w.drewN k := refRotr_any x 25 w (by omega) (by omega)
end Go.Proofs.YtjnbolafnhhigaaDoor
