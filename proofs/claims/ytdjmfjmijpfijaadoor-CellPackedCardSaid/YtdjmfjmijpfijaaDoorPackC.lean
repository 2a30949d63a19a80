/-
  Cells: the plain function that Pack computes; possible, and the function literal of Pack, by contract.
-/
import Derived.Test.YtdjmfjmijpfijaaDoorTextC
import Derived.Deep.RegionHeld3
namespace Go.Proofs.YtdjmfjmijpfijaaDoor
open Go.RowKit
set_option linter.unusedVariables false
set_option linter.unusedSimpArgs false
namespace Ce
/-- the cell whose dots are given by a function -/
def cellOf (f : Nat → Bool) : Nat := (if f 0 then 1 else 0) + (if f 1 then 2 else 0) + (if f 2 then 4 else 0) + (if f 3 then 8 else 0) + (if f 4 then 16 else 0) + (if f 5 then 32 else 0)
set_option maxRecDepth 100000 in
theorem cellOf_lt (f : Nat → Bool) : cellOf f < 64 := by
  unfold cellOf
  generalize f 0 = b0
  generalize f 1 = b1
  generalize f 2 = b2
  generalize f 3 = b3
  generalize f 4 = b4
  generalize f 5 = b5
  revert b0 b1 b2 b3 b4 b5
  decide +kernel
theorem cellOf_congr {f g : Nat → Bool} (h : ∀ k, k < 6 → f k = g k) : cellOf f = cellOf g := by
  unfold cellOf
  rw [h 0 (by omega), h 1 (by omega), h 2 (by omega), h 3 (by omega), h 4 (by omega), h 5 (by omega)]
set_option maxRecDepth 100000 in
theorem on_cellOf (f : Nat → Bool) (d : Nat) (hd : d < 6) : on (cellOf f) d = f d := by
  obtain rfl | rfl | rfl | rfl | rfl | rfl : d = 0 ∨ d = 1 ∨ d = 2 ∨ d = 3 ∨ d = 4 ∨ d = 5 := by omega
  all_goals
    unfold on cellOf
    generalize f 0 = b0
    generalize f 1 = b1
    generalize f 2 = b2
    generalize f 3 = b3
    generalize f 4 = b4
    generalize f 5 = b5
    revert b0 b1 b2 b3 b4 b5
    decide +kernel
set_option maxRecDepth 100000 in
theorem cellOf_or {f g : Nat → Bool} (d : Nat) (hd : d < 6) (h : ∀ k, k < 6 → g k = (f k || decide (k = d))) : cellOf f ||| 2 ^ d = cellOf g := by
  unfold cellOf
  rw [h 0 (by omega), h 1 (by omega), h 2 (by omega), h 3 (by omega), h 4 (by omega), h 5 (by omega)]
  generalize f 0 = b0
  generalize f 1 = b1
  generalize f 2 = b2
  generalize f 3 = b3
  generalize f 4 = b4
  generalize f 5 = b5
  obtain rfl | rfl | rfl | rfl | rfl | rfl : d = 0 ∨ d = 1 ∨ d = 2 ∨ d = 3 ∨ d = 4 ∨ d = 5 := by omega
  all_goals
    revert b0 b1 b2 b3 b4 b5
    decide +kernel

/-- the dot in a column of a row, as far as the first k bits tell -/
def bitTo (W H : Nat) (bits : List Bool) (k x y : Nat) : Bool := decide (x < W) && decide (y < H) && decide (y * W + x < k) && bits.getD (y * W + x) false
def packTo (W H : Nat) (bits : List Bool) (k i j : Nat) : Nat := cellOf fun d => bitTo W H bits k (2 * j + d / 3) (3 * i + d % 3)
def rowTo (W H : Nat) (bits : List Bool) (k i : Nat) : List UInt8 := (List.range ((W + 1) / 2)).map fun j => UInt8.ofNat (packTo W H bits k i j)
def pack (W H : Nat) (bits : List Bool) : List (List UInt8) := (List.range ((H + 2) / 3)).map fun i => rowTo W H bits (W * H) i
theorem rowTo_len (W H : Nat) (bits : List Bool) (k i : Nat) : (rowTo W H bits k i).length = (W + 1) / 2 := by simp [rowTo]
theorem packTo_lt (W H : Nat) (bits : List Bool) (k i j : Nat) : packTo W H bits k i j < 64 := cellOf_lt _
theorem rowTo_get (W H : Nat) (bits : List Bool) (k i j : Nat) (hj : j < (W + 1) / 2) : (rowTo W H bits k i)[j]? = some (UInt8.ofNat (packTo W H bits k i j)) := by
  unfold rowTo
  rw [List.getElem?_map, List.getElem?_range hj]; rfl
theorem rowTo_zero (W H : Nat) (bits : List Bool) (i : Nat) : rowTo W H bits 0 i = List.replicate ((W + 1) / 2) 0 := by
  have h : ∀ j, UInt8.ofNat (packTo W H bits 0 i j) = 0 := fun j => by
    have : packTo W H bits 0 i j = 0 := by
      unfold packTo cellOf bitTo
      simp
    rw [this]
    rfl
  unfold rowTo
  simp only [h]
  rw [List.map_const', List.length_range]
theorem bitTo_off (W H : Nat) (bits : List Bool) (k x y : Nat) (h : bits.getD k false = false) : bitTo W H bits (k + 1) x y = bitTo W H bits k x y := by
  unfold bitTo
  by_cases he : y * W + x = k
  · rw [he, h]; simp
  · rw [show decide (y * W + x < k + 1) = decide (y * W + x < k) by congr 1; exact propext ⟨fun _ => by omega, fun _ => by omega⟩]
theorem place (W k x y : Nat) (hW : 0 < W) (hx : x < W) : y * W + x = k ↔ x = k % W ∧ y = k / W := by
  constructor
  · rintro rfl
    rw [Nat.mul_comm, Nat.mul_add_mod, Nat.mod_eq_of_lt hx, Nat.mul_add_div hW, Nat.div_eq_of_lt hx]
    exact ⟨rfl, rfl⟩
  · rintro ⟨rfl, rfl⟩
    rw [Nat.mul_comm]
    exact Nat.div_add_mod k W
theorem bitTo_on (W H : Nat) (bits : List Bool) (k x y : Nat) (h : bits.getD k false = true) (hk : k < W * H) : bitTo W H bits (k + 1) x y = (bitTo W H bits k x y || decide (x = k % W ∧ y = k / W)) := by
  have hW : 0 < W := by
    rcases Nat.eq_zero_or_pos W with h0 | h0
    · rw [h0] at hk; simp at hk
    · exact h0
  have hy : k / W < H := by rw [Nat.div_lt_iff_lt_mul hW, Nat.mul_comm]; exact hk
  have hxl := Nat.mod_lt k hW
  by_cases hx : x < W
  · have hp := place W k x y hW hx
    unfold bitTo
    by_cases he : y * W + x = k
    · obtain ⟨h1, h2⟩ := hp.1 he
      rw [he, h, decide_eq_true hx, decide_eq_true (show y < H by omega), decide_eq_true (show k < k + 1 by omega), decide_eq_true (show x = k % W ∧ y = k / W from ⟨h1, h2⟩)]
      simp
    · rw [show decide (y * W + x < k + 1) = decide (y * W + x < k) by congr 1; exact propext ⟨fun _ => by omega, fun _ => by omega⟩, decide_eq_false (fun hh => he (hp.2 hh)), Bool.or_false]
  · unfold bitTo
    rw [decide_eq_false hx, decide_eq_false (show ¬ (x = k % W ∧ y = k / W) from fun hh => by omega)]
    rfl
theorem row_off (W H : Nat) (bits : List Bool) (k i : Nat) (h : bits.getD k false = false) : rowTo W H bits (k + 1) i = rowTo W H bits k i := by
  unfold rowTo packTo
  apply List.map_congr_left
  intro j _
  rw [cellOf_congr fun d _ => bitTo_off W H bits k _ _ h]
theorem packTo_far (W H : Nat) (bits : List Bool) (k i j : Nat) (h : bits.getD k false = true) (hk : k < W * H) (hne : i ≠ k / W / 3 ∨ j ≠ k % W / 2) : packTo W H bits (k + 1) i j = packTo W H bits k i j := by
  unfold packTo
  apply cellOf_congr
  intro d hd
  rw [bitTo_on W H bits k _ _ h hk, decide_eq_false, Bool.or_false]
  rintro ⟨h1, h2⟩
  rcases hne with hne | hne
  · apply hne; omega
  · apply hne; omega
theorem packTo_near (W H : Nat) (bits : List Bool) (k : Nat) (h : bits.getD k false = true) (hk : k < W * H) : packTo W H bits k (k / W / 3) (k % W / 2) ||| 2 ^ (k / W % 3 + k % W % 2 * 3) = packTo W H bits (k + 1) (k / W / 3) (k % W / 2) := by
  unfold packTo
  apply cellOf_or
  · omega
  · intro d hd
    rw [bitTo_on W H bits k _ _ h hk]
    congr 2
    exact propext ⟨fun _ => by omega, fun _ => by omega⟩
theorem row_far (W H : Nat) (bits : List Bool) (k i : Nat) (h : bits.getD k false = true) (hk : k < W * H) (hne : i ≠ k / W / 3) : rowTo W H bits (k + 1) i = rowTo W H bits k i := by
  unfold rowTo
  apply List.map_congr_left
  intro j _
  rw [packTo_far W H bits k i j h hk (.inl hne)]
theorem row_near (W H : Nat) (bits : List Bool) (k : Nat) (h : bits.getD k false = true) (hk : k < W * H) : rowTo W H bits (k + 1) (k / W / 3) = (rowTo W H bits k (k / W / 3)).set (k % W / 2) (UInt8.ofNat (packTo W H bits k (k / W / 3) (k % W / 2) ||| 2 ^ (k / W % 3 + k % W % 2 * 3))) := by
  apply List.ext_getElem?
  intro j
  by_cases hj : j < (W + 1) / 2
  · rw [rowTo_get _ _ _ _ _ _ hj, List.getElem?_set]
    by_cases hjj : k % W / 2 = j
    · rw [if_pos hjj, if_pos (by rw [rowTo_len]; omega), packTo_near W H bits k h hk, hjj]
    · rw [if_neg hjj, rowTo_get _ _ _ _ _ _ hj, packTo_far W H bits k _ j h hk (.inr (fun e => hjj e.symm))]
  · rw [List.getElem?_eq_none (by rw [rowTo_len]; omega), List.getElem?_eq_none (by rw [List.length_set, rowTo_len]; omega)]
/-- can a raster have this size -/
def can (w h : Int) : Bool := decide (0 ≤ w ∧ 0 ≤ h ∧ w ≤ 65536 ∧ h ≤ 65536 ∧ w * h ≤ 65536)
end Ce
theorem mul_small {w h : Int} (h1 : 0 ≤ w) (h2 : 0 ≤ h) (h3 : w ≤ 65536) (h4 : h ≤ 65536) : 0 ≤ w * h ∧ w * h ≤ 4294967296 := by
  refine ⟨Int.mul_nonneg h1 h2, ?_⟩
  have := Int.mul_le_mul h3 h4 h2 (by omega)
  omega

theorem wrap64_in {z : Int} (h1 : 0 ≤ z) (h2 : z ≤ 4294967296) : wrap64 z = z := by
  unfold wrap64
  omega
set_option maxHeartbeats 400000 in
set_option maxRecDepth 100000 in
theorem possible_any (x y : Int) (w : World) :
    Calls Tryd.prog 34 #[.int .i64 x, .int .i64 y] w fun e w' => e = .returned (.bool (Ce.can x y)) ∧ w = w' := by
  by_cases h1 : 0 ≤ x
  · by_cases h2 : 0 ≤ y
    · by_cases h3 : x ≤ 65536
      · by_cases h4 : y ≤ 65536
        · obtain ⟨h5, h6⟩ := mul_small h1 h2 h3 h4
          have hw := hide (show wrap64 (x * y) = x * y from wrap64_in h5 h6)
          have HC := hide (show Ce.can x y = decide (x * y ≤ 65536) by unfold Ce.can; congr 1; exact propext ⟨fun h => h.2.2.2.2, fun h => ⟨h1, h2, h3, h4, h⟩⟩)
          clear h5 h6
          go_enter Tryd.func34, Tryd.ntmps34
          go_wp2
          go_ret
          exact ⟨by show Ending.returned (Value.bool (decide (wrap64 (x * y) ≤ 65536))) = _; rw [hw.out, HC.out], rfl⟩
        · have HC := hide (show Ce.can x y = false by unfold Ce.can; exact decide_eq_false (by omega))
          go_enter Tryd.func34, Tryd.ntmps34
          go_wp2
          go_ret
          exact ⟨by rw [HC.out]; rfl, rfl⟩
      · have HC := hide (show Ce.can x y = false by unfold Ce.can; exact decide_eq_false (by omega))
        go_enter Tryd.func34, Tryd.ntmps34
        go_wp2
        go_ret
        exact ⟨by rw [HC.out]; rfl, rfl⟩
    · have HC := hide (show Ce.can x y = false by unfold Ce.can; exact decide_eq_false (by omega))
      go_enter Tryd.func34, Tryd.ntmps34
      go_wp2
      go_ret
      exact ⟨by rw [HC.out]; rfl, rfl⟩
  · have HC := hide (show Ce.can x y = false by unfold Ce.can; exact decide_eq_false (by omega))
    go_enter Tryd.func34, Tryd.ntmps34
    go_wp2
    go_ret
    exact ⟨by rw [HC.out]; rfl, rfl⟩
end Go.Proofs.YtdjmfjmijpfijaaDoor
