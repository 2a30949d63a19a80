/-
  Cells: plainly: what Unpack makes of Pack, and Pack of Unpack.
-/
import Derived.Test.YtdjmfjmijpfijaaDoorSameD
namespace Go.Proofs.YtdjmfjmijpfijaaDoor
open Go.RowKit
set_option linter.unusedVariables false
set_option linter.unusedSimpArgs false
namespace Ce
theorem cell_far' (ls : List (List UInt8)) (i k : Nat) (h : (ls.getD i []).length ≤ k) : cellAt ls i k = 0 := by
  unfold cellAt
  rw [List.getD_eq_getElem?_getD (l := ls.getD i []), List.getElem?_eq_none h]
  rfl
def sameB' (xs ys : List (List UInt8)) : Prop := ∀ i k, cellAt xs i k = cellAt ys i k
theorem cellOf_none : cellOf (fun _ => false) = 0 := rfl
theorem bitTo_out (W H : Nat) (bits : List Bool) (k x y : Nat) (h : W ≤ x ∨ H ≤ y) : bitTo W H bits k x y = false := by
  unfold bitTo
  rcases h with h | h
  · rw [decide_eq_false (show ¬ x < W by omega)]; rfl
  · rw [decide_eq_false (show ¬ y < H by omega), Bool.and_false]; rfl
theorem packTo_out (W H : Nat) (bits : List Bool) (k i j : Nat) (h : (H + 2) / 3 ≤ i ∨ (W + 1) / 2 ≤ j) : packTo W H bits k i j = 0 := by
  unfold packTo
  rw [cellOf_congr (g := fun _ => false) fun d hd => bitTo_out W H bits k _ _ (by omega)]
  rfl
theorem pack_len (W H : Nat) (bits : List Bool) : (pack W H bits).length = (H + 2) / 3 := by simp [pack]
theorem pack_row (W H : Nat) (bits : List Bool) (i : Nat) (h : i < (H + 2) / 3) : (pack W H bits).getD i [] = rowTo W H bits (W * H) i := by
  unfold pack
  rw [List.getD_eq_getElem?_getD, List.getElem?_map, List.getElem?_range h]
  rfl
theorem pack_cell (W H : Nat) (bits : List Bool) (i j : Nat) : cellAt (pack W H bits) i j = packTo W H bits (W * H) i j := by
  by_cases hi : i < (H + 2) / 3
  · by_cases hj : j < (W + 1) / 2
    · unfold cellAt
      rw [pack_row W H bits i hi, List.getD_eq_getElem?_getD, rowTo_get W H bits (W * H) i j hj]
      have := packTo_lt W H bits (W * H) i j
      show (UInt8.ofNat _).toNat = _
      rw [UInt8.toNat_ofNat_of_lt' (by show _ < 256; omega)]
    · rw [cell_far' (pack W H bits) i j (by rw [pack_row W H bits i hi, rowTo_len]; omega), packTo_out W H bits _ i j (by omega)]
  · rw [cell_far' (pack W H bits) i j (by rw [List.getD_eq_getElem?_getD, List.getElem?_eq_none (by rw [pack_len]; omega)]; simp), packTo_out W H bits _ i j (by omega)]
theorem unBit_pack (W H : Nat) (bits : List Bool) (x y : Nat) : unBit (pack W H bits) x y = bitTo W H bits (W * H) x y := by
  unfold unBit
  rw [pack_cell]
  unfold packTo
  rw [on_cellOf _ _ (by omega)]
  show bitTo W H bits (W * H) (2 * (x / 2) + (y % 3 + x % 2 * 3) / 3) (3 * (y / 3) + (y % 3 + x % 2 * 3) % 3) = _
  rw [show 2 * (x / 2) + (y % 3 + x % 2 * 3) / 3 = x by omega, show 3 * (y / 3) + (y % 3 + x % 2 * 3) % 3 = y by omega]
theorem cell_wide (ls : List (List UInt8)) (i j : Nat) (h : wide ls ≤ j ∨ ls.length ≤ i) : cellAt ls i j = 0 := by
  refine cell_far' ls i j ?_
  by_cases hi : i < ls.length
  · have := le_wide ls _ (getD_mem ls i [] hi)
    omega
  · rw [List.getD_eq_getElem?_getD, List.getElem?_eq_none (by omega)]
    simp
theorem bitTo_un (ls : List (List UInt8)) (x y : Nat) : bitTo (2 * wide ls) (3 * ls.length) (unBits ls (2 * wide ls) (3 * ls.length)) (2 * wide ls * (3 * ls.length)) x y = unBit ls x y := by
  by_cases hx : x < 2 * wide ls
  · by_cases hy : y < 3 * ls.length
    · have hp : y * (2 * wide ls) + x < 2 * wide ls * (3 * ls.length) := by
        have h1 : (y + 1) * (2 * wide ls) ≤ 3 * ls.length * (2 * wide ls) := Nat.mul_le_mul_right _ (by omega)
        rw [Nat.add_mul, Nat.one_mul] at h1
        rw [Nat.mul_comm (2 * wide ls) (3 * ls.length)]
        omega
      obtain ⟨h1, h2⟩ := (place (2 * wide ls) (y * (2 * wide ls) + x) x y (by omega) hx).1 rfl
      unfold bitTo
      rw [decide_eq_true hx, decide_eq_true hy, decide_eq_true hp]
      unfold unBits
      rw [List.getD_eq_getElem?_getD, List.getElem?_map, List.getElem?_range hp]
      simp only [Option.map_some, Option.getD_some, Bool.true_and]
      rw [← h1, ← h2]
    · rw [bitTo_out _ _ _ _ _ _ (.inr (by omega))]
      unfold unBit
      rw [cell_wide ls _ _ (.inr (by omega)), on_zero]
  · rw [bitTo_out _ _ _ _ _ _ (.inl (by omega))]
    unfold unBit
    rw [cell_wide ls _ _ (.inl (by omega)), on_zero]
theorem cellOf_on (c : Nat) (hc : c < 64) : cellOf (on c) = c := by
  have h : ∀ c : Fin 64, cellOf (on c.val) = c.val := by decide +kernel
  exact h ⟨c, hc⟩
theorem cellAt_lt (ls : List (List UInt8)) (h : allValid ls = true) (i j : Nat) : cellAt ls i j < 64 := by
  by_cases hi : i < ls.length
  · by_cases hj : j < (ls.getD i []).length
    · have h1 := getD_mem ls i [] hi
      have h2 := getD_mem (ls.getD i []) j 0 hj
      have h3 := List.all_eq_true.1 (show ls.all valid = true from h) _ h1
      unfold valid at h3
      rw [List.all_eq_true] at h3
      have := h3 _ h2
      unfold cellAt
      simpa using this
    · rw [cell_far' ls i j (by omega)]; decide
  · rw [cell_wide ls i j (.inr (by omega))]; decide
theorem pack_un (ls : List (List UInt8)) (h : allValid ls = true) : sameB' (pack (2 * wide ls) (3 * ls.length) (unBits ls (2 * wide ls) (3 * ls.length))) ls := by
  intro i j
  rw [pack_cell]
  unfold packTo
  rw [cellOf_congr (g := on (cellAt ls i j)) fun d hd => ?_, cellOf_on _ (cellAt_lt ls h i j)]
  rw [bitTo_un]
  unfold unBit
  rw [show (3 * i + d % 3) / 3 = i by omega, show (2 * j + d / 3) / 2 = j by omega, show (3 * i + d % 3) % 3 + (2 * j + d / 3) % 2 * 3 = d by omega]
/-- the dots of the first columns of a row -/
def rowN (f : Nat → Nat → Bool) (y : Nat) : Nat → Nat
  | 0 => 0
  | x + 1 => rowN f y x + (if f x y then 1 else 0)
/-- the dots of the first rows -/
def grid (f : Nat → Nat → Bool) (W : Nat) : Nat → Nat
  | 0 => 0
  | y + 1 => grid f W y + rowN f y W
theorem num_six (c : Nat) : num c = (if on c 0 then 1 else 0) + (if on c 1 then 1 else 0) + (if on c 2 then 1 else 0) + (if on c 3 then 1 else 0) + (if on c 4 then 1 else 0) + (if on c 5 then 1 else 0) := by
  unfold num
  simp only [cntTo_succ]
  have : cntTo c 0 = 0 := rfl
  omega
theorem rows_line (ls : List (List UInt8)) (i : Nat) (j : Nat) (hj : j ≤ (ls.getD i []).length) : rowN (unBit ls) (3 * i) (2 * j) + rowN (unBit ls) (3 * i + 1) (2 * j) + rowN (unBit ls) (3 * i + 2) (2 * j) = nd ((ls.getD i []).take j) := by
  induction j with
  | zero => rfl
  | succ j ih =>
    have hjl : j < (ls.getD i []).length := by omega
    have ih := ih (by omega)
    rw [List.take_succ_eq_append_getElem hjl, nd_snoc, ← ih]
    have hc : (ls.getD i [])[j].toNat = cellAt ls i j := by
      unfold cellAt
      rw [List.getD_eq_getElem?_getD (l := ls.getD i []), List.getElem?_eq_getElem hjl]
      rfl
    rw [hc, num_six]
    have e : ∀ a b, a < 3 → b < 2 → unBit ls (2 * j + b) (3 * i + a) = on (cellAt ls i j) (a + b * 3) := by
      intro a b ha hb
      unfold unBit
      rw [show (3 * i + a) / 3 = i by omega, show (2 * j + b) / 2 = j by omega, show (3 * i + a) % 3 + (2 * j + b) % 2 * 3 = a + b * 3 by omega]
    have e00 := e 0 0 (by omega) (by omega)
    have e10 := e 1 0 (by omega) (by omega)
    have e20 := e 2 0 (by omega) (by omega)
    have e01 := e 0 1 (by omega) (by omega)
    have e11 := e 1 1 (by omega) (by omega)
    have e21 := e 2 1 (by omega) (by omega)
    simp only [Nat.add_zero, Nat.zero_mul, Nat.one_mul, Nat.zero_add, Nat.reduceAdd] at e00 e10 e20 e01 e11 e21
    rw [show 2 * (j + 1) = 2 * j + 1 + 1 by omega]
    simp only [rowN]
    rw [e00, e10, e20, e01, e11, e21]
    omega
theorem grid_nds (ls : List (List UInt8)) (wl : Nat) (hl : ∀ l ∈ ls, l.length = wl) : ∀ i, i ≤ ls.length → grid (unBit ls) (2 * wl) (3 * i) = nds (ls.take i) := by
  intro i
  induction i with
  | zero => intro _; rfl
  | succ i ih =>
    intro hi
    have hil : i < ls.length := by omega
    rw [List.take_succ_eq_append_getElem hil, nds_snoc, ← ih (by omega), show 3 * (i + 1) = 3 * i + 1 + 1 + 1 by omega]
    simp only [grid]
    have hg : ls.getD i [] = ls[i] := by simp [List.getD, hil]
    have h := rows_line ls i wl (by rw [hg, hl _ (List.getElem_mem hil)]; exact Nat.le_refl _)
    rw [hg, List.take_of_length_le (by rw [hl _ (List.getElem_mem hil)]; exact Nat.le_refl _)] at h
    rw [show 3 * i + 1 + 1 = 3 * i + 2 by omega]
    omega
theorem pack_lines (W H : Nat) (bits : List Bool) : ∀ l ∈ pack W H bits, l.length = (W + 1) / 2 := by
  intro l hl
  unfold pack at hl
  obtain ⟨i, _, rfl⟩ := List.mem_map.1 hl
  exact rowTo_len _ _ _ _ _
theorem wide_pack (W H : Nat) (bits : List Bool) (hH : 0 < H) : wide (pack W H bits) = (W + 1) / 2 := by
  have h1 := wide_le ((W + 1) / 2) (pack W H bits) (fun l hl => by rw [pack_lines W H bits l hl]; exact Nat.le_refl _)
  have h2 := le_wide (pack W H bits) (rowTo W H bits (W * H) 0) (by unfold pack; exact List.mem_map.2 ⟨0, List.mem_range.2 (by omega), rfl⟩)
  rw [rowTo_len] at h2
  omega
theorem wide_pack_le (W H : Nat) (bits : List Bool) : wide (pack W H bits) ≤ (W + 1) / 2 := wide_le ((W + 1) / 2) (pack W H bits) (fun l hl => by rw [pack_lines W H bits l hl]; exact Nat.le_refl _)
theorem pack_valid (W H : Nat) (bits : List Bool) : allValid (pack W H bits) = true := by
  refine allValid_ok (fun l hl => ?_)
  unfold pack at hl
  obtain ⟨i, _, rfl⟩ := List.mem_map.1 hl
  unfold valid
  rw [List.all_eq_true]
  intro b hb
  unfold rowTo at hb
  obtain ⟨j, _, rfl⟩ := List.mem_map.1 hb
  have := packTo_lt W H bits (W * H) i j
  rw [UInt8.toNat_ofNat_of_lt' (by show _ < 256; omega)]
  simpa using this
theorem grid_pack (W H : Nat) (bits : List Bool) : grid (unBit (pack W H bits)) (2 * wide (pack W H bits)) (3 * (pack W H bits).length) = nds (pack W H bits) := by
  have h := grid_nds (pack W H bits) (wide (pack W H bits)) (fun l hl => by
    rw [pack_lines W H bits l hl, wide_pack W H bits (by
      rcases Nat.eq_zero_or_pos H with h0 | h0
      · exfalso; subst h0; unfold pack at hl; simp at hl
      · exact h0)]) _ (Nat.le_refl _)
  rwa [List.take_length] at h
theorem rowN_le (f : Nat → Nat → Bool) (y : Nat) : ∀ x, rowN f y x ≤ x
  | 0 => Nat.le_refl _
  | x + 1 => by
    have := rowN_le f y x
    unfold rowN
    split <;> omega
theorem grid_le (f : Nat → Nat → Bool) (W : Nat) : ∀ y, grid f W y ≤ y * W
  | 0 => by simp [grid]
  | y + 1 => by
    have h1 := grid_le f W y
    have h2 := rowN_le f y W
    unfold grid
    rw [Nat.add_mul]
    omega
end Ce
end Go.Proofs.YtdjmfjmijpfijaaDoor
