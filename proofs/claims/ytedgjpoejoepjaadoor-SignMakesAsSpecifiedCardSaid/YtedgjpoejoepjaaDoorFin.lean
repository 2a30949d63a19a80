/-
  Plain mathematics of the end of a message: padding, the length, the bytes of the hash value.
-/
import Derived.Test.YtedgjpoejoepjaaDoorAdd
namespace Go.Proofs.YtedgjpoejoepjaaDoor
open Go.RowKit
set_option linter.unusedVariables false
set_option linter.unusedSimpArgs false

namespace Sha
theorem be8_len (n : Nat) : (be8 n).length = 8 := by simp [be8]
theorem be8_get (n j : Nat) (h : j < 8) : (be8 n)[j]? = some (UInt8.ofNat (n / 2 ^ (56 - 8 * j))) := by
  simp only [be8, List.getElem?_map, List.getElem?_range h, Option.map_some]
/-- the last block of a message, where there is room -/
theorem fin_near (m : List UInt8) (h : m.length % 64 < 56) (E : List UInt8) (hE : E = be8 (8 * m.length % 2 ^ 64)) :
    blocks H0 (pad m) ((pad m).length / 64) = compress (blocks H0 m (m.length / 64)) ((pad64 (restOf m ++ [128])).take 56 ++ E) := by
  have hr := restOf_len m
  have hel : E.length = 8 := by rw [hE, be8_len]
  have hz : (119 - m.length % 64) % 64 = 55 - m.length % 64 := by omega
  have hp : pad m = m ++ (128 :: List.replicate (55 - m.length % 64) 0 ++ E) := by unfold pad; rw [hz, ← hE]; simp
  rw [hp]
  obtain ⟨a1, _⟩ := add_full m (128 :: List.replicate (55 - m.length % 64) 0 ++ E) (by simp [hel]; omega)
  rw [a1]
  congr 1
  unfold pad64
  rw [List.length_append, hr, List.length_singleton, show 64 - (m.length % 64 + 1) = (55 - m.length % 64) + 8 by omega, ← List.replicate_append_replicate, ← List.append_assoc (restOf m ++ [128])]
  rw [List.take_left' (by simp [hr]; omega)]
  simp
/-- the last two blocks of a message, where there is no room in one -/
theorem fin_far (m : List UInt8) (h : 56 ≤ m.length % 64) (E : List UInt8) (hE : E = be8 (8 * m.length % 2 ^ 64)) :
    blocks H0 (pad m) ((pad m).length / 64) = compress (compress (blocks H0 m (m.length / 64)) (pad64 (restOf m ++ [128]))) (Z64.take 56 ++ E) := by
  have hr := restOf_len m
  have h64 : m.length % 64 < 64 := Nat.mod_lt _ (by omega)
  have hel : E.length = 8 := by rw [hE, be8_len]
  have hz : (119 - m.length % 64) % 64 = 119 - m.length % 64 := by omega
  have hp : pad m = (m ++ (128 :: List.replicate (63 - m.length % 64) 0)) ++ (List.replicate 56 0 ++ E) := by
    unfold pad
    rw [hz, ← hE, show 119 - m.length % 64 = (63 - m.length % 64) + 56 by omega, ← List.replicate_append_replicate]
    simp
  rw [hp]
  obtain ⟨a1, a2⟩ := add_full m (128 :: List.replicate (63 - m.length % 64) 0) (by simp; omega)
  have hl : (m ++ (128 :: List.replicate (63 - m.length % 64) 0)).length % 64 = 0 := by
    have := restOf_len (m ++ (128 :: List.replicate (63 - m.length % 64) 0))
    rw [a2] at this
    exact this.symm
  obtain ⟨b1, _⟩ := add_full (m ++ (128 :: List.replicate (63 - m.length % 64) 0)) (List.replicate 56 0 ++ E) (by rw [hl]; simp [hel])
  rw [b1, a1, a2, List.nil_append]
  have e1 : pad64 (restOf m ++ [128]) = restOf m ++ (128 :: List.replicate (63 - m.length % 64) 0) := by
    unfold pad64
    rw [List.length_append, hr, List.length_singleton, show 64 - (m.length % 64 + 1) = 63 - m.length % 64 by omega]
    simp
  rw [e1]
  rfl
/-- the block while the length is written, i bytes from its end -/
def tailed (A E : List UInt8) (i : Nat) : List UInt8 := A.take (64 - i) ++ E.drop (8 - i)
theorem tailed_zero (A E : List UInt8) (hA : A.length = 64) (hE : E.length = 8) : tailed A E 0 = A := by
  unfold tailed
  rw [List.take_of_length_le (by omega), List.drop_eq_nil_of_le (by omega), List.append_nil]
theorem tailed_eight (A E : List UInt8) : tailed A E 8 = A.take 56 ++ E := rfl
theorem tailed_len (A E : List UInt8) (i : Nat) (hA : A.length = 64) (hE : E.length = 8) (hi : i ≤ 8) : (tailed A E i).length = 64 := by unfold tailed; simp; omega
theorem tailed_succ (A E : List UInt8) (i : Nat) (hA : A.length = 64) (hE : E.length = 8) (hi : i < 8) (x : UInt8) (hx : E[7 - i]? = some x) : (tailed A E i).set (63 - i) x = tailed A E (i + 1) := by
  unfold tailed
  have hl : (A.take (64 - i)).length = 64 - i := by simp; omega
  have e1 : A.take (64 - i) = A.take (63 - i) ++ [A[63 - i]'(by omega)] := by
    rw [show 64 - i = (63 - i) + 1 by omega, List.take_succ_eq_append_getElem (by omega)]
  have hx' : E[7 - i]'(by omega) = x := by rw [List.getElem?_eq_getElem (by omega)] at hx; injection hx
  have e2 : E.drop (8 - (i + 1)) = x :: E.drop (8 - i) := by
    rw [show 8 - (i + 1) = 7 - i by omega, List.drop_eq_getElem_cons (by omega), hx', show 7 - i + 1 = 8 - i by omega]
  have hl2 : (A.take (63 - i)).length = 63 - i := by simp; omega
  rw [e1, e2, List.append_assoc, List.set_append_right _ _ (by omega), hl2, Nat.sub_self, show 64 - (i + 1) = 63 - i by omega]
  rfl
theorem bytes_len (v : List UInt32) : (bytes v).length = 4 * v.length := by
  induction v with
  | nil => rfl
  | cons x r ih => simp only [bytes, List.flatMap_cons, List.length_append, List.length_cons] at *; simp at *; omega
theorem bytes_get (v : List UInt32) : ∀ k, k < 4 * v.length → (bytes v)[k]? = some (UInt8.ofNat ((v.getD (k / 4) 0).toNat / 2 ^ (24 - 8 * (k % 4)))) := by
  induction v with
  | nil => intro k h; simp at h
  | cons x r ih =>
    intro k h
    have hb : bytes (x :: r) = [UInt8.ofNat (x.toNat / 2 ^ 24), UInt8.ofNat (x.toNat / 2 ^ 16), UInt8.ofNat (x.toNat / 2 ^ 8), UInt8.ofNat x.toNat] ++ bytes r := rfl
    rw [hb]
    rcases Nat.lt_or_ge k 4 with hk | hk
    · rw [List.getElem?_append_left (by simpa using hk)]
      match k, hk with
      | 0, _ => rfl
      | 1, _ => rfl
      | 2, _ => rfl
      | 3, _ => simp
      | _ + 4, h => exact absurd h (by omega)
    · rw [List.getElem?_append_right (by simpa using hk)]
      have := ih (k - 4) (by simp at h; omega)
      rw [show ([UInt8.ofNat (x.toNat / 2 ^ 24), UInt8.ofNat (x.toNat / 2 ^ 16), UInt8.ofNat (x.toNat / 2 ^ 8), UInt8.ofNat x.toNat] : List UInt8).length = 4 from rfl, this]
      rw [show k / 4 = (k - 4) / 4 + 1 by omega, show k % 4 = (k - 4) % 4 by omega]
      rfl
end Sha
/-- one byte of a stream's block is stored anew -/
theorem block_set {w : World} {g : Nat} {t : TypeId} {v : List UInt32} {l : List UInt8} {n : Nat} (h : Blk w g t (SC v l n).toArray) (hv : v.length = 8) (hl : l.length = 64) (j : Nat) (hj : j < 64) (x : UInt8) :
    Blk (w.setCell ⟨g, 8 + j, none⟩ (.int .u8 (x.toNat : Int))) g t (SC v (l.set j x) n).toArray := by
  have := h.set_ (8 + j) (.int .u8 (x.toNat : Int))
  rw [List.setIfInBounds_toArray] at this
  unfold SC at this ⊢
  rw [List.set_append_right _ _ (by rw [UV_len]; omega), UV_len, hv, show 8 + j - 8 = j by omega, List.set_append_left _ _ (by rw [BV_len]; omega)] at this
  have e : (BV l).set j (.int .u8 (x.toNat : Int)) = BV (l.set j x) := by simp [BV, List.map_set]
  rw [e] at this
  exact this
theorem value_cell {w : World} {g : Nat} {t : TypeId} {v : List UInt32} {l : List UInt8} {n : Nat} (h : Blk w g t (SC v l n).toArray) (k : Nat) (hk : k < v.length) : w.cell? ⟨g, k, none⟩ = some (U (v.getD k 0)) := by
  rw [h.cell, List.getElem?_toArray]
  unfold SC
  rw [List.getElem?_append_left (by rw [UV_len]; omega), UV_get v k hk]
  simp [List.getD, hk]
theorem block_cell {w : World} {g : Nat} {t : TypeId} {v : List UInt32} {l : List UInt8} {n : Nat} (h : Blk w g t (SC v l n).toArray) (hv : v.length = 8) (j : Nat) (hj : j < l.length) : w.cell? ⟨g, 8 + j, none⟩ = some (.int .u8 ((l[j].toNat : Nat) : Int)) := by
  rw [h.cell, List.getElem?_toArray]
  unfold SC
  rw [List.getElem?_append_right (by rw [UV_len]; omega), UV_len, hv, show 8 + j - 8 = j by omega, List.getElem?_append_left (by rw [BV_len]; omega), BV_get l j hj]
end Go.Proofs.YtedgjpoejoepjaaDoor
