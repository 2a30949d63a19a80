/-
  Plain mathematics of streams: what a text that is added does to the blocks and to the rest.
-/
import Derived.Test.YtjnbolafnhhigaaDoorBegin
namespace Go.Proofs.YtjnbolafnhhigaaDoor
open Go.RowKit
set_option linter.unusedVariables false
set_option linter.unusedSimpArgs false

namespace Sha
def restOf (m : List UInt8) : List UInt8 := m.drop (64 * (m.length / 64))
def pad64 (l : List UInt8) : List UInt8 := l ++ List.replicate (64 - l.length) 0
theorem restOf_len (m : List UInt8) : (restOf m).length = m.length % 64 := by unfold restOf; rw [List.length_drop]; omega
theorem pad64_len (l : List UInt8) (h : l.length ≤ 64) : (pad64 l).length = 64 := by unfold pad64; simp; omega
theorem blocks_append (v : List UInt32) (m x : List UInt8) (q : Nat) (h : 64 * q ≤ m.length) : blocks v (m ++ x) q = blocks v m q := by
  induction q with
  | zero => rfl
  | succ q ih =>
    simp only [blocks]
    rw [ih (by omega), List.drop_append_of_le_length (by omega), List.take_append_of_le_length (by rw [List.length_drop]; omega)]
theorem blocks_len (v : List UInt32) (m : List UInt8) (q : Nat) (hv : v.length = 8) : (blocks v m q).length = 8 := by
  induction q with
  | zero => exact hv
  | succ q ih => simp only [blocks]; exact compress_len _ _ ih
theorem add_full (m x : List UInt8) (hx : m.length % 64 + x.length = 64) :
    blocks H0 (m ++ x) ((m ++ x).length / 64) = compress (blocks H0 m (m.length / 64)) (restOf m ++ x) ∧ restOf (m ++ x) = [] := by
  have hq : (m ++ x).length / 64 = m.length / 64 + 1 := by rw [List.length_append]; omega
  constructor
  · rw [hq]
    simp only [blocks]
    rw [blocks_append _ _ _ _ (by omega), List.drop_append_of_le_length (by omega)]
    congr 1
    rw [List.take_of_length_le (by rw [List.length_append, List.length_drop]; omega)]
    rfl
  · unfold restOf
    rw [hq]
    exact List.drop_eq_nil_of_le (by rw [List.length_append]; omega)
theorem add_part (m x : List UInt8) (hx : m.length % 64 + x.length < 64) :
    blocks H0 (m ++ x) ((m ++ x).length / 64) = blocks H0 m (m.length / 64) ∧ restOf (m ++ x) = restOf m ++ x := by
  have hq : (m ++ x).length / 64 = m.length / 64 := by rw [List.length_append]; omega
  constructor
  · rw [hq, blocks_append _ _ _ _ (by omega)]
  · unfold restOf
    rw [hq, List.drop_append_of_le_length (by omega)]
end Sha

/-- the cells of a stream with a message -/
def ST (m : List UInt8) : List Value := SC (Sha.blocks Sha.H0 m (m.length / 64)) (Sha.pad64 (Sha.restOf m)) m.length
theorem ST_nil : ST [] = SC Sha.H0 Z64 0 := rfl
theorem ST_len (m : List UInt8) : (ST m).length = 73 := by
  unfold ST
  rw [SC_len, Sha.blocks_len _ _ _ rfl, Sha.pad64_len _ (by rw [Sha.restOf_len]; omega)]
theorem BV_zeros (k : Nat) : BV (List.replicate k 0) = List.replicate k (.int .u8 0) := by simp [BV]
/-- the block of a stream, parted where a text is added -/
theorem block_parted (l : List UInt8) (n : Nat) (h : l.length + n ≤ 64) : BV (Sha.pad64 l) = BV l ++ (BV (List.replicate n 0) ++ BV (List.replicate (64 - l.length - n) 0)) := by
  unfold Sha.pad64
  rw [BV_append l, ← BV_append (List.replicate n 0), List.replicate_append_replicate, show n + (64 - l.length - n) = 64 - l.length by omega]
theorem block_added (l x : List UInt8) (h : l.length + x.length ≤ 64) : BV (Sha.pad64 (l ++ x)) = BV l ++ (BV x ++ BV (List.replicate (64 - l.length - x.length) 0)) := by
  unfold Sha.pad64
  rw [BV_append, BV_append, List.append_assoc, List.length_append, show 64 - (l.length + x.length) = 64 - l.length - x.length by omega]
/-- the stream in memory behind a text that was copied into its block -/
theorem added {w : World} {g : Nat} {t : TypeId} {v : List UInt32} {l x : List UInt8} {n : Nat} (h : Blk w g t (SC v (Sha.pad64 l) n).toArray) (hv : v.length = 8) (hl : l.length + x.length ≤ 64) :
    Blk (w.setCells g (8 + l.length) (BV x)) g t (SC v (Sha.pad64 (l ++ x)) n).toArray := by
  unfold SC at h ⊢
  rw [block_parted l x.length hl] at h
  rw [block_added l x hl]
  have e1 : ∀ Y : List Value, UV v ++ (BV l ++ (Y ++ BV (List.replicate (64 - l.length - x.length) 0)) ++ [Value.int .u64 (n : Int)]) = (UV v ++ BV l) ++ (Y ++ (BV (List.replicate (64 - l.length - x.length) 0) ++ [Value.int .u64 (n : Int)])) := fun Y => by simp [List.append_assoc]
  rw [e1] at h ⊢
  exact Blk.part _ _ _ (BV x) h _ (by rw [List.length_append, UV_len, BV_len, hv]) (by rw [BV_len, BV_len]; simp)
/-- the length of a stream in memory -/
theorem len_cell {w : World} {g : Nat} {t : TypeId} {v : List UInt32} {l : List UInt8} {n : Nat} (h : Blk w g t (SC v l n).toArray) (hv : v.length = 8) (hl : l.length = 64) : w.cell? ⟨g, 72, none⟩ = some (.int .u64 (n : Int)) := by
  rw [h.cell, List.getElem?_toArray]
  unfold SC
  rw [List.getElem?_append_right (by rw [UV_len]; omega), UV_len, hv, List.getElem?_append_right (by rw [BV_len]; omega), BV_len, hl]
  rfl
theorem len_set {w : World} {g : Nat} {t : TypeId} {v : List UInt32} {l : List UInt8} {n : Nat} (h : Blk w g t (SC v l n).toArray) (hv : v.length = 8) (hl : l.length = 64) (n' : Nat) : Blk (w.setCell ⟨g, 72, none⟩ (.int .u64 (n' : Int))) g t (SC v l n').toArray := by
  have := h.set_ 72 (.int .u64 (n' : Int))
  rw [List.setIfInBounds_toArray] at this
  unfold SC at this ⊢
  rw [List.set_append_right _ _ (by rw [UV_len]; omega), UV_len, hv, List.set_append_right _ _ (by rw [BV_len]; omega), BV_len, hl] at this
  exact this
end Go.Proofs.YtjnbolafnhhigaaDoor
