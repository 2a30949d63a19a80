/-
  Cells: what feels the same, plainly: cells 0 at the ends and empty lines at the end struck.
-/
import Derived.Test.YtdjmfjmijpfijaaDoorRefUnpack
namespace Go.Proofs.YtdjmfjmijpfijaaDoor
open Go.RowKit
set_option linter.unusedVariables false
set_option linter.unusedSimpArgs false
namespace Ce
section
variable {α : Type} [DecidableEq α]
/-- how many of the first n elements are left if the last ones that are d are struck -/
def st (d : α) (L : List α) : Nat → Nat
  | 0 => 0
  | n + 1 => if L.getD n d = d then st d L n else n + 1
theorem st_le (d : α) (L : List α) : ∀ n, st d L n ≤ n
  | 0 => Nat.le_refl _
  | n + 1 => by
    unfold st
    have := st_le d L n
    split <;> omega
theorem st_beyond (d : α) (L : List α) : ∀ (n k : Nat), st d L n ≤ k → k < n → L.getD k d = d
  | 0, k, _, h => absurd h (by omega)
  | n + 1, k, h1, h2 => by
    unfold st at h1
    by_cases h : L.getD n d = d
    · rw [if_pos h] at h1
      by_cases hk : k = n
      · subst hk; exact h
      · exact st_beyond d L n k h1 (by omega)
    · rw [if_neg h] at h1; omega
theorem st_last (d : α) (L : List α) : ∀ n, 0 < st d L n → L.getD (st d L n - 1) d ≠ d
  | 0, h => absurd h (Nat.lt_irrefl 0)
  | n + 1, h => by
    unfold st at h ⊢
    by_cases hd : L.getD n d = d
    · rw [if_pos hd] at h ⊢; exact st_last d L n h
    · rw [if_neg hd]; exact hd
/-- the list without the last elements that are d -/
def strip (d : α) (L : List α) : List α := L.take (st d L L.length)
theorem strip_len (d : α) (L : List α) : (strip d L).length = st d L L.length := by
  unfold strip
  rw [List.length_take]
  have := st_le d L L.length
  omega
omit [DecidableEq α] in
theorem getD_far (d : α) (L : List α) (k : Nat) (h : L.length ≤ k) : L.getD k d = d := by simp [List.getD, List.getElem?_eq_none h]
theorem strip_getD (d : α) (L : List α) (k : Nat) : (strip d L).getD k d = L.getD k d := by
  by_cases h : k < st d L L.length
  · unfold strip
    rw [List.getD_eq_getElem?_getD, List.getD_eq_getElem?_getD, List.getElem?_take, if_pos h]
  · rw [getD_far d (strip d L) k (by rw [strip_len]; omega)]
    by_cases hk : k < L.length
    · exact (st_beyond d L L.length k (by omega) hk).symm
    · exact (getD_far d L k (by omega)).symm
theorem strip_ext (d : α) {L M : List α} (h : ∀ k, L.getD k d = M.getD k d) : strip d L = strip d M := by
  have key : ∀ (L M : List α), (∀ k, L.getD k d = M.getD k d) → st d L L.length ≤ st d M M.length := by
    intro L M h
    rcases Nat.lt_or_ge (st d M M.length) (st d L L.length) with hlt | hge
    · exfalso
      have h1 := st_last d L L.length (by omega)
      have h2 := st_le d L L.length
      refine h1 ?_
      rw [h]
      by_cases hk : st d L L.length - 1 < M.length
      · exact st_beyond d M M.length _ (by omega) hk
      · exact getD_far d M _ (by omega)
    · exact hge
  have hlen : (strip d L).length = (strip d M).length := by
    rw [strip_len, strip_len]
    exact Nat.le_antisymm (key L M h) (key M L (fun k => (h k).symm))
  apply List.ext_getElem hlen
  intro i h1 h2
  have e := (strip_getD d L i).trans ((h i).trans (strip_getD d M i).symm)
  simpa [List.getD, h1, h2] using e
end
/-- the form of a page in which what does not matter is struck -/
def canon (ls : List (List UInt8)) : List (List UInt8) := strip [] (ls.map (strip 0))
theorem canon_row (ls : List (List UInt8)) (i : Nat) : (canon ls).getD i [] = strip 0 (ls.getD i []) := by
  unfold canon
  rw [strip_getD]
  by_cases h : i < ls.length
  · simp [List.getD, h]
  · have h' : ls.length ≤ i := by omega
    simp [List.getD, h']
    rfl
theorem cell_row (ls : List (List UInt8)) (i k : Nat) : ((canon ls).getD i []).getD k 0 = (ls.getD i []).getD k 0 := by rw [canon_row, strip_getD]
theorem canon_ext {a b : List (List UInt8)} (h : ∀ i k, (a.getD i []).getD k 0 = (b.getD i []).getD k 0) : canon a = canon b := by
  unfold canon
  refine strip_ext [] (fun i => ?_)
  have e : ∀ ls : List (List UInt8), (ls.map (strip 0)).getD i [] = strip 0 (ls.getD i []) := by
    intro ls
    by_cases h : i < ls.length
    · simp [List.getD, h]
    · have h' : ls.length ≤ i := by omega
      simp [List.getD, h']
      rfl
  rw [e, e]
  exact strip_ext 0 (h i)
theorem canon_iff (a b : List (List UInt8)) : canon a = canon b ↔ ∀ i k, cellAt a i k = cellAt b i k := by
  constructor
  · intro h i k
    unfold cellAt
    rw [← cell_row a, ← cell_row b, h]
  · intro h
    refine canon_ext (fun i k => ?_)
    have := h i k
    unfold cellAt at this
    exact UInt8.toNat_inj.1 this
theorem st_congr {α : Type} [DecidableEq α] (d : α) (L M : List α) (n : Nat) (h : ∀ k, k < n → L.getD k d = M.getD k d) : st d L n = st d M n := by
  induction n with
  | zero => rfl
  | succ n ih =>
    unfold st
    rw [h n (by omega), ih (fun k hk => h k (by omega))]
/-- lines left after the first n lines -/
def cl (ls : List (List UInt8)) (n : Nat) : Nat := st [] (ls.map (strip 0)) n
theorem cl_zero (ls : List (List UInt8)) : cl ls 0 = 0 := rfl
theorem cl_next (ls : List (List UInt8)) (n : Nat) (h : n < ls.length) : cl ls (n + 1) = if (strip 0 ls[n]).length = 0 then cl ls n else n + 1 := by
  unfold cl
  rw [st]
  have e : (ls.map (strip 0)).getD n [] = strip 0 ls[n] := by simp [List.getD, h]
  rw [e]
  by_cases hs : strip 0 ls[n] = []
  · rw [if_pos hs, if_pos (by rw [hs]; rfl)]
  · rw [if_neg hs, if_neg (by rw [List.length_eq_zero_iff]; exact hs)]
theorem cl_le (ls : List (List UInt8)) (n : Nat) : cl ls n ≤ n := st_le _ _ n
theorem canon_take (ls : List (List UInt8)) : canon ls = (ls.map (strip 0)).take (cl ls ls.length) := by
  unfold canon cl strip
  rw [List.length_map]
theorem canon_len (ls : List (List UInt8)) : (canon ls).length = cl ls ls.length := by
  unfold canon cl
  rw [strip_len, List.length_map]
theorem strip_take (l : List UInt8) : strip 0 l = l.take (st 0 l l.length) := rfl
end Ce
set_option maxHeartbeats 1000000 in
set_option maxRecDepth 100000 in
theorem trimByte_any (A : Option Addr) (n c : Nat) (l : List UInt8) (w : World) (hr : Reads w w.heap.size 1 A n (BV l)) (hm : n ≤ 1099511627776) (hnc : n ≤ c) :
    Calls Tryd.prog 41 #[.slice A n c, .int .u8 0] w fun e w' => e = .returned (.slice A (Ce.strip 0 l).length c) ∧ w = w' := by
  have hn := reads_bytes_len hr
  rw [Ce.strip_len, ← hn]
  have HR := hide hr
  have HNL := hide hn
  clear hr hn
  go_enter Tryd.func41, Tryd.ntmps41
  go_wp2
  go_loopw [0] (fun s0 wr => ∃ k : Nat, k ≤ n ∧ s0 = .slice A k c ∧ Hid (Ce.st 0 l k = Ce.st 0 l n) ∧ w = wr) (fun s0 _ => match s0 with | .slice _ k _ => k | _ => 0)
  case atStart => exact ⟨n, Nat.le_refl _, rfl, rfl, by first | rfl | trivial⟩
  case round =>
    obtain ⟨k, hk, rfl, HS, rfl⟩ := hrel
    by_cases h0 : k = 0
    · subst h0
      have hz : ¬ ((0 : Int) < ((0 : Nat) : Int)) := by omega
      have HE := hide (show Ce.st 0 l n = 0 from HS.out.symm)
      clear HS
      go_wp2
      go_ret
      exact ⟨by rw [HE.out]; rfl, by first | rfl | trivial⟩
    · obtain ⟨j, rfl⟩ : ∃ j, k = j + 1 := ⟨k - 1, by omega⟩
      obtain ⟨ad, rfl, hjl, hc⟩ := reads_byte HR.out j (by omega)
      have hp : (0 : Int) < (j : Int) + 1 := by omega
      have hj0 : (0 : Int) ≤ (j : Int) := by omega
      have hj2 : (j : Int) < (j : Int) + 1 := by omega
      have hj3 : (j : Int) ≤ 1099511627776 := by omega
      have hjc : (j : Int) ≤ (c : Int) := by omega
      have HK := hide hk
      have hg : l.getD j 0 = l[j] := by simp [List.getD, hjl]
      by_cases hb : l[j].toNat = 0
      · have hb0 : l[j] = 0 := UInt8.toNat_inj.1 hb
        rw [hb] at hc
        rw [show ((0 : Nat) : Int) = 0 from rfl] at hc
        have HS2 := hide (show Ce.st 0 l j = Ce.st 0 l n by
          have h := HS.out
          rw [Ce.st, if_pos (by rw [hg]; exact hb0)] at h
          exact h)
        clear hb hb0 HS hg hk h0
        clear hjl
        go_wp2
        exact ⟨⟨j, by have := HK.out; omega, rfl, HS2, by first | rfl | trivial⟩, by simp⟩
      · have HE := hide (show Ce.st 0 l n = j + 1 by
          have h := HS.out
          rw [Ce.st, if_neg (by rw [hg]; intro h0; exact hb (by rw [h0]; rfl))] at h
          exact h.symm)
        have hne : (((l[j].toNat : Nat) : Int) == 0) = false := by rw [beq_eq_false_iff_ne]; omega
        have hne2 : ¬ (((l[j].toNat : Nat) : Int) = 0) := by omega
        generalize ((l[j].toNat : Nat) : Int) = q at *
        clear hb HS hg hk h0
        clear hjl
        go_wp2
        go_ret
        exact ⟨by rw [HE.out]; rfl, by first | rfl | trivial⟩
end Go.Proofs.YtdjmfjmijpfijaaDoor
