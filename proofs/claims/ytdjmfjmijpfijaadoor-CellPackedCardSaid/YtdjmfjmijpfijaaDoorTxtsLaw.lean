/-
  Cells: Parse of the code and of the reference, Short, by contract; CellTexts, walked.
-/
import Derived.Test.YtdjmfjmijpfijaaDoorDotsLaw
namespace Go.Proofs.YtdjmfjmijpfijaaDoor
open Go.RowKit
set_option linter.unusedVariables false
set_option linter.unusedSimpArgs false
namespace Ce
def chr (s : List UInt8) : Bool := s.all fun b => decide (32 ≤ b.toNat) && decide (b.toNat < 96)
theorem chr_bad {l : List UInt8} {b : UInt8} (h : b ∈ l) (hb : ¬ (32 ≤ b.toNat ∧ b.toNat < 96)) : chr l = false := by
  unfold chr
  rw [List.all_eq_false]
  exact ⟨b, h, by simpa using fun h1 => by omega⟩
theorem chr_ok {l : List UInt8} (h : ∀ b ∈ l, 32 ≤ b.toNat ∧ b.toNat < 96) : chr l = true := by
  unfold chr
  rw [List.all_eq_true]
  exact fun b hb => by simpa using h b hb
theorem chr_at {l : List UInt8} (h : chr l = true) : ∀ b ∈ l, 32 ≤ b.toNat ∧ b.toNat < 96 := by
  unfold chr at h
  rw [List.all_eq_true] at h
  exact fun b hb => by simpa using h b hb
def parse (s : List UInt8) : List UInt8 × Int := if chr s then (s.map (· - 32), 0) else ([], 2)
theorem sub32 (x : UInt8) (h : 32 ≤ x.toNat) : (x - 32).toNat = x.toNat - 32 := by
  rw [UInt8.toNat_sub]
  have : (32 : UInt8).toNat = 32 := rfl
  have := x.toNat_lt
  omega
theorem text_parse (s : List UInt8) (h : chr s = true) : text (parse s).1 = s := by
  unfold parse
  rw [h, if_pos rfl]
  have hv : valid (s.map (· - 32)) = true := valid_ok fun b hb => by
    obtain ⟨x, hx, rfl⟩ := List.mem_map.1 hb
    have := chr_at h x hx
    rw [sub32 x this.1]
    omega
  unfold text
  rw [hv, if_pos rfl, List.map_map]
  conv => rhs; rw [← List.map_id s]
  apply List.map_congr_left
  intro x hx
  have := chr_at h x hx
  apply UInt8.toNat_inj.1
  show (32 + (x - 32)).toNat = x.toNat
  rw [UInt8.toNat_add, sub32 x this.1]
  have : (32 : UInt8).toNat = 32 := rfl
  have := x.toNat_lt
  omega
theorem parse_text (l : List UInt8) (h : valid l = true) : parse (text l) = (l, 0) := by
  have ht : text l = l.map (32 + ·) := by unfold text; rw [h]; rfl
  have hx : ∀ x ∈ l, (32 + x).toNat = 32 + x.toNat := fun x hx => by
    have := valid_at h x hx
    rw [UInt8.toNat_add]
    have : (32 : UInt8).toNat = 32 := rfl
    omega
  have hc : chr (text l) = true := chr_ok fun b hb => by
    rw [ht] at hb
    obtain ⟨x, hm, rfl⟩ := List.mem_map.1 hb
    have := valid_at h x hm
    rw [hx x hm]
    omega
  unfold parse
  rw [hc, if_pos rfl, ht, List.map_map]
  congr 1
  conv => rhs; rw [← List.map_id l]
  apply List.map_congr_left
  intro x hm
  apply UInt8.toNat_inj.1
  show (32 + x - 32).toNat = x.toNat
  rw [sub32 _ (by rw [hx x hm]; omega), hx x hm]
  omega
theorem parse_empty_ok (l : List UInt8) (h : valid l = false) : text l = [] := by unfold text; rw [h]; rfl
end Ce
theorem S_take (l : List UInt8) (k : Nat) : (S l).extract 0 k = S (l.take k) := by
  apply ByteArray.ext
  unfold S
  simp
end Go.Proofs.YtdjmfjmijpfijaaDoor
