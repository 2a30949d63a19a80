/-
  Cells: number, Count, Equal, SameRaster, Few, by contract.
-/
import Derived.Test.YtdjmfjmijpfijaaDoorUnpackD
namespace Go.Proofs.YtdjmfjmijpfijaaDoor
open Go.RowKit
set_option linter.unusedVariables false
set_option linter.unusedSimpArgs false
namespace Ce
/-- how many dots a cell has among the first i -/
def cntTo (c i : Nat) : Nat := ((List.range i).filter (on c)).length
theorem cntTo_succ (c i : Nat) : cntTo c (i + 1) = cntTo c i + (if on c i then 1 else 0) := by
  unfold cntTo
  rw [List.range_succ, List.filter_append, List.length_append]
  cases h : on c i <;> simp [h]
theorem cntTo_le (c : Nat) : ∀ i, cntTo c i ≤ i := fun i => by
  unfold cntTo
  exact Nat.le_trans (List.length_filter_le _ _) (by simp)
def num (c : Nat) : Nat := cntTo c 6
theorem num_le (c : Nat) : num c ≤ 6 := cntTo_le c 6
/-- bytes other than 0, and dots, of a line -/
def nz (l : List UInt8) : Nat := (l.filter fun b => b.toNat != 0).length
def nd (l : List UInt8) : Nat := (l.map fun b => num b.toNat).sum
theorem nz_snoc (l : List UInt8) (b : UInt8) : nz (l ++ [b]) = nz l + (if b.toNat = 0 then 0 else 1) := by
  unfold nz
  rw [List.filter_append, List.length_append]
  by_cases h : b.toNat = 0
  · simp [h]
  · simp [h]
theorem nd_snoc (l : List UInt8) (b : UInt8) : nd (l ++ [b]) = nd l + num b.toNat := by simp [nd]
def nzs (ls : List (List UInt8)) : Nat := (ls.map nz).sum
def nds (ls : List (List UInt8)) : Nat := (ls.map nd).sum
theorem nzs_snoc (ls : List (List UInt8)) (l : List UInt8) : nzs (ls ++ [l]) = nzs ls + nz l := by simp [nzs]
theorem nds_snoc (ls : List (List UInt8)) (l : List UInt8) : nds (ls ++ [l]) = nds ls + nd l := by simp [nds]
theorem nz_le (l : List UInt8) : nz l ≤ l.length := List.length_filter_le _ _
theorem nd_le : ∀ (l : List UInt8), nd l ≤ 6 * l.length
  | [] => by simp [nd]
  | b :: r => by
    have h1 := nd_le r
    have h2 := num_le b.toNat
    unfold nd at *
    rw [List.map_cons, List.sum_cons, List.length_cons]
    omega
theorem nzs_le (B : Nat) : ∀ (ls : List (List UInt8)), (∀ l ∈ ls, l.length ≤ B) → nzs ls ≤ B * ls.length
  | [], _ => by simp [nzs]
  | l :: r, h => by
    have h1 := nzs_le B r (fun x hx => h x (List.mem_cons_of_mem _ hx))
    have h2 := nz_le l
    have h3 := h l (by simp)
    unfold nzs at *
    rw [List.map_cons, List.sum_cons, List.length_cons, Nat.mul_add]
    omega
theorem nds_le (B : Nat) : ∀ (ls : List (List UInt8)), (∀ l ∈ ls, l.length ≤ B) → nds ls ≤ 6 * B * ls.length
  | [], _ => by simp [nds]
  | l :: r, h => by
    have h1 := nds_le B r (fun x hx => h x (List.mem_cons_of_mem _ hx))
    have h2 := nd_le l
    have h3 := h l (by simp)
    unfold nds at *
    rw [List.map_cons, List.sum_cons, List.length_cons, Nat.mul_add]
    omega
end Ce
set_option maxHeartbeats 1000000 in
set_option maxRecDepth 100000 in
theorem number_any (c : UInt8) (w : World) :
    Calls Tryd.prog 19 #[.int .u8 ((c.toNat : Nat) : Int)] w fun e w' => e = .returned (.int .i64 ((Ce.num c.toNat : Nat) : Int)) ∧ w = w' := by
  have hc := c.toNat_lt
  generalize c.toNat = n at *
  have HC := hide hc
  clear hc
  go_enter Tryd.func19, Tryd.ntmps19
  go_wp2
  go_loopw [5, 3] (fun s5 s3 wr => ∃ i : Nat, i ≤ 6 ∧ s5 = .int .i64 (i : Int) ∧ s3 = .int .i64 ((Ce.cntTo n i : Nat) : Int) ∧ w = wr) (fun s5 _ _ => 6 - (intOf s5).toNat)
  case atStart => exact ⟨0, by omega, rfl, rfl, by first | rfl | trivial⟩
  case round =>
    obtain ⟨i, hi, rfl, rfl, rfl⟩ := hrel
    by_cases hlt : i < 6
    · have hq : n / 2 ^ i < 256 := Nat.lt_of_le_of_lt (Nat.div_le_self _ _) HC.out
      have hand := u8_and_nat (n / 2 ^ i) 1 hq (by omega)
      have hab := Ce.and_bit (n / 2 ^ i) 0 hq (by omega)
      have hon : Ce.on (n / 2 ^ i) 0 = Ce.on n i := by unfold Ce.on; rw [Nat.pow_zero, Nat.div_one]
      rw [Nat.pow_zero, hon] at hab
      rw [hab] at hand
      have HS := hide (Ce.cntTo_succ n i)
      have hcl := Ce.cntTo_le n i
      have HLT := hide hlt
      cases ho : Ce.on n i with
      | true =>
        rw [ho, if_pos rfl] at hand HS
        generalize Ce.cntTo n i = cnt at *
        have h0 : (0 : Int) ≤ (cnt : Int) := by omega
        have h1 : (cnt : Int) ≤ 6 := by omega
        clear hab hon ho hcl
        obtain rfl | rfl | rfl | rfl | rfl | rfl : i = 0 ∨ i = 1 ∨ i = 2 ∨ i = 3 ∨ i = 4 ∨ i = 5 := by omega
        all_goals
          clear hlt
          simp at hand
          go_wp2
          exact ⟨⟨_, HLT.out, by go_num, by rw [HS.out]; first | rfl | go_num, trivial⟩, by simp [intOf]⟩
      | false =>
        rw [ho, if_neg (by simp)] at hand HS
        generalize Ce.cntTo n i = cnt at *
        have h0 : (0 : Int) ≤ (cnt : Int) := by omega
        have h1 : (cnt : Int) ≤ 6 := by omega
        clear hab hon ho hcl
        obtain rfl | rfl | rfl | rfl | rfl | rfl : i = 0 ∨ i = 1 ∨ i = 2 ∨ i = 3 ∨ i = 4 ∨ i = 5 := by omega
        all_goals
          clear hlt
          simp at hand
          go_wp2
          exact ⟨⟨_, HLT.out, by go_num, by rw [HS.out]; first | rfl | go_num, trivial⟩, by simp [intOf]⟩
    · obtain rfl : i = 6 := by omega
      go_wp2
      go_ret
      exact ⟨rfl, by first | rfl | trivial⟩
end Go.Proofs.YtdjmfjmijpfijaaDoor
