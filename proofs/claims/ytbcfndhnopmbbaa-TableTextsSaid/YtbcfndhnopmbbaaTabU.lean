/-
  Tables: Letter, Is, Digit, cell of the reference, by contract.
-/
import Derived.Test.YtbcfndhnopmbbaaTabT
namespace Go.Proofs.Ytbcfndhnopmbbaa
open Go.RowKit
set_option linter.unusedVariables false
set_option linter.unusedSimpArgs false
section
variable (c : UInt8) (w : World)
set_option maxHeartbeats 800000 in
theorem refLetter_any : Calls Try.prog 23 #[VC c] w fun e w' => e = .returned (.tuple #[VC (Tb.low c), .bool (Tb.letter c), .bool (Tb.capital c)]) ∧ w = w' := by
  have HL := hide (show Tb.letter c = (Tb.small c || Tb.capital c) from rfl)
  have HC := hide (show Tb.capital c = decide (65 ≤ c.toNat ∧ c.toNat ≤ 90) from rfl)
  have HW := hide (show Tb.low c = if Tb.capital c then c + 32 else c from rfl)
  have HS := hide (show Tb.small c = decide (97 ≤ c.toNat ∧ c.toNat ≤ 122) from rfl)
  have hA := hide (show (c + 32).toNat = (c.toNat + 32) % 256 by rw [UInt8.toNat_add]; rfl)
  have hc := c.toNat_lt
  by_cases h97 : (97 : Int) ≤ (c.toNat : Int)
  · by_cases h122 : (c.toNat : Int) ≤ 122
    · have e1 : Tb.small c = true := by rw [HS.out, decide_eq_true (by omega)]
      have e2 : Tb.capital c = false := by rw [HC.out, decide_eq_false (by omega)]
      have e3 := hide (show Tb.letter c = true by rw [HL.out, e1]; rfl)
      have e4 := hide (show Tb.low c = c by rw [HW.out, e2]; rfl)
      unfold VC
      rw [e4.out, e3.out, e2]
      clear HL HC HW HS hA e1 e2 e3 e4
      generalize c.toNat = n at *
      go_enter Try.func23, Try.ntmps23
      go_wp2
      go_ret3
      exact ⟨rfl, rfl⟩
    · have h65 : (65 : Int) ≤ (c.toNat : Int) := by omega
      have h90 : ¬ (c.toNat : Int) ≤ 90 := by omega
      have e1 : Tb.small c = false := by rw [HS.out, decide_eq_false (by omega)]
      have e2 : Tb.capital c = false := by rw [HC.out, decide_eq_false (by omega)]
      have e3 := hide (show Tb.letter c = false by rw [HL.out, e1, e2]; rfl)
      have e4 := hide (show Tb.low c = c by rw [HW.out, e2]; rfl)
      unfold VC
      rw [e4.out, e3.out, e2]
      clear HL HC HW HS hA e1 e2 e3 e4
      generalize c.toNat = n at *
      go_enter Try.func23, Try.ntmps23
      go_wp2
      go_ret3
      exact ⟨rfl, rfl⟩
  · have e1 : Tb.small c = false := by rw [HS.out, decide_eq_false (by omega)]
    by_cases h1 : (65 : Int) ≤ (c.toNat : Int)
    · by_cases h2 : (c.toNat : Int) ≤ 90
      · have e2 : Tb.capital c = true := by rw [HC.out, decide_eq_true (by omega)]
        have e3 := hide (show Tb.letter c = true by rw [HL.out, e2, Bool.or_true])
        have e4 := hide (show ((Tb.low c).toNat : Int) = (c.toNat : Int) + 32 by rw [HW.out, e2, if_pos rfl, hA.out]; omega)
        unfold VC
        rw [e4.out, e3.out, e2]
        clear HL HC HW HS hA e1 e2 e3 e4
        generalize c.toNat = n at *
        go_enter Try.func23, Try.ntmps23
        go_wp2
        go_ret3
        exact ⟨by first | rfl | (congr 3 <;> (try congr 1) <;> omega), rfl⟩
      · have e2 : Tb.capital c = false := by rw [HC.out, decide_eq_false (by omega)]
        have e3 := hide (show Tb.letter c = false by rw [HL.out, e1, e2]; rfl)
        have e4 := hide (show Tb.low c = c by rw [HW.out, e2]; rfl)
        unfold VC
        rw [e4.out, e3.out, e2]
        clear HL HC HW HS hA e1 e2 e3 e4
        generalize c.toNat = n at *
        go_enter Try.func23, Try.ntmps23
        go_wp2
        go_ret3
        exact ⟨rfl, rfl⟩
    · have e2 : Tb.capital c = false := by rw [HC.out, decide_eq_false (by omega)]
      have e3 := hide (show Tb.letter c = false by rw [HL.out, e1, e2]; rfl)
      have e4 := hide (show Tb.low c = c by rw [HW.out, e2]; rfl)
      unfold VC
      rw [e4.out, e3.out, e2]
      clear HL HC HW HS hA e1 e2 e3 e4
      generalize c.toNat = n at *
      go_enter Try.func23, Try.ntmps23
      go_wp2
      go_ret3
      exact ⟨rfl, rfl⟩
set_option maxHeartbeats 400000 in
theorem refIs_any : Calls Try.prog 31 #[VC c] w fun e w' => e = .returned (.bool (Tb.letter c)) ∧ w = w' := by
  have CL := hide (refLetter_any c w)
  unfold VC at *
  generalize Tb.letter c = b2 at *
  generalize Tb.capital c = b4 at *
  generalize (Tb.low c).toNat = n2 at *
  generalize c.toNat = n at *
  go_enter Try.func31, Try.ntmps31
  go_wp2_with (go_at_call 23; refine (unhide CL).mono ?_; rintro e w1 ⟨rfl, rfl⟩)
  go_ret
  exact ⟨rfl, rfl⟩
set_option maxHeartbeats 400000 in
theorem refDigit_any : Calls Try.prog 32 #[VC c] w fun e w' => e = .returned (.bool (Tb.digit c)) ∧ w = w' := by
  unfold VC
  have HS := hide (show Tb.digit c = decide (48 ≤ c.toNat ∧ c.toNat ≤ 57) from rfl)
  generalize Tb.digit c = r at *
  generalize c.toNat = n at *
  by_cases h1 : (48 : Int) ≤ (n : Int)
  · by_cases h2 : (n : Int) ≤ 57
    · go_enter Try.func32, Try.ntmps32
      go_wp2
      go_ret
      exact ⟨by rw [HS.out, decide_eq_true (by omega)]; rfl, rfl⟩
    · go_enter Try.func32, Try.ntmps32
      go_wp2
      go_ret
      exact ⟨by rw [HS.out, decide_eq_false (by omega)]; rfl, rfl⟩
  · go_enter Try.func32, Try.ntmps32
    go_wp2
    go_ret
    exact ⟨by rw [HS.out, decide_eq_false (by omega)]; rfl, rfl⟩
end
namespace Tb
def stepOf (s : Nat) : Nat := [1, 2, 4, 5, 8, 10, 11, 13, 16, 17].getD s 0
/-- the cell with a number -/
def cellN (n : Int) (k : Nat) : Nat := 1 + (k * stepOf (Ce.around n 10) + Ce.around (n.tdiv 10) 63) % 63
def cellC (n : Int) (k : Nat) : UInt8 := UInt8.ofNat (cellN n k)
theorem cellN_lt (n : Int) (k : Nat) : 1 ≤ cellN n k ∧ cellN n k ≤ 63 := by
  unfold cellN
  have := Nat.mod_lt (k * stepOf (Ce.around n 10) + Ce.around (n.tdiv 10) 63) (show 0 < 63 by decide)
  omega
theorem cellC_nat (n : Int) (k : Nat) : (cellC n k).toNat = cellN n k := by
  unfold cellC
  have := cellN_lt n k
  simp only [UInt8.toNat_ofNat']
  omega
end Tb
theorem inI_tdiv (n : Int) (d : Int) (h : Wr.inI n) (hd : 0 < d) : Wr.inI (n.tdiv d) := by
  unfold Wr.inI at *
  have h2 : (n.tdiv d).natAbs ≤ n.natAbs := by rw [Int.natAbs_tdiv]; exact Nat.div_le_self _ _
  by_cases hn : 0 ≤ n
  · have h1 := Int.tdiv_nonneg hn (Int.le_of_lt hd)
    omega
  · have h1 := Int.tdiv_nonneg (a := -n) (by omega) (Int.le_of_lt hd)
    rw [Int.neg_tdiv] at h1
    omega
set_option maxHeartbeats 800000 in
set_option maxRecDepth 100000 in
theorem cell_any (n : Int) (k : Nat) (w : World) (hn : Wr.inI n) (hk : k ≤ 1000) :
    Calls Try.prog 33 #[.int .i64 n, .int .i64 (k : Int)] w fun e w' => e = .returned (VC (Tb.cellC n k)) ∧ Below w.heap.size w w' := by
  have CA := hide (fun W => (show Calls Try.prog 30 #[.int .i64 n, .int .i64 10] W fun e w' => e = .returned (.int .i64 ((Ce.around n 10 : Nat) : Int)) ∧ W = w' from around_any n 10 W hn (by omega) (by omega)))
  have CB := hide (fun W => (show Calls Try.prog 30 #[.int .i64 (n.tdiv 10), .int .i64 63] W fun e w' => e = .returned (.int .i64 ((Ce.around (n.tdiv 10) 63 : Nat) : Int)) ∧ W = w' from around_any (n.tdiv 10) 63 W (inI_tdiv n 10 hn (by omega)) (by omega) (by omega)))
  have hs := Ce.around_lt n 10 (by omega)
  have ht := Ce.around_lt (n.tdiv 10) 63 (by omega)
  have HC := hide (show ((Tb.cellC n k).toNat : Int) = 1 + ((k : Int) * (Tb.stepOf (Ce.around n 10) : Int) + (Ce.around (n.tdiv 10) 63 : Int)) % 63 by
    rw [Tb.cellC_nat]
    unfold Tb.cellN
    omega)
  have hsn : Tb.stepOf (Ce.around n 10) ≤ 17 := by
    have H : ∀ s : Fin 10, Tb.stepOf s.val ≤ 17 := by decide
    exact H ⟨_, hs⟩
  have hcell : (w.alloc (.cells #[.int .i64 1, .int .i64 2, .int .i64 4, .int .i64 5, .int .i64 8, .int .i64 10, .int .i64 11, .int .i64 13, .int .i64 16, .int .i64 17] 3)).cell? ⟨w.heap.size, Ce.around n 10, none⟩ = some (.int .i64 (Tb.stepOf (Ce.around n 10) : Int)) := by
    rw [Blk.cell (Blk.new w _ _)]
    have H : ∀ s : Fin 10, (#[Value.int .i64 1, .int .i64 2, .int .i64 4, .int .i64 5, .int .i64 8, .int .i64 10, .int .i64 11, .int .i64 13, .int .i64 16, .int .i64 17] : Array Value)[s.val]? = some (.int .i64 (Tb.stepOf s.val : Int)) := by
      intro ⟨s, hs⟩
      match s, hs with
      | 0, _ | 1, _ | 2, _ | 3, _ | 4, _ | 5, _ | 6, _ | 7, _ | 8, _ | 9, _ => rfl
    exact H ⟨_, hs⟩
  have HB := hide (below_alloc w (.cells #[.int .i64 1, .int .i64 2, .int .i64 4, .int .i64 5, .int .i64 8, .int .i64 10, .int .i64 11, .int .i64 13, .int .i64 16, .int .i64 17] 3))
  unfold VC
  generalize (Tb.cellC n k).toNat = res at *
  generalize Tb.stepOf (Ce.around n 10) = st at *
  generalize Ce.around n 10 = s at *
  generalize Ce.around (n.tdiv 10) 63 = t at *
  have hs0 : (0 : Int) ≤ (s : Int) := by omega
  have hs1 : (s : Int) < 10 := by omega
  have hmul : (0 : Int) ≤ (k : Int) * (st : Int) ∧ (k : Int) * (st : Int) ≤ 17000 := by
    have : k * st ≤ 1000 * 17 := Nat.mul_le_mul hk hsn
    have h2 : ((k * st : Nat) : Int) = (k : Int) * (st : Int) := Int.natCast_mul k st
    omega
  have hw1 : wrap64 ((k : Int) * (st : Int)) = (k : Int) * (st : Int) := by
    generalize (k : Int) * (st : Int) = ks at *
    unfold wrap64; omega
  have hw2 : wrap64 ((k : Int) * (st : Int) + (t : Int)) = (k : Int) * (st : Int) + (t : Int) := by
    generalize (k : Int) * (st : Int) = ks at *
    unfold wrap64; omega
  have hw3 : wrap64 (n.tdiv 10) = n.tdiv 10 := by
    have h := inI_tdiv n 10 hn (by omega)
    unfold Wr.inI at h
    unfold wrap64; omega
  have hp0 : (0 : Int) ≤ (k : Int) * (st : Int) + (t : Int) := by
    generalize (k : Int) * (st : Int) = ks at *
    omega
  go_enter Try.func33, Try.ntmps33
  go_wp2_with (go_at_call 30; first
    | (with_reducible refine (unhide CA _).mono ?_); rintro e w1 ⟨rfl, rfl⟩
    | (with_reducible refine (unhide CB _).mono ?_); rintro e w1 ⟨rfl, rfl⟩)
  go_ret
  exact ⟨by rw [HC.out]; rfl, HB.out⟩
end Go.Proofs.Ytbcfndhnopmbbaa
