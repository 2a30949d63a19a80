/-
  Tables: in memory; the small functions of package table, by contract.
-/
import Derived.Test.YtbcfndhnopmbbaaBase
import Derived.Test.YtbcfndhnopmbbaaTabP
namespace Go.Proofs.Ytbcfndhnopmbbaa
open Go.RowKit
set_option linter.unusedVariables false
set_option linter.unusedSimpArgs false
/-- a byte as a value -/
def VC (c : UInt8) : Value := .int .u8 (c.toNat : Int)
section
variable (c : UInt8) (w : World)
set_option maxHeartbeats 400000 in
theorem small_any : Calls Try.prog 51 #[VC c] w fun e w' => e = .returned (.bool (Tb.small c)) ∧ w = w' := by
  unfold VC
  have HS := hide (show Tb.small c = decide (97 ≤ c.toNat ∧ c.toNat ≤ 122) from rfl)
  generalize Tb.small c = r at *
  generalize c.toNat = n at *
  by_cases h1 : (97 : Int) ≤ (n : Int)
  · by_cases h2 : (n : Int) ≤ 122
    · go_enter Try.func51, Try.ntmps51
      go_wp2
      go_ret
      exact ⟨by rw [HS.out, decide_eq_true (by omega)]; rfl, rfl⟩
    · go_enter Try.func51, Try.ntmps51
      go_wp2
      go_ret
      exact ⟨by rw [HS.out, decide_eq_false (by omega)]; rfl, rfl⟩
  · go_enter Try.func51, Try.ntmps51
    go_wp2
    go_ret
    exact ⟨by rw [HS.out, decide_eq_false (by omega)]; rfl, rfl⟩
set_option maxHeartbeats 400000 in
theorem digit_any : Calls Try.prog 54 #[VC c] w fun e w' => e = .returned (.bool (Tb.digit c)) ∧ w = w' := by
  unfold VC
  have HS := hide (show Tb.digit c = decide (48 ≤ c.toNat ∧ c.toNat ≤ 57) from rfl)
  generalize Tb.digit c = r at *
  generalize c.toNat = n at *
  by_cases h1 : (48 : Int) ≤ (n : Int)
  · by_cases h2 : (n : Int) ≤ 57
    · go_enter Try.func54, Try.ntmps54
      go_wp2
      go_ret
      exact ⟨by rw [HS.out, decide_eq_true (by omega)]; rfl, rfl⟩
    · go_enter Try.func54, Try.ntmps54
      go_wp2
      go_ret
      exact ⟨by rw [HS.out, decide_eq_false (by omega)]; rfl, rfl⟩
  · go_enter Try.func54, Try.ntmps54
    go_wp2
    go_ret
    exact ⟨by rw [HS.out, decide_eq_false (by omega)]; rfl, rfl⟩
set_option maxHeartbeats 400000 in
theorem character_any : Calls Try.prog 47 #[VC c] w fun e w' => e = .returned (.bool (Tb.written c)) ∧ w = w' := by
  unfold VC
  have HS := hide (show Tb.written c = decide (32 ≤ c.toNat ∧ c.toNat ≤ 126) from rfl)
  generalize Tb.written c = r at *
  generalize c.toNat = n at *
  by_cases h1 : (32 : Int) ≤ (n : Int)
  · by_cases h2 : (n : Int) ≤ 126
    · go_enter Try.func47, Try.ntmps47
      go_wp2
      go_ret
      exact ⟨by rw [HS.out, decide_eq_true (by omega)]; rfl, rfl⟩
    · go_enter Try.func47, Try.ntmps47
      go_wp2
      go_ret
      exact ⟨by rw [HS.out, decide_eq_false (by omega)]; rfl, rfl⟩
  · go_enter Try.func47, Try.ntmps47
    go_wp2
    go_ret
    exact ⟨by rw [HS.out, decide_eq_false (by omega)]; rfl, rfl⟩
set_option maxHeartbeats 400000 in
theorem filled_any : Calls Try.prog 60 #[VC c] w fun e w' => e = .returned (.bool (Tb.filled c)) ∧ w = w' := by
  unfold VC
  have HS := hide (show Tb.filled c = decide (1 ≤ c.toNat ∧ c.toNat ≤ 63) from rfl)
  generalize Tb.filled c = r at *
  generalize c.toNat = n at *
  by_cases h1 : (1 : Int) ≤ (n : Int)
  · by_cases h2 : (n : Int) ≤ 63
    · go_enter Try.func60, Try.ntmps60
      go_wp2
      go_ret
      exact ⟨by rw [HS.out, decide_eq_true (by omega)]; rfl, rfl⟩
    · go_enter Try.func60, Try.ntmps60
      go_wp2
      go_ret
      exact ⟨by rw [HS.out, decide_eq_false (by omega)]; rfl, rfl⟩
  · go_enter Try.func60, Try.ntmps60
    go_wp2
    go_ret
    exact ⟨by rw [HS.out, decide_eq_false (by omega)]; rfl, rfl⟩
set_option maxHeartbeats 400000 in
theorem language_any (x : Int) : Calls Try.prog 45 #[.int .i64 x] w fun e w' => e = .returned (.bool (Tb.langOk x)) ∧ w = w' := by
  have HS := hide (show Tb.langOk x = decide (0 ≤ x ∧ x < 2) from rfl)
  generalize Tb.langOk x = r at *
  by_cases h1 : (0 : Int) ≤ x
  · by_cases h2 : x < 2
    · go_enter Try.func45, Try.ntmps45
      go_wp2
      go_ret
      exact ⟨by rw [HS.out, decide_eq_true (by omega)]; rfl, rfl⟩
    · go_enter Try.func45, Try.ntmps45
      go_wp2
      go_ret
      exact ⟨by rw [HS.out, decide_eq_false (by omega)]; rfl, rfl⟩
  · go_enter Try.func45, Try.ntmps45
    go_wp2
    go_ret
    exact ⟨by rw [HS.out, decide_eq_false (by omega)]; rfl, rfl⟩
set_option maxHeartbeats 800000 in
theorem letter_any : Calls Try.prog 22 #[VC c] w fun e w' => e = .returned (.tuple #[VC (Tb.low c), .bool (Tb.letter c), .bool (Tb.capital c)]) ∧ w = w' := by
  have CS := hide (small_any c w)
  have HL := hide (show Tb.letter c = (Tb.small c || Tb.capital c) from rfl)
  have HC := hide (show Tb.capital c = decide (65 ≤ c.toNat ∧ c.toNat ≤ 90) from rfl)
  have HW := hide (show Tb.low c = if Tb.capital c then c + 32 else c from rfl)
  have HS := hide (show Tb.small c = decide (97 ≤ c.toNat ∧ c.toNat ≤ 122) from rfl)
  have hA := hide (show (c + 32).toNat = (c.toNat + 32) % 256 by rw [UInt8.toNat_add]; rfl)
  have hc := c.toNat_lt
  by_cases h0 : 97 ≤ c.toNat ∧ c.toNat ≤ 122
  · have e1 : Tb.small c = true := by rw [HS.out, decide_eq_true h0]
    have e2 : Tb.capital c = false := by rw [HC.out, decide_eq_false (by omega)]
    have e3 := hide (show Tb.letter c = true by rw [HL.out, e1]; rfl)
    have e4 := hide (show Tb.low c = c by rw [HW.out, e2]; rfl)
    rw [e1] at CS
    unfold VC at CS ⊢
    rw [e4.out, e3.out, e2]
    clear HL HC HW HS hA e1 e2 e3 e4 h0
    generalize c.toNat = n at *
    go_enter Try.func22, Try.ntmps22
    go_wp2_with (go_at_call 51; refine (unhide CS).mono ?_; rintro e w1 ⟨rfl, rfl⟩)
    go_ret3
    exact ⟨rfl, rfl⟩
  · have e1 : Tb.small c = false := by rw [HS.out, decide_eq_false h0]
    rw [e1] at CS
    by_cases h1 : (65 : Int) ≤ (c.toNat : Int)
    · by_cases h2 : (c.toNat : Int) ≤ 90
      · have e2 : Tb.capital c = true := by rw [HC.out, decide_eq_true (by omega)]
        have e3 := hide (show Tb.letter c = true by rw [HL.out, e2, Bool.or_true])
        have e4 := hide (show ((Tb.low c).toNat : Int) = (c.toNat : Int) - 65 + 97 by rw [HW.out, e2, if_pos rfl, hA.out]; omega)
        unfold VC at CS ⊢
        rw [e4.out, e3.out, e2]
        clear HL HC HW HS hA e1 e2 e3 e4 h0
        generalize c.toNat = n at *
        go_enter Try.func22, Try.ntmps22
        go_wp2_with (go_at_call 51; refine (unhide CS).mono ?_; rintro e w1 ⟨rfl, rfl⟩)
        go_ret3
        exact ⟨by congr 3 <;> (try congr 1) <;> omega, rfl⟩
      · have e2 : Tb.capital c = false := by rw [HC.out, decide_eq_false (by omega)]
        have e3 := hide (show Tb.letter c = false by rw [HL.out, e1, e2]; rfl)
        have e4 := hide (show Tb.low c = c by rw [HW.out, e2]; rfl)
        unfold VC at CS ⊢
        rw [e4.out, e3.out, e2]
        clear HL HC HW HS hA e1 e2 e3 e4 h0
        generalize c.toNat = n at *
        go_enter Try.func22, Try.ntmps22
        go_wp2_with (go_at_call 51; refine (unhide CS).mono ?_; rintro e w1 ⟨rfl, rfl⟩)
        go_ret3
        exact ⟨rfl, rfl⟩
    · have e2 : Tb.capital c = false := by rw [HC.out, decide_eq_false (by omega)]
      have e3 := hide (show Tb.letter c = false by rw [HL.out, e1, e2]; rfl)
      have e4 := hide (show Tb.low c = c by rw [HW.out, e2]; rfl)
      unfold VC at CS ⊢
      rw [e4.out, e3.out, e2]
      clear HL HC HW HS hA e1 e2 e3 e4 h0
      generalize c.toNat = n at *
      go_enter Try.func22, Try.ntmps22
      go_wp2_with (go_at_call 51; refine (unhide CS).mono ?_; rintro e w1 ⟨rfl, rfl⟩)
      go_ret3
      exact ⟨rfl, rfl⟩
set_option maxHeartbeats 800000 in
theorem mark_any : Calls Try.prog 66 #[VC c] w fun e w' => e = .returned (.bool (Tb.mark c)) ∧ w = w' := by
  have CL := hide (letter_any c w)
  have CC := hide (character_any c w)
  have CD := hide (digit_any c w)
  have HM := hide (show Tb.mark c = (Tb.written c && !Tb.letter c && !Tb.digit c) from rfl)
  unfold VC at *
  generalize Tb.mark c = m at *
  generalize Tb.written c = b1 at *
  generalize Tb.letter c = b2 at *
  generalize Tb.digit c = b3 at *
  generalize Tb.capital c = b4 at *
  generalize (Tb.low c).toNat = n2 at *
  generalize c.toNat = n at *
  cases b1 <;> cases b2 <;> cases b3 <;>
  · rw [HM.out]
    clear HM
    go_enter Try.func66, Try.ntmps66
    go_wp2_with (first
      | (go_at_call 22; refine (unhide CL).mono ?_; rintro e w1 ⟨rfl, rfl⟩)
      | (go_at_call 47; refine (unhide CC).mono ?_; rintro e w1 ⟨rfl, rfl⟩)
      | (go_at_call 54; refine (unhide CD).mono ?_; rintro e w1 ⟨rfl, rfl⟩))
    go_ret
    exact ⟨rfl, rfl⟩
end
end Go.Proofs.Ytbcfndhnopmbbaa
