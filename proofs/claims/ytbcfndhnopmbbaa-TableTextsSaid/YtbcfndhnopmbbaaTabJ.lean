/-
  Tables: inside, by contract.
-/
import Derived.Test.YtbcfndhnopmbbaaTabI
namespace Go.Proofs.Ytbcfndhnopmbbaa
open Go.RowKit
set_option linter.unusedVariables false
set_option linter.unusedSimpArgs false
set_option maxHeartbeats 4000000 in
set_option maxRecDepth 100000 in
theorem inside_any (A : Option Addr) (c : Nat) (l : Tb.Text) (p : Nat) (w : World) (hr : TextAt w w.heap.size A l) (hp : p ≤ l.length) :
    Calls Try.prog 67 #[.slice A l.length c, .int .i64 (p : Int)] w fun e w' => e = .returned (.bool (Tb.inside l p)) ∧ Below w.heap.size w w' := by
  have HI := hide (show Tb.inside l p = (decide (0 < p ∧ p < l.length) && decide ((Tb.at_ l (p - 1)).1 = (Tb.at_ l p).1) && Tb.letter (Tb.at_ l (p - 1)).2 && Tb.letter (Tb.at_ l p).2) from rfl)
  have hbig := hr.2
  have HW := hide (Below.refl w.heap.size w)
  by_cases h0 : p = 0
  · subst h0
    have HF := hide (show Tb.inside l 0 = false by rw [HI.out]; rfl)
    generalize Tb.inside l 0 = res at *
    generalize l.length = n at *
    rw [show ((0 : Nat) : Int) = 0 from rfl]
    clear HI hr hp
    go_enter Try.func67, Try.ntmps67
    go_wp2
    go_quiet (fail)
    go_wp2
    go_ret
    exact ⟨by rw [HF.out]; rfl, below_drewN HW.out _⟩
  · by_cases h1 : p = l.length
    · have HF := hide (show Tb.inside l p = false by rw [HI.out, decide_eq_false (by omega)]; rfl)
      generalize Tb.inside l p = res at *
      rw [← h1]
      have d0 : decide (p = 0) = false := decide_eq_false h0
      clear HI hr hp h1 h0
      go_enter Try.func67, Try.ntmps67
      go_wp2
      go_quiet (fail)
      go_wp2
      go_ret
      exact ⟨by rw [HF.out]; rfl, below_drewN HW.out _⟩
    · obtain ⟨q, rfl⟩ : ∃ q, p = q + 1 := ⟨p - 1, by omega⟩
      obtain ⟨ad, rfl, hadb, hc0, hc1⟩ := reads_sym' hr q (by omega)
      obtain ⟨ad', he, _, hc2, hc3⟩ := reads_sym' hr (q + 1) (by omega)
      injection he with he
      subst he
      have HI2 := hide (show Tb.inside l (q + 1) = (decide ((Tb.at_ l q).1 = (Tb.at_ l (q + 1)).1) && Tb.letter (Tb.at_ l q).2 && Tb.letter (Tb.at_ l (q + 1)).2) by rw [HI.out, decide_eq_true (by omega)]; simp)
      have CA := hide (fun W => letter_any (Tb.at_ l q).2 W)
      have CB := hide (fun W => letter_any (Tb.at_ l (q + 1)).2 W)
      clear HI
      unfold VC at CA CB
      generalize Tb.inside l (q + 1) = res at *
      generalize (Tb.low (Tb.at_ l q).2).toNat = sa at *
      generalize (Tb.low (Tb.at_ l (q + 1)).2).toNat = sb at *
      generalize Tb.capital (Tb.at_ l q).2 = ca at *
      generalize Tb.capital (Tb.at_ l (q + 1)).2 = cb at *
      generalize Tb.letter (Tb.at_ l q).2 = la at *
      generalize Tb.letter (Tb.at_ l (q + 1)).2 = lb at *
      generalize (Tb.at_ l q).2.toNat = na at *
      generalize (Tb.at_ l (q + 1)).2.toNat = nb at *
      generalize (Tb.at_ l q).1 = ga at *
      generalize (Tb.at_ l (q + 1)).1 = gb at *
      have hlt : (q : Int) + 1 < (l.length : Int) := by omega
      have hni : (l.length : Int) ≤ 1048576 := by omega
      generalize l.length = n at *
      have hq0 : (0 : Int) ≤ (q : Int) := by omega
      have hq1 : (q : Int) < (n : Int) := by omega
      have d0 : decide ((q : Int) + 1 ≤ 0) = false := decide_eq_false (by omega)
      have d1 : decide ((n : Int) ≤ (q : Int) + 1) = false := decide_eq_false (by omega)
      clear hr hp h0 h1 hbig hadb
      rw [show (((q + 1 : Nat)) : Int) = (q : Int) + 1 from rfl]
      by_cases hg : ga = gb
      · subst hg
        have hne : (ga != ga) = false := by simp
        have HI3 := hide (show res = (la && lb) by rw [HI2.out]; simp)
        clear HI2
        go_enter Try.func67, Try.ntmps67
        go_wp2
        go_quiet (fail)
        cases la with
        | true =>
          go_wp2_with (go_at_call 22; first
            | (with_reducible refine (unhide CA _).mono ?_); rintro e w1 ⟨rfl, rfl⟩
            | (with_reducible refine (unhide CB _).mono ?_); rintro e w1 ⟨rfl, rfl⟩)
          go_ret
          exact ⟨by rw [HI3.out]; rfl, below_drewN HW.out _⟩
        | false =>
          go_wp2_with (go_at_call 22; first
            | (with_reducible refine (unhide CA _).mono ?_); rintro e w1 ⟨rfl, rfl⟩
            | (with_reducible refine (unhide CB _).mono ?_); rintro e w1 ⟨rfl, rfl⟩)
          go_ret
          exact ⟨by rw [HI3.out]; rfl, below_drewN HW.out _⟩
      · have hne : (ga != gb) = true := by rw [bne_iff_ne]; exact hg
        have HF := hide (show res = false by rw [HI2.out, decide_eq_false hg]; rfl)
        clear HI2 hg
        go_enter Try.func67, Try.ntmps67
        go_wp2
        go_quiet (fail)
        go_wp2
        go_ret
        exact ⟨by rw [HF.out]; rfl, below_drewN HW.out _⟩
end Go.Proofs.Ytbcfndhnopmbbaa
