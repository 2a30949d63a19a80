/-
  WireOrder answers true at every two integers: the walk.
-/
import Derived.Test.YtbkpnfejhaedhaaLaw
namespace Go.Proofs.Ytbkpnfejhaedhaa
open Go.RowKit
set_option linter.unusedVariables false
set_option linter.unusedSimpArgs false

set_option maxHeartbeats 1000000 in
set_option maxRecDepth 100000 in
theorem order_walk (m n : Int) (w : World) (hm : Wr.inI m) (hn : Wr.inI n) : Calls Try.prog 5 #[.int .i64 m, .int .i64 n] w fun e w' => e = .returned (.bool true) ∧ Below w.heap.size w w' := by
  have H1 := hide (fun W => int_any m W hm)
  have H2 := hide (fun W => int_any n W hn)
  have hL := ord_less hm hn
  have hE := ord_eq hm hn
  have hP := ord_pre hm hn
  have hP' := ord_pre' hm hn
  generalize Wr.enc m = em at *
  generalize Wr.enc n = en at *
  go_enter Try.func5, Try.ntmps5
  go_upto_region 1 with fail
  go_cut [5, 6] (fun a b wx => a = .string (S em) ∧ b = .string (S en) ∧ Below w.heap.size w wx)
  case first =>
    go_region_with (first
      | (go_at_call_of 14 (Value.int .i64 m); refine (unhide H1 _).mono ?_; rintro e w1 ⟨v1, rfl, hown1, hb1⟩; have hc1 := conv_own hown1 (Below.refl _ _))
      | (go_at_call_of 14 (Value.int .i64 n); refine (unhide H2 _).mono ?_; rintro e w2 ⟨v2, rfl, hown2, hb2⟩; have hc2 := conv_own hown2 (Below.refl _ _); have hc12 := conv_own hown1 hb2))
    all_goals (go_wp2_with fail; go_meet; exact ⟨rfl, rfl, below_drawn (hb1.trans (hb2.mono hb1.size))⟩)
  case rest =>
    obtain ⟨rfl, rfl, hbc⟩ := hcut
    by_cases hsz : (S em).size ≤ (S en).size
    · clear hP'
      go_upto_region 3 with fail
      refine wp_region_below (by kernel_rfl) (by kernel_rfl) ?_
      repeat (refine wpQuiet_step (fun K hK => ?_); go_simp; first
        | (refine hK _ ?_; clear hK K)
        | (refine ⟨_, fun wq hq => rfl, hK _ ?_⟩; clear hK K)
        | (refine ⟨.bool true, fun wq hq => Calls.mono (sanity_any wq) (fun e w' h => And.intro h.1 (hq.trans (h.2.mono hq.size))), hK _ ?_⟩; clear hK K))
      refine wpQuiet_nil ?_
      intro w' hw'
      go_wp2
      go_ret
      exact ⟨rfl, hbc.trans (hw'.mono hbc.size)⟩
    · clear hP
      have hsz' : (S en).size ≤ (S em).size := by omega
      go_upto_region 3 with fail
      refine wp_region_below (by kernel_rfl) (by kernel_rfl) ?_
      repeat (refine wpQuiet_step (fun K hK => ?_); go_simp; first
        | (refine hK _ ?_; clear hK K)
        | (refine ⟨_, fun wq hq => rfl, hK _ ?_⟩; clear hK K)
        | (refine ⟨.bool true, fun wq hq => Calls.mono (sanity_any wq) (fun e w' h => And.intro h.1 (hq.trans (h.2.mono hq.size))), hK _ ?_⟩; clear hK K))
      refine wpQuiet_nil ?_
      intro w' hw'
      go_wp2
      go_ret
      exact ⟨rfl, hbc.trans (hw'.mono hbc.size)⟩

end Go.Proofs.Ytbkpnfejhaedhaa
