/-
  Tables: SameSteps of the reference, at equal steps; by contract.
-/
import Derived.Test.YtbcfndhnopmbbaaTabPl
namespace Go.Proofs.Ytbcfndhnopmbbaa
open Go.RowKit
set_option linter.unusedVariables false
set_option linter.unusedSimpArgs false
set_option maxHeartbeats 8000000 in
set_option maxRecDepth 100000 in
theorem sameSteps_any (v1 v2 : Value) (xs ys : List Stp) (w : World) (h1 : StepsAt w v1 xs) (h2 : StepsAt w v2 ys) (he : xs.map (·.sp) = ys.map (·.sp)) :
    Calls Try.prog 25 #[v1, v2] w fun e w' => e = .returned (.bool true) ∧ Below w.heap.size w w' := by
  obtain ⟨A, c, rfl, _, h96, hr, hbs⟩ := h1
  obtain ⟨B, d, rfl, _, _, hr2, hbs2⟩ := h2
  have hyl : ys.length = xs.length := by have := congrArg List.length he; simpa using this.symm
  have HR := hide hr
  have HR2 := hide hr2
  have HE := hide he
  have HXB := hide hbs
  have HYB := hide hbs2
  have HW := hide (Below.refl w.heap.size w)
  have HYL := hide hyl
  rw [hyl]
  obtain ⟨m, hm⟩ : ∃ m, m = xs.length := ⟨_, rfl⟩
  have HM := hide hm
  rw [← hm] at h96 ⊢
  have hmi : (m : Int) ≤ 96 := by omega
  have hne : ((m : Int) != (m : Int)) = false := by simp
  clear hr hr2 he hbs hbs2 hm hyl
  go_enter Try.func25, Try.ntmps25
  go_wp2
  go_loopw [5] (fun s wr => ∃ (k q : Nat), k ≤ m ∧ s = .int .i64 (k : Int) ∧ wr = w.drewN q) (fun s _ => m - (intOf s).toNat)
  case atStart => exact ⟨0, 0, by omega, rfl, rfl⟩
  case round =>
    obtain ⟨k, q, hk, rfl, rfl⟩ := hrel
    have hk0 : (0 : Int) ≤ (k : Int) := by omega
    by_cases hlt : k < m
    · have hkx : k < xs.length := by rw [← HM.out]; exact hlt
      have hky : k < ys.length := by rw [HYL.out]; exact hkx
      obtain ⟨ad, rfl, hadb, hcs⟩ := reads_step HR.out k hkx
      obtain ⟨bd, rfl, hbdb, hct⟩ := reads_step HR2.out k hky
      have hsp : ys[k].sp = xs[k].sp := by
        have h := congrArg (fun z => z[k]?) HE.out
        simp only [List.getElem?_map, List.getElem?_eq_getElem hkx, List.getElem?_eq_getElem hky, Option.map_some, Option.some.injEq] at h
        exact h.symm
      have f0 : w.cell? (ad.add (k * 6)) = some (.int .i64 xs[k].sp.to.lang) := hcs 0 _ rfl
      have f1 : w.cell? ⟨(ad.add (k * 6)).block, (ad.add (k * 6)).off + 1, none⟩ = some (.bool xs[k].sp.to.num) := hcs 1 _ rfl
      have f2 : w.cell? ⟨(ad.add (k * 6)).block, (ad.add (k * 6)).off + 2, none⟩ = some (.bool xs[k].sp.to.inn) := hcs 2 _ rfl
      have f3 : w.cell? ⟨(ad.add (k * 6)).block, (ad.add (k * 6)).off + 3, none⟩ = some (.int .i64 (xs[k].sp.len : Int)) := hcs 3 _ rfl
      have f4 : w.cell? ⟨(ad.add (k * 6)).block, (ad.add (k * 6)).off + 4, none⟩ = some (.slice xs[k].ad xs[k].sp.cells.length xs[k].c) := hcs 4 _ rfl
      have f5 : w.cell? ⟨(ad.add (k * 6)).block, (ad.add (k * 6)).off + 5, none⟩ = some (.int .i64 xs[k].sp.rule) := hcs 5 _ rfl
      have e0 : w.cell? (bd.add (k * 6)) = some (.int .i64 xs[k].sp.to.lang) := by have h := hct 0 _ rfl; rw [hsp] at h; exact h
      have e1 : w.cell? ⟨(bd.add (k * 6)).block, (bd.add (k * 6)).off + 1, none⟩ = some (.bool xs[k].sp.to.num) := by have h := hct 1 _ rfl; rw [hsp] at h; exact h
      have e2 : w.cell? ⟨(bd.add (k * 6)).block, (bd.add (k * 6)).off + 2, none⟩ = some (.bool xs[k].sp.to.inn) := by have h := hct 2 _ rfl; rw [hsp] at h; exact h
      have e3 : w.cell? ⟨(bd.add (k * 6)).block, (bd.add (k * 6)).off + 3, none⟩ = some (.int .i64 (xs[k].sp.len : Int)) := by have h := hct 3 _ rfl; rw [hsp] at h; exact h
      have e4 : w.cell? ⟨(bd.add (k * 6)).block, (bd.add (k * 6)).off + 4, none⟩ = some (.slice ys[k].ad xs[k].sp.cells.length ys[k].c) := by have h := hct 4 _ rfl; rw [hsp] at h; exact h
      have e5 : w.cell? ⟨(bd.add (k * 6)).block, (bd.add (k * 6)).off + 5, none⟩ = some (.int .i64 xs[k].sp.rule) := by have h := hct 5 _ rfl; rw [hsp] at h; exact h
      have hb1 := HXB.out xs[k] (List.getElem_mem hkx)
      have hb2 := HYB.out ys[k] (List.getElem_mem hky)
      have CS := hide (fun (j : Nat) => (show Calls Try.prog 52 #[.slice xs[k].ad xs[k].sp.cells.length xs[k].c, .slice ys[k].ad xs[k].sp.cells.length ys[k].c] (w.drewN (q + j)) fun e w' => e = .returned (.bool true) ∧ ∃ z, w' = w.drewN (q + z) by
        have h2 : BsAt w w.heap.size ⟨xs[k].sp.cells, ys[k].ad, ys[k].c⟩ := by have h := hb2; unfold bsOf at h; rw [hsp] at h; exact h
        have h := same_any xs[k].ad ys[k].ad xs[k].c ys[k].c xs[k].sp.cells xs[k].sp.cells (w.drewN (q + j)) hb1.1 h2.1 hb1.2.2
        rw [decide_eq_true rfl] at h
        exact h.mono fun e w' ⟨he, z, hz⟩ => ⟨he, j + z, by rw [hz, World.drewN_drewN, Nat.add_assoc]⟩))
      have hk1 : (k : Int) < (m : Int) := by omega
      have HLT := hide hlt
      generalize xs[k].sp.to.lang = la at *
      generalize xs[k].sp.to.num = nu at *
      generalize xs[k].sp.to.inn = inn at *
      generalize xs[k].sp.len = xl at *
      generalize xs[k].sp.cells.length = xn at *
      generalize xs[k].sp.rule = ru at *
      generalize xs[k].ad = xa at *
      generalize xs[k].c = xc at *
      generalize ys[k].ad = ya at *
      generalize ys[k].c = yc at *
      have hn1 : ((xl : Int) != (xl : Int)) = false := by simp
      have hn2 : (ru != ru) = false := by simp
      have hn3 : (la != la) = false := by simp
      have hn4 : (nu != nu) = false := by simp
      have hn5 : (inn != inn) = false := by simp
      have hn6 : (la == la) = true := by simp
      have hn7 : (nu == nu) = true := by simp
      have hn8 : (inn == inn) = true := by simp
      clear hsp hb1 hb2 hcs hct hkx hky hlt
      go_wp2
      go_quiet (first | (go_at_call 52; exact unhide CS _))
      go_wp2
      have hk2 : k < m := HLT.out
      refine ⟨⟨k + 1, q + nq, by omega, rfl, rfl⟩, ?_⟩
      simp only [intOf]
      omega
    · obtain rfl : k = m := by omega
      have hnt : ¬ ((k : Int) < (k : Int)) := by omega
      clear hlt
      go_wp2
      go_ret
      exact ⟨rfl, below_drewN HW.out _⟩
end Go.Proofs.Ytbcfndhnopmbbaa
