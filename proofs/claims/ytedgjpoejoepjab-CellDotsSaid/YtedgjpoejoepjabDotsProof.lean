/-
  Proved: for every byte, every list of numbers and every list of bytes CellDots answers true (Dots, Of, Back and Valid return what the reference does, and Of leads back from Dots). No condition.
-/
import Derived.Test.YtedgjpoejoepjabRows
import Derived.Test.YtedgjpoejoepjabWrapC
import Derived.Test.YtedgjpoejoepjabDotsLaw
namespace Go.Proofs.Ytedgjpoejoepjab.cellDots
open Go.ChangeShapes Go.WideShapes Go.ChangeAt Go.RowKit Go.ChangeMaps
set_option linter.unusedVariables false

theorem contract (H : Type) (enc : TypeId × Value → H) (W : World) (base : Nat) (args : Array Value) (ds gs : List (DataW H)) (before : List MemPlace)
    (hval : ∀ (j : Nat) t v, Try.f3.params[j]? = some t → args[j]? = some v → Value.okWide Try.prog W .any base t v)
    (hW : DataW.Whole enc Try.prog Try.f3.params.toList Rows.cellDotsSpec.vars false W args.toList ds gs before)
    (hsz : (DataW.weightsEach Try.prog (Try.f3.params.toList ++ []) (ds ++ gs)).all (· ≤ reachBytes) = true) :
    Calls Try.prog 3 args W fun e W' => ∃ v, e = .returned v ∧ Rows.cellDotsSpec.post enc Try.prog Try.f3 false true false false W args v W' := by
  have hW' := hW
  obtain ⟨p, q, hA0, hV, rfl, hfz, hnd⟩ := hW
  have hA : DataW.TrodAll enc Try.prog W 0 (fun _ => true) true Try.f3.params.toList args.toList ds p := hA0
  rw [Try.params3] at hA hval hsz
  obtain ⟨v0, vs0, d0, ds0, p0, q0, hargs, rfl, rfl, h0, r0⟩ := trodAll_cons hA
  obtain ⟨v1, vs1, d1, ds1, p1, q1, rfl, rfl, rfl, h1, r1⟩ := trodAll_cons r0
  obtain ⟨v2, vs2, d2, ds2, p2, q2, rfl, rfl, rfl, h2, r2⟩ := trodAll_cons r1
  obtain ⟨rfl, rfl, rfl⟩ := trodAll_nil r2
  obtain rfl : args = #[v0, v1, v2] := by cases args; simp_all
  obtain ⟨rfl, rfl⟩ := trodVars_none hV
  simp only [List.append_nil] at hsz
  obtain ⟨a0, rfl, e0, _, w0⟩ := open_int Try.underlying5 (hval 0 5 v0 rfl rfl) h0
  obtain ⟨A1, n1, c1, l1, rfl, hr1, hn1, hc1, hk1, hA1, hx1⟩ := open_intRow (hval 1 22 v1 rfl rfl) h1
  have hq1 := capped_sized hsz (j := 1) (t := 22) (e := 3) rfl rfl Try.underlying22 hk1
  rw [bytes_int] at hq1
  obtain ⟨A2, n2, c2, l2, rfl, hr2, hn2, hc2, hk2, hA2⟩ := open_bytes (hval 2 23 v2 rfl rfl) h2
  have hq2 := capped_sized hsz (j := 2) (t := 23) (e := 5) rfl rfl Try.underlying23 hk2
  rw [bytes_u8] at hq2
  obtain ⟨b0, hb0⟩ : ∃ b : UInt8, a0 = ((b.toNat : Nat) : Int) := ⟨_, byte_of_wf w0⟩
  subst hb0
  refine (dots_walk b0 A1 A2 n1 c1 n2 c2 l1 l2 W hr1 hn1 hA1 hc1 hr2 hn2 hA2 hc2).mono fun e W' ⟨he, hb⟩ => ?_
  subst he
  exact ⟨_, rfl, post_law laidOut (by kernel_rfl) rfl (by kernel_rfl) Try.underlying4 rfl hW' hb⟩

set_option maxRecDepth 100000 in
theorem lifted (os : Os) (started : os.Started) (H : Type) (enc : TypeId × Value → H) :
    ReturnsInHanded {} Try.checked os 3 .any (Rows.cellDotsSpec.pre6 enc Try.prog Try.f3 Rows.cellDotsRow.domain false) (Rows.cellDotsSpec.post enc Try.prog Try.f3 false true false false) := by
  refine returnsInHanded_of_change_sized (C := Try.checked) own started (by kernel_rfl) Try.func3
    (ChangeSpec.witness6 (enc := enc) (C := Try.checked) false ⟨#[], #[.int .u8 0, .slice none 0 0, .slice none 0 0], []⟩ 8 (by kernel_rfl) (by kernel_rfl) (by kernel_rfl) (by kernel_rfl)) ?_
  intro W base args ds gs before hval hW hcnd hsz _
  exact contract H enc W base args ds gs before hval hW hsz

theorem over : Rows.cellDotsRow.holds Try.pinned (OpenSpec.ofChange Rows.cellDotsSpec) :=
  OpenClaim.holds_of_wide 3 Try.f3 rfl rfl rfl rfl rfl rfl rfl ⟨rfl, rfl, rfl, rfl, rfl⟩ rfl rfl rfl rfl rfl (by kernel_rfl) Try.func3 (by kernel_rfl)
    (of_decide_eq_true (by kernel_rfl)) (by unfold Func.isWrapper; first | (rw [if_pos (by decide +kernel)]; kernel_rfl) | (rw [if_neg (by decide +kernel)]; exact ⟨rfl, rfl⟩))
    (fun os started H enc _ => lifted os started H enc)

theorem proved : Rows.CellDotsSaid :=
  over
#print axioms proved
end Go.Proofs.Ytedgjpoejoepjab.cellDots
