/-
  Proved: TableLocal answers true, for every number, any three lists of numbers, every place and both states of writing, whatever the memory holds; on the conditions that the row itself states.
-/
import Derived.Test.YtonjcnkolgbomaaRows
import Derived.Test.YtonjcnkolgbomaaWrapT
import Derived.Test.YtonjcnkolgbomaaTabLw
namespace Go.Proofs.Ytonjcnkolgbomaa.tableLocal
open Go.ChangeShapes Go.WideShapes Go.ChangeAt Go.RowKit Go.ChangeMaps
set_option linter.unusedVariables false
set_option maxRecDepth 100000 in
theorem contract (H : Type) (enc : TypeId × Value → H) (W : World) (base : Nat) (args : Array Value) (ds gs : List (DataW H)) (before : List MemPlace)
    (hval : ∀ (j : Nat) t v, Try.f7.params[j]? = some t → args[j]? = some v → Value.okWide Try.prog W .any base t v)
    (hW : DataW.Whole enc Try.prog Try.f7.params.toList Rows.tableLocalSpec.vars false W args.toList ds gs before)
    (hsz : (DataW.weightsEach Try.prog (Try.f7.params.toList ++ []) (ds ++ gs)).all (· ≤ reachBytes) = true) :
    Calls Try.prog 7 args W fun e W' => ∃ v, e = .returned v ∧ Rows.tableLocalSpec.post enc Try.prog Try.f7 false true false false W args v W' := by
  have hW' := hW
  obtain ⟨p, q, hA0, hV, rfl, hfz, hnd⟩ := hW
  have hA : DataW.TrodAll enc Try.prog W 0 (fun _ => true) true Try.f7.params.toList args.toList ds p := hA0
  rw [Try.params7] at hA hval hsz
  obtain ⟨v0, vs0, d0, ds0, p0, q0, hargs, rfl, rfl, h0, r0⟩ := trodAll_cons hA
  obtain ⟨v1, vs1, d1, ds1, p1, q1, rfl, rfl, rfl, h1, r1⟩ := trodAll_cons r0
  obtain ⟨v2, vs2, d2, ds2, p2, q2, rfl, rfl, rfl, h2, r2⟩ := trodAll_cons r1
  obtain ⟨v3, vs3, d3, ds3, p3, q3, rfl, rfl, rfl, h3, r3⟩ := trodAll_cons r2
  obtain ⟨v4, vs4, d4, ds4, p4, q4, rfl, rfl, rfl, h4, r4⟩ := trodAll_cons r3
  obtain ⟨v5, vs5, d5, ds5, p5, q5, rfl, rfl, rfl, h5, r5⟩ := trodAll_cons r4
  obtain ⟨rfl, rfl, rfl⟩ := trodAll_nil r5
  obtain rfl : args = #[v0, v1, v2, v3, v4, v5] := by cases args; simp_all
  obtain ⟨rfl, rfl⟩ := trodVars_none hV
  simp only [List.append_nil] at hsz
  obtain ⟨a0, rfl, e0, _, w0⟩ := open_int Try.underlying3 (hval 0 3 v0 rfl rfl) h0
  obtain ⟨A1, n1, c1, l1, rfl, hr1, hn1, hc1, hk1, hNil1, hx1⟩ := open_intRow (hval 1 38 v1 rfl rfl) h1
  have hq1 := capped_sized hsz (j := 1) (t := 38) (e := 3) rfl rfl Try.underlying38 hk1
  rw [bytes_int] at hq1
  obtain ⟨A2, n2, c2, l2, rfl, hr2, hn2, hc2, hk2, hNil2, hx2⟩ := open_intRow (hval 2 38 v2 rfl rfl) h2
  have hq2 := capped_sized hsz (j := 2) (t := 38) (e := 3) rfl rfl Try.underlying38 hk2
  rw [bytes_int] at hq2
  obtain ⟨A3, n3, c3, l3, rfl, hr3, hn3, hc3, hk3, hNil3, hx3⟩ := open_intRow (hval 3 38 v3 rfl rfl) h3
  have hq3 := capped_sized hsz (j := 3) (t := 38) (e := 3) rfl rfl Try.underlying38 hk3
  rw [bytes_int] at hq3
  obtain ⟨a4, rfl, e4, _, w4⟩ := open_int Try.underlying3 (hval 4 3 v4 rfl rfl) h4
  obtain ⟨b5, rfl, _⟩ := open_bool Try.underlying4 (hval 5 4 v5 rfl rfl) h5
  have hl1 : n1 = l1.length := by have := hr1.1; simpa using this.symm
  have hl2 : n2 = l2.length := by have := hr2.1; simpa using this.symm
  have hl3 : n3 = l3.length := by have := hr3.1; simpa using this.symm
  subst hl1
  subst hl2
  subst hl3
  refine (local_walk a0 A1 c1 l1 A2 c2 l2 A3 c3 l3 a4 b5 W (inI_of_wf w0) (inI_of_wf w4) ⟨hr1, hx1, by omega⟩ ⟨hr2, hx2, by omega⟩ ⟨hr3, hx3, by omega⟩ (tables_any a0 (inI_of_wf w0)) (lives_any example_any)).mono fun e W' ⟨he, hb⟩ => ?_
  subst he
  exact ⟨_, rfl, post_law laidOut (by kernel_rfl) rfl (by kernel_rfl) Try.underlying4 rfl hW' hb⟩

set_option maxRecDepth 100000 in
theorem lifted (os : Os) (started : os.Started) (H : Type) (enc : TypeId × Value → H) :
    ReturnsInHanded {} Try.checked os 7 .any (Rows.tableLocalSpec.pre6 enc Try.prog Try.f7 Rows.tableLocalRow.domain false) (Rows.tableLocalSpec.post enc Try.prog Try.f7 false true false false) := by
  refine returnsInHanded_of_change_sized (C := Try.checked) own started (by kernel_rfl) Try.func7
    (ChangeSpec.witness6 (enc := enc) (C := Try.checked) false ⟨#[], #[.int .i64 0, .slice none 0 0, .slice none 0 0, .slice none 0 0, .int .i64 0, .bool false], []⟩ 8 (by kernel_rfl) (by kernel_rfl) (by kernel_rfl) (by kernel_rfl)) ?_
  intro W base args ds gs before hval hW hcnd hsz _
  exact contract H enc W base args ds gs before hval hW hsz

theorem over : Rows.tableLocalRow.holds Try.pinned (OpenSpec.ofChange Rows.tableLocalSpec) :=
  OpenClaim.holds_of_wide 7 Try.f7 rfl rfl rfl rfl rfl rfl rfl ⟨rfl, rfl, rfl, rfl, rfl⟩ rfl rfl rfl rfl rfl (by kernel_rfl) Try.func7 (by kernel_rfl)
    (of_decide_eq_true (by kernel_rfl)) (by unfold Func.isWrapper; first | (rw [if_pos (by decide +kernel)]; kernel_rfl) | (rw [if_neg (by decide +kernel)]; exact ⟨rfl, rfl⟩))
    (fun os started H enc _ => lifted os started H enc)

theorem proved : Rows.TableLocalSaid :=
  over
#print axioms proved
end Go.Proofs.Ytonjcnkolgbomaa.tableLocal
