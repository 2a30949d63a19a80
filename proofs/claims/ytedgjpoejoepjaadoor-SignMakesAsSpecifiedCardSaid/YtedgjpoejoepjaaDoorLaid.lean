/-
  What the rows list (the two tables of round constants) is met behind the variables' door, and gives what the walks ask.
-/
import Derived.Test.YtedgjpoejoepjaaDoorWrap
namespace Go.Proofs.YtedgjpoejoepjaaDoor
open Go.ChangeShapes Go.WideShapes Go.ChangeAt Go.WideMaps Go.WideElems Go.RowKit
set_option linter.unusedVariables false
set_option linter.unusedSimpArgs false

abbrev laidTwo : List (String × DataW Unit) := [("dactyl/dactylref02.constants", Rows.laid_dactyl_dactylref02_constants), ("dactyl/hash.round", Rows.laid_dactyl_hash_round)]
abbrev laidOne : List (String × DataW Unit) := [("dactyl/hash.round", Rows.laid_dactyl_hash_round)]
theorem gConstants : Tryd.prog.globalNamed "dactyl/dactylref02.constants" = some 0 := by kernel_rfl
theorem gRound : Tryd.prog.globalNamed "dactyl/hash.round" = some 1 := by kernel_rfl
theorem tConstants : (Tryd.prog.globals[0]?).map (·.type) = some 97 := by kernel_rfl
theorem tRound : (Tryd.prog.globals[1]?).map (·.type) = some 97 := by kernel_rfl
theorem dConstants : (Rows.laid_dactyl_dactylref02_constants : DataW Unit) = tableD := by rfl
theorem dRound : (Rows.laid_dactyl_hash_round : DataW Unit) = tableD := by rfl

theorem door_two (os : Os) (args : Array Value) : laidMetH Tryd.prog laidTwo ((World.doorLaid Tryd.prog 40 os).forCall (fun _ _ => 0) ⟨#[], args, []⟩).memory :=
  laidMetH_of_parts3 (fuel := 8) (laidMet_of_run' 8 (by kernel_rfl) (by kernel_rfl)) (by kernel_rfl) (by kernel_rfl)
theorem door_one (os : Os) (args : Array Value) : laidMetH Tryd.prog laidOne ((World.doorLaid Tryd.prog 40 os).forCall (fun _ _ => 0) ⟨#[], args, []⟩).memory :=
  laidMetH_of_parts3 (fuel := 8) (laidMet_of_run' 8 (by kernel_rfl) (by kernel_rfl)) (by kernel_rfl) (by kernel_rfl)
theorem of_two {W : World} (h : laidMetH Tryd.prog laidTwo W) : RKLaid W ∧ KLaid W := by
  rw [MakeChecks.laidMetH_plain _ _ _ (by kernel_rfl)] at h
  obtain ⟨ps, ⟨g0, t0, cs0, f0, p0, q0, hg0, ht0, hv0, hd0, ⟨g1, t1, cs1, f1, p1, q1, hg1, ht1, hv1, hd1, _, _⟩, _⟩, _, _⟩ := h
  obtain rfl := Option.some.inj (gConstants.symm.trans hg0)
  obtain rfl := Option.some.inj (gRound.symm.trans hg1)
  obtain rfl := Option.some.inj (tConstants.symm.trans ht0)
  obtain rfl := Option.some.inj (tRound.symm.trans ht1)
  rw [dConstants] at hd0
  rw [dRound] at hd1
  exact ⟨row_of_table hg0 hv0 hd0, row_of_table hg1 hv1 hd1⟩
theorem of_one {W : World} (h : laidMetH Tryd.prog laidOne W) : KLaid W := by
  rw [MakeChecks.laidMetH_plain _ _ _ (by kernel_rfl)] at h
  obtain ⟨ps, ⟨g1, t1, cs1, f1, p1, q1, hg1, ht1, hv1, hd1, _, _⟩, _, _⟩ := h
  obtain rfl := Option.some.inj (gRound.symm.trans hg1)
  obtain rfl := Option.some.inj (tRound.symm.trans ht1)
  rw [dRound] at hd1
  exact row_of_table hg1 hv1 hd1
section
variable {H : Type} {enc : TypeId × Value → H} {W : World}
theorem digest_bytes {base : Nat} {spare : Nat → Bool} {held : Bool} {fuel : Nat} {cs : List Value} {x : DataW H × List MemPlace} (h : DataW.trod enc Tryd.prog W base spare held fuel 23 cs = some x) :
    ∃ b : List UInt8, b.length = 16 ∧ cs = BV b := by
  obtain ⟨xs, m, rfl, rfl, hcl, hxl, hel⟩ := DataW.trod_array Tryd.underlying23 h
  have hcs : Tryd.prog.cellsOf 23 = 16 := by kernel_rfl
  have hc1 : Tryd.prog.cellsOf 5 = 1 := by kernel_rfl
  rw [hcs] at hcl
  rw [hc1] at hel
  have each : ∀ i, i < 16 → ∃ c : UInt8, cs[i]? = some (.int .u8 (c.toNat : Int)) := fun i hi => by
    have h1 := hel i hi
    rw [Nat.mul_one, List.getElem?_eq_getElem (by omega)] at h1
    obtain ⟨z, hz, _, hw⟩ := DataW.trod_int Tryd.underlying5 h1
    refine ⟨UInt8.ofNat z.toNat, ?_⟩
    rw [← byte_of_wf hw]
    have h2 := congrArg (fun l => l[0]?) hz
    simpa using h2
  obtain ⟨f, hf⟩ := Deep.choose_lt (α := UInt8) (p := fun i c => cs[i]? = some (.int .u8 (c.toNat : Int))) each
  refine ⟨(List.range 16).map f, by simp, ?_⟩
  apply List.ext_getElem?
  intro i
  by_cases hi : i < 16
  · rw [hf i hi, BV_get _ i (by simpa using hi)]
    simp
  · rw [List.getElem?_eq_none (by omega), List.getElem?_eq_none (by rw [BV_len]; simp; omega)]
theorem open_dig {base : Nat} {v : Value} {d : DataW H} {ps : List MemPlace} (hval : Value.okWide Tryd.prog W .any base 23 v) (h : DataW.Trod enc Tryd.prog W 0 (fun _ => true) true 23 v d ps) :
    ∃ e : List UInt8, v = .agg (BV e).toArray ∧ e.length = 16 := by
  obtain ⟨fuel, hf⟩ := h
  obtain ⟨b, hb, hcs⟩ := digest_bytes hf
  have hl := congrArg List.length hcs
  rw [BV_len, hb] at hl
  cases v
  case agg cs =>
    have h2 : cs.toList = BV b := hcs
    exact ⟨b, by rw [← h2], hb⟩
  all_goals simp [Value.cells] at hl
end
end Go.Proofs.YtedgjpoejoepjaaDoor
