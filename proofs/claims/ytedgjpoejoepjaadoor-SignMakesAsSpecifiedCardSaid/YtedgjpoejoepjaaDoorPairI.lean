/-
  A [2]int that came in.
-/
import Derived.Test.YtedgjpoejoepjaaDoorWrap
import Derived.WideKeyPair
namespace Go.Proofs.YtedgjpoejoepjaaDoor
open Go.ChangeShapes Go.WideShapes Go.ChangeAt Go.WideMaps Go.WideElems Go.RowKit Go.ChangeMaps
section
variable {H : Type} {enc : TypeId × Value → H} {W : World}
set_option maxRecDepth 100000 in
theorem pairKeyI : ArrKey Tryd.prog 28 3 2 := by
  constructor <;> first | exact Tryd.underlying28 | kernel_rfl
theorem open_ints2 {base : Nat} {v : Value} {d : DataW H} {ps : List MemPlace} (hval : Value.okWide Tryd.prog W .any base 28 v) (h : DataW.Trod enc Tryd.prog W 0 (fun _ => true) true 28 v d ps) :
    ∃ a b : Int, v = .agg #[.int .i64 a, .int .i64 b] ∧ Wr.inI a ∧ Wr.inI b := by
  obtain ⟨a, b, rfl, _, _, wa, wb⟩ := open_pair pairKeyI Tryd.underlying3 hval h
  exact ⟨a, b, rfl, by simp [Lit.wf] at wa; exact wa, by simp [Lit.wf] at wb; exact wb⟩
end
end Go.Proofs.YtedgjpoejoepjaaDoor
