/-
  Begin and Add at a new stream; stores of whole rows.
-/
import Derived.Test.YtedgjpoejoepjaaDoorSumM
namespace Go.Proofs.YtedgjpoejoepjaaDoor
open Go.RowKit
set_option linter.unusedVariables false
set_option linter.unusedSimpArgs false

theorem begin_st (w : World) : Calls Tryd.prog 52 #[] w fun e w' => e = .returned (.agg (ST []).toArray) ∧ Below w.heap.size w w' := begin_any w
theorem add_new (t : List UInt8) (w : World) (hK : KLaid w) (hm : t.length ≤ 9223372036854775807) :
    Calls Tryd.prog 53 #[.agg (ST []).toArray, .string (S t)] w fun e w' => e = .returned (.agg (ST t).toArray) ∧ Below w.heap.size w w' := add_any [] t w hK (by simpa using hm)
/-- what is stored into a block of the size of what is stored, as the walk meets it -/
theorem run_store_cells {P : Program} (W : World) (g : Nat) (cs : List Value) (h1 : ∀ v ∈ cs, v.oneCell' = true) (ht : W.there g 0 cs.length) : (storeCells ⟨g, 0, none⟩ cs 0).run P W = .ok () (W.setCells g 0 cs) :=
  run_storeCells_cells (P := P) g 0 cs 0 W (fun j hj => by have := (ht j hj).1; simpa using this) (fun j hj => by have := (ht j hj).2; simpa using this) h1
theorem there_below {W W' : World} {g o n B : Nat} (h : W.there g o n) (hb : Below B W W') (hg : g < B) : W'.there g o n := fun j hj => by
  obtain ⟨a, b⟩ := h j hj
  exact ⟨by rw [hb.cell (p := ⟨g, o + j, none⟩) hg]; exact a, by rw [hb.frozen (p := ⟨g, o + j, none⟩) hg]; exact b⟩
theorem range_setCells {W : World} {g : Nat} {cs : List Value} (h : W.there g 0 cs.length) : (W.setCells g 0 cs).rangeAt g 0 cs := World.rangeAt_setCells_same W g 0 cs h

end Go.Proofs.YtedgjpoejoepjaaDoor
