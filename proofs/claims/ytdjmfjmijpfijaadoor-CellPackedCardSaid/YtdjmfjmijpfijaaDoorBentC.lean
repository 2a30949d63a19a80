/-
  Cells: Pack of the reference of what is no raster; Pack and the reference's answer the same; bent, by contract.
-/
import Derived.Test.YtdjmfjmijpfijaaDoorRefUnpack
namespace Go.Proofs.YtdjmfjmijpfijaaDoor
open Go.RowKit
set_option linter.unusedVariables false
set_option linter.unusedSimpArgs false
/-- something of a raster's type, in memory -/
def RastAny (w : World) (v : Value) : Prop := ∃ (W H : Int) (A : Option Addr) (n c : Nat) (bits : List Bool), v = .agg #[.int .i64 W, .int .i64 H, .slice A n c] ∧ Reads w w.heap.size 1 A n (bits.map Value.bool) ∧ n ≤ 1000
theorem RastAny.below {w w' : World} {v : Value} (h : RastAny w v) (hb : Below w.heap.size w w') : RastAny w' v := by
  obtain ⟨W, H, A, n, c, bits, h1, h2, h3⟩ := h
  exact ⟨W, H, A, n, c, bits, h1, (h2.below hb).more hb.size, h3⟩
theorem RastAny.nil (w : World) : RastAny w (.agg #[.int .i64 0, .int .i64 0, .slice none 0 0]) := ⟨0, 0, none, 0, 0, [], rfl, Reads.none_, by omega⟩
theorem own_emptyB (w : World) : (w.alloc (.cells #[] 4)).ownsRow w.heap.size 4 1 (.slice (some ⟨w.heap.size, 0, none⟩) 0 0) 0 [] :=
  ⟨rfl, .inr ⟨w.heap.size, 0, #[], rfl, Nat.le_refl _, heap_alloc_new w _, Nat.le_refl _, by unfold maxLen; omega, rfl, rfl⟩⟩
end Go.Proofs.YtdjmfjmijpfijaaDoor
