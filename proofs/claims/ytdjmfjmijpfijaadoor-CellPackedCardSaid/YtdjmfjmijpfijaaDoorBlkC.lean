/-
  Words on blocks that are filled one cell after the other.
-/
import Derived.Test.YtdjmfjmijpfijaaDoorBase
namespace Go.Proofs.YtdjmfjmijpfijaaDoor
open Go.RowKit
set_option linter.unusedVariables false
set_option linter.unusedSimpArgs false
theorem filled_next (n i : Nat) (xs : List Value) (z v : Value) (h : xs.length = i) (hi : i < n) : ((filled n i xs z).toArray).setIfInBounds i v = (filled n (i + 1) (xs ++ [v]) z).toArray := by
  apply Array.toList_inj.1
  rw [Array.toList_setIfInBounds]
  exact filled_set n i xs z v h hi
theorem reads_blk {w : World} {g n : Nat} {t : TypeId} {xs : List Value} (h : Blk w g t xs.toArray) (hn : xs.length = n) : Reads w w.heap.size 1 (some ⟨g, 0, none⟩) n xs :=
  ⟨by rw [hn, Nat.mul_one], fun _ => ⟨_, rfl, h.lt, fun j u hj => by
    have : ((⟨g, 0, none⟩ : Addr).add j) = ⟨g, j, none⟩ := by simp [Addr.add]; intro h; omega
    rw [this, h.cell, List.getElem?_toArray]
    exact hj⟩⟩
end Go.Proofs.YtdjmfjmijpfijaaDoor
