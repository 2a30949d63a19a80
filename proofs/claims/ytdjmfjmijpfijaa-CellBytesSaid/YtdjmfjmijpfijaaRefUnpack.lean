/-
  Cells: Cell, Unpack of the reference, by contract.
-/
import Derived.Test.YtdjmfjmijpfijaaRefPackE
namespace Go.Proofs.Ytdjmfjmijpfijaa
open Go.RowKit
set_option linter.unusedVariables false
set_option linter.unusedSimpArgs false
theorem Pg.same {w w' : World} {A : Option Addr} {n : Nat} {ls : List (List UInt8)} (h : Pg w w.heap.size A n ls) (hb : Below w.heap.size w w') : Pg w' w'.heap.size A n ls := (h.below hb).more hb.size
theorem unBits_part (ls : List (List UInt8)) (W x y q : Nat) (hx : x < W) (hq : q = y * W + x) : (List.range (q + 1)).map (fun i => Ce.unBit ls (i % W) (i / W)) = (List.range q).map (fun i => Ce.unBit ls (i % W) (i / W)) ++ [Ce.unBit ls x y] := by
  obtain ⟨h1, h2⟩ := (Ce.place W q x y (by omega) hx).1 hq.symm
  rw [List.range_succ, List.map_append, h1, h2]
  rfl
theorem wp_append_65 (o : Oper) (a : Act) (w : World) (K : Act → World → Prop) (Q : Exit → Act → World → Prop) (h0 : o.op = .call { callee := .builtin .append, args := #[.tmp 65, .tmp 80], argTypes := #[49, 49] }) (h1 : o.type = 49) (h2 : o.dst = some 81) (h : apOk w (a.eval (.tmp 65)) (a.eval (.tmp 80))) :
    Oper.wp Try.prog o a w K Q = K (a.put (some 81) (apRes w (a.eval (.tmp 65)) (a.eval (.tmp 80))).1) (apRes w (a.eval (.tmp 65)) (a.eval (.tmp 80))).2 := wp_append_bool o _ _ _ a w K Q h0 h1 h2 h
attribute [local go_sem ↓] wp_append_65
end Go.Proofs.Ytdjmfjmijpfijaa
