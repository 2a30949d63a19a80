/-
  Cells: Pack of the reference, by contract.
-/
import Derived.Test.YtdjmfjmijpfijaaDoorRefPackD
namespace Go.Proofs.YtdjmfjmijpfijaaDoor
open Go.RowKit
set_option linter.unusedVariables false
set_option linter.unusedSimpArgs false
theorem wpList_append_line {ops : Array Oper} {rest : List Oper} {o : Oper} {a : Act} {Q : Exit → Act → World → Prop} (W : World) (hgd : o.guard = none) (s x : Operand) (t : TypeId) (ht : t = 24)
    (ho : o.op = .call { callee := .builtin .append, args := #[s, x], argTypes := #[t, t] }) (hot : o.type = 24)
    (base : Nat) (v : Value) (ls : List (List UInt8)) (l : List UInt8) (u : Value) (hs : a.eval s = v) (hp : PgOwn W base v ls) (hl : W.ownsRow base 5 1 u l.length (BV l)) (A : Addr) (hx : a.eval x = .slice (some A) 1 1) (hr : Reads W W.heap.size 1 (some A) 1 [u]) (hn : ls.length ≤ 1048576) (hb : base ≤ W.heap.size) (hu : u.oneCell' = true)
    (h : ∀ v' w', PgOwn w' base v' (ls ++ [l]) → W.grownBy w' v.ownBlock → wpList Tryd.prog ops Q rest (a.put o.dst v') w') : wpList Tryd.prog ops Q (o :: rest) a W := by
  subst ht
  refine wpList_plain hgd fun _ hK => ?_
  obtain ⟨v', w', hrun, h2, h3⟩ := append_line W base v ls l u hp hl A hr hn hb hu
  unfold Oper.wp execOp
  simp only [ho, hot, resolve, invoke, builtin, Sem.run_bind, Sem.run_pure, Result.andThen_ok, List.map_toArray, List.map_cons, List.map_nil, hs, hx, hrun]
  exact hK _ _ (h v' w' h2 h3)
theorem PgOwn.below_grown {base : Nat} {w w' : World} {v : Value} {ls : List (List UInt8)} (hp : PgOwn w base v ls) (h : w.grownBy w' v.ownBlock) (hb : base ≤ w.heap.size) : Below base w w' := by
  obtain ⟨vs, h1, _⟩ := hp
  exact Go.Proofs.YtdjmfjmijpfijaaDoor.below_grown h h1 hb
namespace Ce
def dotF (W H : Nat) (bits : List Bool) (i j : Nat) (d : Nat) : Bool := bitTo W H bits (W * H) (2 * j + d / 3) (3 * i + d % 3)
theorem packTo_dotF (W H : Nat) (bits : List Bool) (i j : Nat) : packTo W H bits (W * H) i j = cellOf (dotF W H bits i j) := rfl
def part (W H : Nat) (bits : List Bool) (i j : Nat) : List UInt8 := (List.range j).map fun j => UInt8.ofNat (packTo W H bits (W * H) i j)
def lines (W H : Nat) (bits : List Bool) (i : Nat) : List (List UInt8) := (List.range i).map fun i => rowTo W H bits (W * H) i
theorem part_len (W H : Nat) (bits : List Bool) (i j : Nat) : (part W H bits i j).length = j := by simp [part]
theorem lines_len (W H : Nat) (bits : List Bool) (i : Nat) : (lines W H bits i).length = i := by simp [lines]
theorem part_next (W H : Nat) (bits : List Bool) (i j : Nat) : part W H bits i (j + 1) = part W H bits i j ++ [UInt8.ofNat (packTo W H bits (W * H) i j)] := by
  unfold part; rw [List.range_succ, List.map_append]; rfl
theorem lines_next (W H : Nat) (bits : List Bool) (i : Nat) : lines W H bits (i + 1) = lines W H bits i ++ [rowTo W H bits (W * H) i] := by
  unfold lines; rw [List.range_succ, List.map_append]; rfl
end Ce
end Go.Proofs.YtdjmfjmijpfijaaDoor
