/-
  Cells: Cell, Unpack of the reference, by contract.
-/
import Derived.Test.YtdjmfjmijpfijaaDoorRefPackE
namespace Go.Proofs.YtdjmfjmijpfijaaDoor
open Go.RowKit
set_option linter.unusedVariables false
set_option linter.unusedSimpArgs false
set_option maxHeartbeats 1000000 in
set_option maxRecDepth 100000 in
/-- Cell of the reference -/
theorem refCell_any (A : Option Addr) (n c : Nat) (ls : List (List UInt8)) (w : World) (hp : Pg w w.heap.size A n ls) (i j : Nat) :
    Calls Tryd.prog 26 #[.slice A n c, .int .i64 (i : Int), .int .i64 (j : Int)] w fun e w' => e = .returned (.int .u8 ((Ce.cellAt ls i j : Nat) : Int)) ∧ w = w' := by
  have hnl : n = ls.length := by obtain ⟨_, _, h, _⟩ := hp; exact h.symm
  have hj0 : ¬ ((j : Int) < 0) := by omega
  have hj0' : (0 : Int) ≤ (j : Int) := by omega
  have hi0 : (0 : Int) ≤ (i : Int) := by omega
  by_cases hlt : i < n
  · obtain ⟨ad, rfl, hkl, A', c', hc, hc', hr⟩ := hp.row i hlt
    have hi1 : (i : Int) < (n : Int) := by omega
    have hrow : Ce.cellAt ls i j = (ls[i].getD j 0).toNat := by
      unfold Ce.cellAt
      rw [show ls.getD i [] = ls[i] by simp [List.getD, hkl]]
    rw [hrow]
    clear hp hrow hlt
    generalize ls[i] = l at *
    by_cases hjl : j < l.length
    · obtain ⟨bd, rfl, hx, hcb⟩ := reads_item hr j hjl
      have hv : w.cell? (bd.add j) = some (.int .u8 (((l.getD j 0).toNat : Nat) : Int)) := by
        rw [hcb, show l.getD j 0 = l[j] by simp [List.getD, hjl]]
        simp [BV]
      have hj1 : (j : Int) < (l.length : Int) := by omega
      generalize (l.getD j 0).toNat = q at *
      clear hr hcb hx hjl
      go_enter Tryd.func26, Tryd.ntmps26
      go_wp2
      go_ret
      exact ⟨rfl, rfl⟩
    · have hj1 : ¬ ((j : Int) < (l.length : Int)) := by omega
      have hj2 : (l.length : Int) ≤ (j : Int) := by omega
      have hq : (l.getD j 0).toNat = 0 := by rw [List.getD_eq_getElem?_getD, List.getElem?_eq_none (by omega)]; rfl
      rw [hq]
      clear hr hjl hq
      go_enter Tryd.func26, Tryd.ntmps26
      go_wp2
      go_ret
      exact ⟨rfl, rfl⟩
  · have hi1 : ¬ ((i : Int) < (n : Int)) := by omega
    have hi2 : (n : Int) ≤ (i : Int) := by omega
    have hil : ls.length ≤ i := by omega
    have hq : Ce.cellAt ls i j = 0 := by
      unfold Ce.cellAt
      rw [show ls.getD i [] = [] by simp [List.getD, hil]]
      rfl
    rw [hq]
    clear hp hlt hnl hq hil
    go_enter Tryd.func26, Tryd.ntmps26
    go_wp2
    go_ret
    exact ⟨rfl, rfl⟩
theorem Pg.same {w w' : World} {A : Option Addr} {n : Nat} {ls : List (List UInt8)} (h : Pg w w.heap.size A n ls) (hb : Below w.heap.size w w') : Pg w' w'.heap.size A n ls := (h.below hb).more hb.size
theorem unBits_part (ls : List (List UInt8)) (W x y q : Nat) (hx : x < W) (hq : q = y * W + x) : (List.range (q + 1)).map (fun i => Ce.unBit ls (i % W) (i / W)) = (List.range q).map (fun i => Ce.unBit ls (i % W) (i / W)) ++ [Ce.unBit ls x y] := by
  obtain ⟨h1, h2⟩ := (Ce.place W q x y (by omega) hx).1 hq.symm
  rw [List.range_succ, List.map_append, h1, h2]
  rfl
theorem wp_append_65 (o : Oper) (a : Act) (w : World) (K : Act → World → Prop) (Q : Exit → Act → World → Prop) (h0 : o.op = .call { callee := .builtin .append, args := #[.tmp 65, .tmp 80], argTypes := #[35, 35] }) (h1 : o.type = 35) (h2 : o.dst = some 81) (h : apOk w (a.eval (.tmp 65)) (a.eval (.tmp 80))) :
    Oper.wp Tryd.prog o a w K Q = K (a.put (some 81) (apRes w (a.eval (.tmp 65)) (a.eval (.tmp 80))).1) (apRes w (a.eval (.tmp 65)) (a.eval (.tmp 80))).2 := wp_append_bool o _ _ _ a w K Q h0 h1 h2 h
attribute [local go_sem ↓] wp_append_65
end Go.Proofs.YtdjmfjmijpfijaaDoor
