/-
  Tables: steps in memory. (Written by tools/gen_tabq.py.)
-/
import Derived.Test.YtbcfndhnopmbbaaHeldT
namespace Go.Proofs.Ytbcfndhnopmbbaa
open Go.RowKit
set_option linter.unusedVariables false
set_option linter.unusedSimpArgs false
/-- a step, and where its cells lie -/
structure Stp where
  sp : Tb.Sp
  ad : Option Addr
  c : Nat
def spC (x : Stp) : List Value := [.int .i64 x.sp.to.lang, .bool x.sp.to.num, .bool x.sp.to.inn, .int .i64 (x.sp.len : Int), .slice x.ad x.sp.cells.length x.c, .int .i64 x.sp.rule]
def STC (xs : List Stp) : List Value := xs.flatMap spC
theorem STC_len (es : List Stp) : (STC es).length = es.length * 6 := by
  induction es with
  | nil => rfl
  | cons e r ih =>
    unfold STC at ih ⊢
    rw [List.flatMap_cons, List.length_append, ih, List.length_cons]
    show 6 + _ = _
    omega
theorem STC_append (a b : List Stp) : STC (a ++ b) = STC a ++ STC b := by unfold STC; rw [List.flatMap_append]
theorem STC_one (es : List Stp) : ∀ v ∈ STC es, v.oneCell' = true := by
  intro v hv
  unfold STC at hv
  obtain ⟨x, _, hx⟩ := List.mem_flatMap.1 hv
  simp only [spC, List.mem_cons, List.not_mem_nil, or_false] at hx
  rcases hx with rfl | rfl | rfl | rfl | rfl | rfl <;> rfl
theorem STC_get (es : List Stp) (k j : Nat) (h : k < es.length) (hj : j < 6) : (STC es)[k * 6 + j]? = (spC es[k])[j]? := by
  induction es generalizing k with
  | nil => exact absurd h (by simp)
  | cons e r ih =>
    unfold STC at ih ⊢
    rw [List.flatMap_cons]
    cases k with
    | zero => rw [List.getElem?_append_left (by show 0 * 6 + j < 6; omega), Nat.zero_mul, Nat.zero_add]; rfl
    | succ k =>
      have h' : k < r.length := by simpa using h
      rw [List.getElem?_append_right (by show 6 ≤ _; omega)]
      show (r.flatMap spC)[(k + 1) * 6 + j - 6]? = _
      rw [show (k + 1) * 6 + j - 6 = k * 6 + j by omega, ih k h']
      rfl
def bsOf (x : Stp) : Tb.Bs := ⟨x.sp.cells, x.ad, x.c⟩
/-- the cells of steps, outside the block of the row of steps -/
def StepsF (w : World) (v : Value) (xs : List Stp) : Prop := ∀ x ∈ xs, BsAt w w.heap.size (bsOf x) ∧ (∀ a, x.ad = some a → some a.block ≠ v.ownBlock) ∧ 0 < x.sp.cells.length
theorem BsAt.grown {w w' : World} {b : Tb.Bs} {row : Option Nat} (h : BsAt w w.heap.size b) (hg : w.grownBy w' row) (hne : ∀ a, b.ad = some a → some a.block ≠ row) : BsAt w' w'.heap.size b := by
  refine ⟨⟨h.1.1, fun hn => ?_⟩, h.2⟩
  obtain ⟨ad, e, hb, hc⟩ := h.1.2 hn
  refine ⟨ad, e, Nat.lt_of_lt_of_le hb hg.size, fun j u hu => ?_⟩
  rw [World.cell?_of_block (hg.block (ad.add j).block (by rw [block_of_add]; exact hb) (by rw [block_of_add]; exact hne ad e))]
  exact hc j u hu
theorem StepsF.below {w w' : World} {v : Value} {xs : List Stp} (h : StepsF w v xs) (hb : Below w.heap.size w w') : StepsF w' v xs := fun x hx => ⟨(h x hx).1.same hb, (h x hx).2⟩
theorem StepsF.nil (w : World) (v : Value) : StepsF w v [] := fun x hx => by cases hx
theorem StepsF.snoc {w w' : World} {v v' : Value} {xs : List Stp} {x : Stp} (h : StepsF w v xs) (hx : BsAt w w.heap.size (bsOf x)) (hxb : ∀ a, x.ad = some a → some a.block ≠ v.ownBlock) (hx0 : 0 < x.sp.cells.length) (hg : w.grownBy w' v.ownBlock)
    (hat : v'.ownBlock = v.ownBlock ∨ v'.ownBlock = some w.heap.size) : StepsF w' v' (xs ++ [x]) := by
  have one : ∀ y : Stp, BsAt w w.heap.size (bsOf y) → (∀ a, y.ad = some a → some a.block ≠ v.ownBlock) → 0 < y.sp.cells.length → BsAt w' w'.heap.size (bsOf y) ∧ (∀ a, y.ad = some a → some a.block ≠ v'.ownBlock) ∧ 0 < y.sp.cells.length := fun y hy hyb hl => by
    obtain ⟨ad, e, hb, _⟩ := hy.1.2 hl
    have e' : y.ad = some ad := e
    refine ⟨hy.grown hg (fun a ha => hyb a ha), fun a ha => ?_, hl⟩
    rcases hat with h1 | h1
    · rw [h1]; exact hyb a ha
    · rw [h1]
      rw [e'] at ha
      injection ha with ha
      subst ha
      intro hc
      injection hc with hc
      omega
  intro y hy
  rcases List.mem_append.1 hy with hy | hy
  · exact one y (h y hy).1 (h y hy).2.1 (h y hy).2.2
  · rw [List.mem_singleton] at hy
    subst hy
    exact one y hx hxb hx0
end Go.Proofs.Ytbcfndhnopmbbaa
