/-
  A region that draws its order and ends in one operation (a store) that waits for all: a condition on the world that holds till that operation; loads under it are taken first.
-/
import Derived.Test.YtbcfndhnopmbbaaTabO
import Derived.OrdersHeld
import Derived.StillTailTactics
namespace Go.Proofs.Ytbcfndhnopmbbaa
open Go.RowKit
set_option linter.unusedVariables false
set_option linter.unusedSimpArgs false
section
variable {P : Program} {md : Region.Mode} {ops : Array Oper} {Q : Exit → Act → World → Prop} {S : World → Prop}
/-- whatever order is picked from here on, and S holds behind every operation but number n -/
def heldTill (P : Program) (md : Region.Mode) (ops : Array Oper) (Q : Exit → Act → World → Prop) (S : World → Prop) (n : Nat) : Nat → Array Bool → Act → World → Prop
  | 0, ls, a, w => Region.ready md ops ls = [] ∧ Q .normal a w
  | f + 1, ls, a, w => (Region.ready md ops ls = [] → Q .normal a w) ∧ ∀ i ∈ Region.ready md ops ls, wpOp P ops Q i (fun b v => (i ≠ n → S v) ∧ heldTill P md ops Q S n f (ls.setIfInBounds i true) b v) a w
theorem heldTill_any {n : Nat} : ∀ (f : Nat) (ls : Array Bool) (a : Act) (w : World), heldTill P md ops Q S n f ls a w → wpAny P md ops Q f ls a w
  | 0, _, _, _, h => h
  | f + 1, _, _, _, h => ⟨h.1, fun i hi => wpOp_mono (fun b v hb => heldTill_any f _ b v hb.2) (h.2 i hi)⟩
theorem heldTill_first {n i : Nat} {o : Oper} {v : Value} (ho : ops[i]? = some o) (hsel : Region.noSelect ops = true) (hn : Region.waitsFor md ops n i = true)
    (hQ : ∀ c a w, Q (.panic c) (a.put o.dst v) w → Q (.panic c) a w) (f : Nat) :
    ∀ (ls : Array Bool) (a : Act) (w : World),
      (∀ j p, ops[j]? = some p → j ≠ i → ls.getD j true = false → (∀ e ∈ p.after, Region.binds md e = true → e.on ≠ i) → o.apart ops p = true) →
      i ∈ Region.ready md ops ls → YieldsIf P ops S o v a → S w →
      heldTill P md ops Q S n f (ls.setIfInBounds i true) (a.put o.dst v) w → heldTill P md ops Q S n (f + 1) ls a w := by
  have nope : ∀ ls : Array Bool, i ∈ Region.ready md ops ls → n ∉ Region.ready md ops ls := fun ls hi hr => by
    obtain ⟨p, hp, e, he, hb, hon⟩ := Region.waitsFor_spec hn
    obtain ⟨_, q, hq, hall⟩ := mem_ready.1 hr
    have e1 : p = q := Option.some.inj (hp.symm.trans hq)
    subst e1
    have h1 := hall e he hb
    rw [hon, getD_both (mem_ready.1 hi).1] at h1
    cases h1
  have hin : i ≠ n ∨ i = n := by omega
  induction f with
  | zero =>
    intro ls a w hap hr hy hS H
    refine ⟨fun h => absurd h (List.ne_nil_of_mem hr), fun j hj => ?_⟩
    by_cases he : j = i
    · subst he; exact hy.wpOp ho hS ⟨fun _ => hS, H⟩
    · have := ready_mono hj he
      rw [H.1] at this
      cases this
  | succ f ih =>
    intro ls a w hap hr hy hS H
    refine ⟨fun h => absurd h (List.ne_nil_of_mem hr), fun j hj => ?_⟩
    by_cases he : j = i
    · subst he; exact hy.wpOp ho hS ⟨fun _ => hS, H⟩
    · have hjn : j ≠ n := fun h => nope ls hr (h ▸ hj)
      obtain ⟨hju, p, hp, hall⟩ := mem_ready.1 hj
      have hfar : o.apart ops p = true := hap j p hp he hju (fun e hm hb hon => by
        have h1 := hall e hm hb
        rw [hon, getD_both (mem_ready.1 hr).1] at h1
        cases h1)
      have hq := wpOp_putIf hp hfar (fun cs b => Region.noSelect_spec hsel i o cs b ho) (fun cs b => Region.noSelect_spec hsel j p cs b hp) hQ hy (H.2 j (ready_mono hj he))
      refine wpOp_mono (fun b v hb => ⟨fun _ => hb.2.1 hjn, ih (ls.setIfInBounds j true) b v (fun k r hk hki hku hno => ?_) (ready_mono hr (Ne.symm he)) hb.1 (hb.2.1 hjn) ?_⟩) hq
      · refine hap k r hk hki ?_ hno
        by_cases hjk : j = k
        · subst hjk; exact hju
        · rw [getD_set_ne true hjk] at hku; exact hku
      · rw [Array.setIfInBounds_comm _ _ he]
        exact hb.2.2
/-- take number i first -/
theorem heldTill_take (i : Nat) (v : Value) {n : Nat} {o : Oper} {f : Nat} {ls : Array Bool} {a : Act} {w : World} (ho : ops[i]? = some o) (hsel : Region.noSelect ops = true) (hn : Region.waitsFor md ops n i = true)
    (hf : Region.free md ops ls i = true) (hr : (Region.ready md ops ls).contains i = true) (hQ : ∀ c a w, Q (.panic c) (a.put o.dst v) w → Q (.panic c) a w)
    (hy : if Region.wanted o (yielded ops a.tmps) = true then (∀ w, S w → (execOp a.eval o).run P w = .ok (.value v) w) else v = undef) (hS : S w)
    (h : heldTill P md ops Q S n f (ls.setIfInBounds i true) (a.put o.dst v) w) : heldTill P md ops Q S n (f + 1) ls a w := by
  refine heldTill_first ho hsel hn hQ f ls a w (Region.free_spec ho hf) (by simpa using hr) ?_ hS h
  by_cases hw : Region.wanted o (yielded ops a.tmps) = true
  · rw [if_pos hw] at hy; exact .inl ⟨hw, hy⟩
  · rw [if_neg hw] at hy; exact .inr ⟨by simpa using hw, hy⟩
/-- the one operation that may come up -/
theorem heldTill_only (i : Nat) {n : Nat} {f : Nat} {ls : Array Bool} {a : Act} {w : World} (hr : Region.ready md ops ls = [i])
    (h : wpOp P ops Q i (fun b v => (i ≠ n → S v) ∧ heldTill P md ops Q S n f (ls.setIfInBounds i true) b v) a w) : heldTill P md ops Q S n (f + 1) ls a w :=
  ⟨fun h0 => (by rw [hr] at h0; cases h0), fun j hj => by
    rw [hr] at hj
    have : j = i := by simpa using hj
    subst this
    exact h⟩
theorem heldTill_done {n : Nat} {f : Nat} {ls : Array Bool} {a : Act} {w : World} (hr : Region.ready md ops ls = []) (h : Q .normal a w) : heldTill P md ops Q S n f ls a w := by
  cases f with
  | zero => exact ⟨hr, h⟩
  | succ f => exact ⟨fun _ => h, fun i hi => by rw [hr] at hi; cases hi⟩
theorem wp_region_held_till (S : World → Prop) (n : Nat) {id : Nat} {a : Act} {w : World} (hm : P.follows .mixedOrders = true)
    (h : heldTill P .any ops Q S n ops.size (Array.replicate ops.size false) a w.drew) : (Code.region id ops true).wp P Q a w :=
  wp_region_any hm (heldTill_any _ _ _ _ h)
theorem step_run_append {o : Oper} {a : Act} {w : World} {K : Act → World → Prop} {E : Prop} (hw : Region.wanted o (yielded ops a.tmps) = true) (s x : Operand) (t : TypeId) (ho : o.op = .call { callee := .builtin .append, args := #[s, x], argTypes := #[t, t] })
    (v1 v2 : Value) (hs : a.eval s = v1) (hx : a.eval x = v2) (v' : Value) (w' : World) (hrun : (Builtin.append_ #[t, t] o.type #[v1, v2]).run P w = .ok v' w') (h : K (a.put o.dst v') w') :
    if Region.wanted o (yielded ops a.tmps) = true then Oper.wp P o a w K Q else E := by
  rw [if_pos hw]
  unfold Oper.wp execOp
  simp only [ho, resolve, invoke, builtin, Sem.run_bind, Sem.run_pure, Result.andThen_ok, List.map_toArray, List.map_cons, List.map_nil, hs, hx, hrun]
  exact h
end
theorem heldTill_all {P : Program} {md : Region.Mode} {ops : Array Oper} {Q : Exit → Act → World → Prop} {S : World → Prop} (rs : List Nat) {n : Nat} {f : Nat} {ls : Array Bool} {a : Act} {w : World} (hr : Region.ready md ops ls = rs) (hne : rs ≠ [])
    (h : ∀ i ∈ rs, wpOp P ops Q i (fun b v => (i ≠ n → S v) ∧ heldTill P md ops Q S n f (ls.setIfInBounds i true) b v) a w) : heldTill P md ops Q S n (f + 1) ls a w :=
  ⟨fun h0 => absurd (hr.symm.trans h0) hne, fun j hj => h j (hr ▸ hj)⟩
end Go.Proofs.Ytbcfndhnopmbbaa
