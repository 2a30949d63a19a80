/-
  Tables: rules and bytes in memory from a block on; tables put together of them.
-/
import Derived.Test.YtbcfndhnopmbbaaTabGn
namespace Go.Proofs.Ytbcfndhnopmbbaa
open Go.RowKit
set_option linter.unusedVariables false
set_option linter.unusedSimpArgs false
theorem OwnR.grownLow {w w' : World} {b : Nat} {v : Value} {R : List Tb.Rl} {row : Option Nat} (h : OwnR w b v R) (hg : w.grownBy w' row) (hr : ∀ g, row = some g → g < b) : OwnR w' b v R := by
  obtain ⟨rs, h1, h2, h3, h4⟩ := h
  refine ⟨rs, own_grownOff h1 hg (fun k hk e => ?_), fun r hm => ⟨⟨(h2 r hm).1.1.grown hg (fun a ha hc => ?_), (h2 r hm).1.2⟩, (h2 r hm).2⟩, h3, h4⟩
  · have := (h1.lt k e).1
    have := hr k hk
    omega
  · have := h4 r hm a ha
    have := hr a.block hc.symm
    omega
theorem Reads.grownFrom {w w' : World} {size n B : Nat} {A : Option Addr} {xs : List Value} {row : Option Nat} (h : Reads w w.heap.size size A n xs) (hg : w.grownBy w' row) (hr : ∀ g, row = some g → g < B) (ho : ∀ a, A = some a → B ≤ a.block) : Reads w' w'.heap.size size A n xs :=
  ⟨h.1, fun hn => by
    obtain ⟨ad, e, hb, hc⟩ := h.2 hn
    refine ⟨ad, e, Nat.lt_of_lt_of_le hb hg.size, fun j u hu => ?_⟩
    rw [World.cell?_of_block (hg.block (ad.add j).block (by rw [block_of_add]; exact hb) (by
      rw [block_of_add]
      intro hc2
      have h1 := hr _ hc2.symm
      have h2 := ho ad e
      omega))]
    exact hc j u hu⟩
/-- rules of a language in memory, from block B on -/
def LangB (w : World) (B : Nat) (m : Value) (R : List Tb.Rl) : Prop :=
  ∃ A c rs, m = .slice A rs.length c ∧ rs.length ≤ c ∧ RulesAt w w.heap.size A rs ∧ rs.map Tb.eR = R ∧ (∀ a, A = some a → B ≤ a.block) ∧ ∀ r ∈ rs, ∀ a, r.cells.ad = some a → B ≤ a.block
theorem LangB.grown {w w' : World} {B : Nat} {m : Value} {R : List Tb.Rl} {row : Option Nat} (h : LangB w B m R) (hg : w.grownBy w' row) (hr : ∀ g, row = some g → g < B) : LangB w' B m R := by
  obtain ⟨A, c, rs, h1, h2, h3, h4, h5, h6⟩ := h
  exact ⟨A, c, rs, h1, h2, ⟨h3.1.grownFrom hg hr h5, fun r hm => ⟨⟨(h3.2.1 r hm).1.1.grownFrom hg hr (h6 r hm), (h3.2.1 r hm).1.2⟩, (h3.2.1 r hm).2⟩, h3.2.2⟩, h4, h5, h6⟩
theorem LangB.lower {w : World} {B B' : Nat} {m : Value} {R : List Tb.Rl} (h : LangB w B m R) (hb : B' ≤ B) : LangB w B' m R := by
  obtain ⟨A, c, rs, h1, h2, h3, h4, h5, h6⟩ := h
  exact ⟨A, c, rs, h1, h2, h3, h4, fun a ha => Nat.le_trans hb (h5 a ha), fun r hm a ha => Nat.le_trans hb (h6 r hm a ha)⟩
theorem OwnR.langB {w : World} {b : Nat} {v : Value} {R : List Tb.Rl} (h : OwnR w b v R) (hl : R.length ≤ 1000) : LangB w b v R := by
  obtain ⟨rs, h1, h2, h3, h4⟩ := h
  have hlen : rs.length ≤ 1048576 := by rw [← h3, List.length_map] at hl; omega
  obtain ⟨A, c, hv, hc, hr, ha⟩ := rules_of_own h1 h2 hlen
  exact ⟨A, c, rs, hv, hc, hr, h3, ha, h4⟩
/-- bytes in memory, from block B on -/
def BsB (w : World) (B : Nat) (m : Value) (l : List UInt8) : Prop := ∃ A c, m = .slice A l.length c ∧ BsAt w w.heap.size ⟨l, A, c⟩ ∧ ∀ a, A = some a → B ≤ a.block
theorem BsB.grown {w w' : World} {B : Nat} {m : Value} {l : List UInt8} {row : Option Nat} (h : BsB w B m l) (hg : w.grownBy w' row) (hr : ∀ g, row = some g → g < B) : BsB w' B m l := by
  obtain ⟨A, c, h1, h2, h3⟩ := h
  exact ⟨A, c, h1, ⟨h2.1.grownFrom hg hr h3, h2.2⟩, h3⟩
theorem BsB.new {w : World} {B g : Nat} {l : List UInt8} (h : Blk w g 5 (BV l).toArray) (hl : l.length ≤ 1000) (hB : B ≤ g) : BsB w B (.slice (some ⟨g, 0, none⟩) l.length l.length) l :=
  ⟨_, _, rfl, bs_of_blk w g l h (by omega), fun a ha => by injection ha with ha; subst ha; exact hB⟩
theorem tab_parts {w : World} {B : Nat} {m0 m1 d c n f s : Value} {R0 R1 : List Tb.Rl} {dl cl nl fl sl : List UInt8} (h0 : LangB w B m0 R0) (h1 : LangB w B m1 R1) (hd : BsB w B d dl) (hc : BsB w B c cl) (hn : BsB w B n nl) (hf : BsB w B f fl) (hs : BsB w B s sl) :
    ∃ t, TabAt w w.heap.size (.agg #[m0, m1, d, c, n, f, s]) t ∧ Tb.eT t = ⟨R0, R1, ⟨dl, none, 0⟩, ⟨cl, none, 0⟩, ⟨nl, none, 0⟩, ⟨fl, none, 0⟩, ⟨sl, none, 0⟩⟩ := by
  obtain ⟨A0, c0, rs0, rfl, k0, r0, e0, _, _⟩ := h0
  obtain ⟨A1, c1, rs1, rfl, k1, r1, e1, _, _⟩ := h1
  obtain ⟨Ad, cd, rfl, bd, _⟩ := hd
  obtain ⟨Ac, cc, rfl, bc, _⟩ := hc
  obtain ⟨An, cn, rfl, bn, _⟩ := hn
  obtain ⟨Af, cf, rfl, bf, _⟩ := hf
  obtain ⟨As, cs, rfl, bs, _⟩ := hs
  refine ⟨⟨rs0, rs1, ⟨dl, Ad, cd⟩, ⟨cl, Ac, cc⟩, ⟨nl, An, cn⟩, ⟨fl, Af, cf⟩, ⟨sl, As, cs⟩⟩, ⟨A0, A1, c0, c1, rfl, r0, r1, k0, k1, bd, bc, bn, bf, bs⟩, ?_⟩
  unfold Tb.eT Tb.eB
  rw [← e0, ← e1]
theorem grown_setRow (w : World) (g : Nat) (cs : Array Value) : w.grownBy (w.setRow g cs) (some g) :=
  ⟨rfl, rfl, rfl, by show w.heap.size ≤ (w.setRow g cs).heap.size; unfold World.setRow; simp, fun i _ hne => setRow_other w g i cs fun e => hne (by rw [e])⟩
theorem alloc_at (w : World) (t : TypeId) (cs : Array Value) (k : Nat) (hk : k = w.heap.size) : Blk (w.alloc (.cells cs t)) k t cs := by
  subst hk
  exact Blk.new w t cs
/-- a field of a variable set to a new row of bytes -/
theorem field_set (Y : World) (B g1 k : Nat) (cs : Array Value) (l : List UInt8) (hg : Blk Y g1 28 cs) (hl : l.length ≤ 1000) (hB : B ≤ Y.heap.size) :
    Blk ((Y.alloc (.cells (BV l).toArray 5)).setCell ⟨g1, k, none⟩ (.slice (some ⟨Y.heap.size, 0, none⟩) l.length l.length)) g1 28 (cs.setIfInBounds k (.slice (some ⟨Y.heap.size, 0, none⟩) l.length l.length)) ∧
    Y.grownBy ((Y.alloc (.cells (BV l).toArray 5)).setCell ⟨g1, k, none⟩ (.slice (some ⟨Y.heap.size, 0, none⟩) l.length l.length)) (some g1) ∧
    BsB ((Y.alloc (.cells (BV l).toArray 5)).setCell ⟨g1, k, none⟩ (.slice (some ⟨Y.heap.size, 0, none⟩) l.length l.length)) B (.slice (some ⟨Y.heap.size, 0, none⟩) l.length l.length) l := by
  refine ⟨(hg.alloc _).set_ k _, grown_set (only_alloc (World.grownBy.refl _ _) _) k _, BsB.new ((Blk.new Y _ _).far ?_ _) hl hB⟩
  have := hg.lt
  show Y.heap.size ≠ g1
  omega
theorem tablesInfo : (Try.prog.info? 28).map (·.size) = some 7 := by kernel_rfl
theorem wpList_store_tab {ops : Array Oper} {rest : List Oper} {o : Oper} {a : Act} {w : World} {Q : Exit → Act → World → Prop} (hgd : o.guard = none) (x y : Operand) (ho : o.op = .store 28 x y)
    (g : Nat) (v0 v1 v2 v3 v4 v5 v6 : Value) (hx : a.eval x = .pointer (some ⟨g, 0, none⟩)) (hy : a.eval y = .agg #[v0, v1, v2, v3, v4, v5, v6]) (old : Array Value) (hg : Blk w g 28 old)
    (hold : old.size = 7) (h1 : (#[v0, v1, v2, v3, v4, v5, v6] : Array Value).all (·.oneCell') = true)
    (h : wpList Try.prog ops Q rest (a.put o.dst undef) (w.setRow g #[v0, v1, v2, v3, v4, v5, v6])) : wpList Try.prog ops Q (o :: rest) a w :=
  wpList_store_row hgd 28 x y ho g _ hx hy 28 old hg tablesInfo hold h1 h
theorem load_tab (W : World) (g : Nat) (v0 v1 v2 v3 v4 v5 v6 : Value) (old : Array Value) (hg : Blk W g 28 old) :
    (loadVar 28 ⟨g, 0, none⟩).run Try.prog (W.setRow g #[v0, v1, v2, v3, v4, v5, v6]) = .ok (.agg #[v0, v1, v2, v3, v4, v5, v6]) (W.setRow g #[v0, v1, v2, v3, v4, v5, v6]) :=
  run_loadVar_row _ _ _ _ _ _ _ (setRow_heap W g _ #[v0, v1, v2, v3, v4, v5, v6] _ _ hg) Try.underlying28 rfl tablesInfo
end Go.Proofs.Ytbcfndhnopmbbaa
