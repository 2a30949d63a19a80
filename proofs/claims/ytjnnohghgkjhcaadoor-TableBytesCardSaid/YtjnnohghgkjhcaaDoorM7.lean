/-
  Tables: words for values of a region beside one that appends; rows of rules of the call's own beside a variable.
-/
import Derived.Test.YtjnnohghgkjhcaaDoorM6
import Derived.Deep.CutBlock
import Derived.Test.YtjnnohghgkjhcaaDoorM4
namespace Go.Proofs.YtjnnohghgkjhcaaDoor
open Go.RowKit
set_option linter.unusedVariables false
set_option linter.unusedSimpArgs false
theorem grown_tr {a b c : World} {row : Option Nat} (h : a.grownBy b row) (k : b.grownBy c row) : a.grownBy c row :=
 ⟨k.os.trans h.os, k.tape.trans h.tape, k.output.trans h.output, Nat.le_trans h.size k.size, fun i hi hne => (k.block i (Nat.lt_of_lt_of_le hi h.size) hne).trans (h.block i hi hne)⟩
theorem grown_own {a b c : World} {row : Option Nat} {g : Nat} (h : a.grownBy b (some g)) (k : b.grownBy c row) (hr : ∀ i, row = some i → a.heap.size ≤ i) : a.grownBy c (some g) :=
 ⟨k.os.trans h.os, k.tape.trans h.tape, k.output.trans h.output, Nat.le_trans h.size k.size, fun i hi hne => (k.block i (Nat.lt_of_lt_of_le hi h.size) (fun e => by have := hr i e.symm; omega)).trans (h.block i hi hne)⟩
def StabN (b0 : Nat) (G : World → Value → Prop) : Prop := ∀ W W' row v, W.grownBy W' row → (∀ g, row = some g → g < b0) → G W v → G W' v
theorem StabN.stab {b0 : Nat} {G : World → Value → Prop} (h : StabN b0 G) : Stab G := fun W W' v hb hg => h W W' none v (only_of_below hb none) (fun g h => by cases h) hg
theorem stabn_any (b0 : Nat) : StabN b0 gAny := fun _ _ _ _ _ _ h => h
theorem stabn_is (b0 : Nat) (u : Value) : StabN b0 (gIs u) := fun _ _ _ _ _ _ h => h
def gNew (b0 : Nat) (T : TypeId) (cs : List Value) : World → Value → Prop := fun W v => RNew b0 T cs v W
theorem stabn_new (b0 : Nat) (T : TypeId) (cs : List Value) : StabN b0 (gNew b0 T cs) := fun _ _ _ _ hg hr h => RNew.grown h hg hr
def gRl (b0 : Nat) (t : List UInt8) (wh : Int) (cs : List UInt8) : World → Value → Prop := fun W v => ∃ g, v = .agg #[.string (S t), .int .i64 wh, .slice (some ⟨g, 0, none⟩) cs.length cs.length] ∧ b0 ≤ g ∧ Blk W g 5 (BV cs).toArray
theorem stabn_rl (b0 : Nat) (t : List UInt8) (wh : Int) (cs : List UInt8) : StabN b0 (gRl b0 t wh cs) := fun _ _ _ _ hg hr ⟨g, h1, h2, h3⟩ => ⟨g, h1, h2, h3.grown hg fun e => by have := hr g e.symm; omega⟩
def gRls (b0 : Nat) (t : List UInt8) (wh : Int) (cs : List UInt8) : World → Value → Prop := fun W v => ∃ g h, v = .slice (some ⟨h, 0, none⟩) 1 1 ∧ b0 ≤ h ∧ Blk W h 45 #[.string (S t), .int .i64 wh, .slice (some ⟨g, 0, none⟩) cs.length cs.length] ∧ b0 ≤ g ∧ Blk W g 5 (BV cs).toArray
theorem stabn_rls (b0 : Nat) (t : List UInt8) (wh : Int) (cs : List UInt8) : StabN b0 (gRls b0 t wh cs) := fun _ _ _ _ hg hr ⟨g, h, h1, h2, h3, h4, h5⟩ => ⟨g, h, h1, h2, h3.grown hg fun e => by (have := hr h e.symm; omega), h4, h5.grown hg fun e => by (have := hr g e.symm; omega)⟩
def OwnR (w : World) (b : Nat) (v : Value) (R : List Tb.Rl) : Prop :=
 ∃ rs : List Tb.Rl, w.ownsRow b 45 3 v rs.length (RC rs) ∧ RulesF w v rs ∧ rs.map Tb.eR = R ∧ ∀ r ∈ rs, ∀ a, r.cells.ad = some a → b ≤ a.block
theorem OwnR.nil (w : World) (b : Nat) : OwnR w b (.slice none 0 0) [] := ⟨[], own_nil _ _ _ _, RulesF.nil _ _, rfl, fun r hr => by cases hr⟩
theorem OwnR.below {w w' : World} {b : Nat} {v : Value} {R : List Tb.Rl} (h : OwnR w b v R) (hb : Below w.heap.size w w') : OwnR w' b v R := by
 obtain ⟨rs, h1, h2, h3, h4⟩ := h
 exact ⟨rs, own_below h1 hb, h2.below hb, h3, h4⟩
theorem OwnR.lt {w : World} {b : Nat} {v : Value} {R : List Tb.Rl} (h : OwnR w b v R) (g : Nat) (hg : v.ownBlock = some g) : b ≤ g ∧ g < w.heap.size := by
 obtain ⟨rs, h1, _⟩ := h
 exact h1.lt g hg
theorem OwnR.lower {w : World} {b b' : Nat} {v : Value} {R : List Tb.Rl} (h : OwnR w b v R) (hb : b' ≤ b) : OwnR w b' v R := by
 obtain ⟨rs, h1, h2, h3, h4⟩ := h
 exact ⟨rs, own_lower h1 hb, h2, h3, fun r hr a ha => Nat.le_trans hb (h4 r hr a ha)⟩
theorem OwnR.ne {w : World} {b g : Nat} {t : TypeId} {cs : Array Value} {v : Value} {R : List Tb.Rl} (h : OwnR w b v R) (hg : Blk w g t cs) (ht : 45 ≠ t) : v.ownBlock ≠ some g := by
 obtain ⟨rs, h1, _⟩ := h
 exact own_blk_ne h1 hg ht
theorem own_grownOff {w w' : World} {b e size n : Nat} {v : Value} {xs : List Value} {row : Option Nat} (h : w.ownsRow b e size v n xs) (hg : w.grownBy w' row) (hne : ∀ g, row = some g → v.ownBlock ≠ some g) : w'.ownsRow b e size v n xs := by
 refine ⟨h.1, ?_⟩
 rcases h.2 with h0 | ⟨g, cap, cur, h1, h2, h3, h4⟩
 ·exact .inl h0
 ·refine .inr ⟨g, cap, cur, h1, h2, ?_, h4⟩
  have hgl : g < w.heap.size := by
   rcases Nat.lt_or_ge g w.heap.size with h | h
   ·exact h
   ·rw [Array.getElem?_eq_none h] at h3; cases h3
  rw [hg.block g hgl (fun e => by
   refine hne g e.symm ?_
   rw [h1]
   rfl)]
  exact h3
theorem OwnR.grownOff {w w' : World} {b g : Nat} {v : Value} {R : List Tb.Rl} (h : OwnR w b v R) (hg : w.grownBy w' (some g)) (hgb : g < b) : OwnR w' b v R := by
 obtain ⟨rs, h1, h2, h3, h4⟩ := h
 refine ⟨rs, own_grownOff h1 hg (fun k hk e => ?_), fun r hr => ⟨⟨(h2 r hr).1.1.grown hg (fun a ha hc => ?_), (h2 r hr).1.2⟩, (h2 r hr).2⟩, h3, h4⟩
 ·have := (h1.lt k e).1
  injection hk with hk
  omega
 ·have := h4 r hr a ha
  injection hc with hc
  omega
theorem OwnR.push {W : World} {b b0 g h : Nat} {v : Value} {R : List Tb.Rl} (ho : OwnR W b v R) (t : List UInt8) (wh : Int) (cs : List UInt8) (hh : Blk W h 45 #[.string (S t), .int .i64 wh, .slice (some ⟨g, 0, none⟩) cs.length cs.length])
  (hg : Blk W g 5 (BV cs).toArray) (ht : t.length ≤ 1000) (hw : Wr.inI wh) (hc : 0 < cs.length) (hc2 : cs.length ≤ 1000) (hgb : b ≤ g) (hgv : ∀ k, v.ownBlock = some k → k < b0) (hg0 : b0 ≤ g) (hb : b ≤ W.heap.size) (hl : R.length ≤ 1000) (ty : TypeId) :
  ∃ v' W', (Builtin.append_ #[24, 24] ty #[v, .slice (some ⟨h, 0, none⟩) 1 1]).run Tryd.prog W = .ok v' W' ∧ OwnR W' b v' (R ++ [Tb.mkR t wh cs]) ∧ W.grownBy W' v.ownBlock ∧ (v'.ownBlock = v.ownBlock ∨ v'.ownBlock = some W.heap.size) := by
 obtain ⟨rs, h1, h2, h3, h4⟩ := ho
 have hlen : rs.length ≤ 1000 := by rw [← h3, List.length_map] at hl; exact hl
 obtain ⟨v', W', hrun, hown', hrf', hgrow', hat'⟩ := rules_push W b h v rs ⟨t, wh, ⟨cs, some ⟨g, 0, none⟩, cs.length⟩⟩ h1 h2 hh ⟨bs_of_blk W g cs hg (by omega), hc, by show t.length ≤ _; omega, hw⟩
  (fun a ha => by injection ha with ha; subst ha; intro e; have := hgv _ e.symm; have h1 : b0 ≤ g := hg0; have h2 : g < b0 := this; omega) hb (by omega) ty
 refine ⟨v', W', hrun, ⟨_, hown', hrf', by rw [List.map_append, h3]; rfl, fun r hr a ha => ?_⟩, hgrow', hat'⟩
 rcases List.mem_append.1 hr with hr | hr
 ·exact h4 r hr a ha
 ·rw [List.mem_singleton] at hr
  subst hr
  injection ha with ha
  subst ha
  exact hgb
theorem RulesF.app {w w' : World} {v v' : Value} {xs ys : List Tb.Rl} (h : RulesF w v xs) (hy : ∀ y ∈ ys, RuleOk w y ∧ ∀ a, y.cells.ad = some a → some a.block ≠ v.ownBlock) (hg : w.grownBy w' v.ownBlock)
  (hat : v'.ownBlock = v.ownBlock ∨ v'.ownBlock = some w.heap.size) : RulesF w' v' (xs ++ ys) := by
 intro y hm
 have hq : RuleOk w y ∧ ∀ a, y.cells.ad = some a → some a.block ≠ v.ownBlock := by
  rcases List.mem_append.1 hm with hm | hm
  ·exact h y hm
  ·exact hy y hm
 have h1 := (RulesF.snoc (w := w) (w' := w') (v := v) (v' := v') (RulesF.nil w v) hq.1 hq.2 hg hat) y (by simp)
 exact h1
theorem OwnR.app {W : World} {b g : Nat} {v : Value} {R : List Tb.Rl} (ho : OwnR W b v R) (ys : List Tb.Rl) (hy : ∀ y ∈ ys, RuleOk W y ∧ ∀ a, y.cells.ad = some a → some a.block ≠ v.ownBlock ∧ b ≤ a.block)
  (hg : Blk W g 45 (RC ys).toArray) (hb : b ≤ W.heap.size) (hl : R.length ≤ 1000) (hl2 : ys.length ≤ 1000) (ty : TypeId) :
  ∃ v' W', (Builtin.append_ #[24, 24] ty #[v, .slice (some ⟨g, 0, none⟩) ys.length ys.length]).run Tryd.prog W = .ok v' W' ∧ OwnR W' b v' (R ++ ys.map Tb.eR) ∧ W.grownBy W' v.ownBlock ∧ (v'.ownBlock = v.ownBlock ∨ v'.ownBlock = some W.heap.size) := by
 obtain ⟨rs, hown, F, h3, h4⟩ := ho
 have hlen : rs.length ≤ 1000 := by rw [← h3, List.length_map] at hl; exact hl
 obtain ⟨j0, hj, hy0, hy1, hy2⟩ := info_parts ruleInfo3'
 obtain ⟨v', w', hrun, hown', hgrow', hat'⟩ := run_append_any (P := Tryd.prog) W b 24 ty 45 j0 (.agg #[.string { data := #[] }, .int .i64 0, .slice none 0 0]) 3 48 Tryd.underlying24 hj hy0 hy1 hy2 rfl (by omega)
  v rs.length (RC rs) hown W.heap.size (some ⟨g, 0, none⟩) ys.length ys.length (RC ys)
  ⟨RC_len ys, fun _ => ⟨_, rfl, hg.lt, fun j u hu => by
   have h2 := Blk.cell hg j
   rw [show ((⟨g, 0, none⟩ : Addr).add j) = ⟨g, j, none⟩ by unfold Addr.add; split <;> simp_all, h2, ← hu]
   rw [List.getElem?_toArray]⟩⟩
  (fun u hu => RC_one ys u hu) (by unfold maxLen; omega) (by omega) hb
 refine ⟨v', w', hrun, ⟨rs ++ ys, ?_, F.app (fun y hm => ⟨(hy y hm).1, fun a ha => ((hy y hm).2 a ha).1⟩) hgrow' hat', by rw [List.map_append, h3], fun r hr a ha => ?_⟩, hgrow', hat'⟩
 ·rw [RC_append, List.length_append]
  exact hown'
 ·rcases List.mem_append.1 hr with hr | hr
  ·exact h4 r hr a ha
  ·exact ((hy r hr).2 a ha).2
theorem stab_own (b : Nat) (R : List Tb.Rl) : Stab (fun W v => OwnR W b v R) := fun _ _ _ hb h => h.below hb
theorem OwnR.grownLow {w w' : World} {b : Nat} {v : Value} {R : List Tb.Rl} {row : Option Nat} (h : OwnR w b v R) (hg : w.grownBy w' row) (hr : ∀ g, row = some g → g < b) : OwnR w' b v R := by
 obtain ⟨rs, h1, h2, h3, h4⟩ := h
 refine ⟨rs, own_grownOff h1 hg (fun k hk e => ?_), fun r hm => ⟨⟨(h2 r hm).1.1.grown hg (fun a ha hc => ?_), (h2 r hm).1.2⟩, (h2 r hm).2⟩, h3, h4⟩
 ·have := (h1.lt k e).1
  have := hr k hk
  omega
 ·have := h4 r hm a ha
  have := hr a.block hc.symm
  omega
theorem Reads.grownFrom {w w' : World} {size n B : Nat} {A : Option Addr} {xs : List Value} {row : Option Nat} (h : Reads w w.heap.size size A n xs) (hg : w.grownBy w' row) (hr : ∀ g, row = some g → g < B) (ho : ∀ a, A = some a → B ≤ a.block) : Reads w' w'.heap.size size A n xs :=
 ⟨h.1, fun hn => by
  obtain ⟨ad, e, hb, hc⟩ := h.2 hn
  refine ⟨ad, e, Nat.lt_of_lt_of_le hb hg.size, fun j u hu => ?_⟩
  rw [World.cell?_of_block (hg.block (ad.add j).block (by rw [block_of_add]; exact hb) (by
   rw [block_of_add]
   intro hc2
   have h1 := hr _ hc2.symm
   have h2 := ho ad e
   omega))]
  exact hc j u hu⟩
def LangB (w : World) (B : Nat) (m : Value) (R : List Tb.Rl) : Prop :=
 ∃ A c rs, m = .slice A rs.length c ∧ rs.length ≤ c ∧ RulesAt w w.heap.size A rs ∧ rs.map Tb.eR = R ∧ (∀ a, A = some a → B ≤ a.block) ∧ ∀ r ∈ rs, ∀ a, r.cells.ad = some a → B ≤ a.block
theorem LangB.grown {w w' : World} {B : Nat} {m : Value} {R : List Tb.Rl} {row : Option Nat} (h : LangB w B m R) (hg : w.grownBy w' row) (hr : ∀ g, row = some g → g < B) : LangB w' B m R := by
 obtain ⟨A, c, rs, h1, h2, h3, h4, h5, h6⟩ := h
 exact ⟨A, c, rs, h1, h2, ⟨h3.1.grownFrom hg hr h5, fun r hm => ⟨⟨(h3.2.1 r hm).1.1.grownFrom hg hr (h6 r hm), (h3.2.1 r hm).1.2⟩, (h3.2.1 r hm).2⟩, h3.2.2⟩, h4, h5, h6⟩
theorem LangB.lower {w : World} {B B' : Nat} {m : Value} {R : List Tb.Rl} (h : LangB w B m R) (hb : B' ≤ B) : LangB w B' m R := by
 obtain ⟨A, c, rs, h1, h2, h3, h4, h5, h6⟩ := h
 exact ⟨A, c, rs, h1, h2, h3, h4, fun a ha => Nat.le_trans hb (h5 a ha), fun r hm a ha => Nat.le_trans hb (h6 r hm a ha)⟩
theorem OwnR.langB {w : World} {b : Nat} {v : Value} {R : List Tb.Rl} (h : OwnR w b v R) (hl : R.length ≤ 1000) : LangB w b v R := by
 obtain ⟨rs, h1, h2, h3, h4⟩ := h
 have hlen : rs.length ≤ 1048576 := by rw [← h3, List.length_map] at hl; omega
 obtain ⟨A, c, hv, hc, hr, ha⟩ := rules_of_own h1 h2 hlen
 exact ⟨A, c, rs, hv, hc, hr, h3, ha, h4⟩
def BsB (w : World) (B : Nat) (m : Value) (l : List UInt8) : Prop := ∃ A c, m = .slice A l.length c ∧ BsAt w w.heap.size ⟨l, A, c⟩ ∧ ∀ a, A = some a → B ≤ a.block
theorem BsB.grown {w w' : World} {B : Nat} {m : Value} {l : List UInt8} {row : Option Nat} (h : BsB w B m l) (hg : w.grownBy w' row) (hr : ∀ g, row = some g → g < B) : BsB w' B m l := by
 obtain ⟨A, c, h1, h2, h3⟩ := h
 exact ⟨A, c, h1, ⟨h2.1.grownFrom hg hr h3, h2.2⟩, h3⟩
theorem BsB.new {w : World} {B g : Nat} {l : List UInt8} (h : Blk w g 5 (BV l).toArray) (hl : l.length ≤ 1000) (hB : B ≤ g) : BsB w B (.slice (some ⟨g, 0, none⟩) l.length l.length) l :=
 ⟨_, _, rfl, bs_of_blk w g l h (by omega), fun a ha => by injection ha with ha; subst ha; exact hB⟩
theorem tab_parts {w : World} {B : Nat} {m0 m1 d c n f s : Value} {R0 R1 : List Tb.Rl} {dl cl nl fl sl : List UInt8} (h0 : LangB w B m0 R0) (h1 : LangB w B m1 R1) (hd : BsB w B d dl) (hc : BsB w B c cl) (hn : BsB w B n nl) (hf : BsB w B f fl) (hs : BsB w B s sl) :
  ∃ t, TabAt w w.heap.size (.agg #[m0, m1, d, c, n, f, s]) t ∧ Tb.eT t = ⟨R0, R1, ⟨dl, none, 0⟩, ⟨cl, none, 0⟩, ⟨nl, none, 0⟩, ⟨fl, none, 0⟩, ⟨sl, none, 0⟩⟩ := by
 obtain ⟨A0, c0, rs0, rfl, k0, r0, e0, _, _⟩ := h0
 obtain ⟨A1, c1, rs1, rfl, k1, r1, e1, _, _⟩ := h1
 obtain ⟨Ad, cd, rfl, bd, _⟩ := hd
 obtain ⟨Ac, cc, rfl, bc, _⟩ := hc
 obtain ⟨An, cn, rfl, bn, _⟩ := hn
 obtain ⟨Af, cf, rfl, bf, _⟩ := hf
 obtain ⟨As, cs, rfl, bs, _⟩ := hs
 refine ⟨⟨rs0, rs1, ⟨dl, Ad, cd⟩, ⟨cl, Ac, cc⟩, ⟨nl, An, cn⟩, ⟨fl, Af, cf⟩, ⟨sl, As, cs⟩⟩, ⟨A0, A1, c0, c1, rfl, r0, r1, k0, k1, bd, bc, bn, bf, bs⟩, ?_⟩
 unfold Tb.eT Tb.eB
 rw [← e0, ← e1]
theorem grown_setRow (w : World) (g : Nat) (cs : Array Value) : w.grownBy (w.setRow g cs) (some g) :=
 ⟨rfl, rfl, rfl, by show w.heap.size ≤ (w.setRow g cs).heap.size; unfold World.setRow; simp, fun i _ hne => setRow_other w g i cs fun e => hne (by rw [e])⟩
theorem alloc_at (w : World) (t : TypeId) (cs : Array Value) (k : Nat) (hk : k = w.heap.size) : Blk (w.alloc (.cells cs t)) k t cs := by
 subst hk
 exact Blk.new w t cs
theorem field_set (Y : World) (B g1 k : Nat) (cs : Array Value) (l : List UInt8) (hg : Blk Y g1 29 cs) (hl : l.length ≤ 1000) (hB : B ≤ Y.heap.size) :
  Blk ((Y.alloc (.cells (BV l).toArray 5)).setCell ⟨g1, k, none⟩ (.slice (some ⟨Y.heap.size, 0, none⟩) l.length l.length)) g1 29 (cs.setIfInBounds k (.slice (some ⟨Y.heap.size, 0, none⟩) l.length l.length)) ∧
  Y.grownBy ((Y.alloc (.cells (BV l).toArray 5)).setCell ⟨g1, k, none⟩ (.slice (some ⟨Y.heap.size, 0, none⟩) l.length l.length)) (some g1) ∧
  BsB ((Y.alloc (.cells (BV l).toArray 5)).setCell ⟨g1, k, none⟩ (.slice (some ⟨Y.heap.size, 0, none⟩) l.length l.length)) B (.slice (some ⟨Y.heap.size, 0, none⟩) l.length l.length) l := by
 refine ⟨(hg.alloc _).set_ k _, grown_set (only_alloc (World.grownBy.refl _ _) _) k _, BsB.new ((Blk.new Y _ _).far ?_ _) hl hB⟩
 have := hg.lt
 show Y.heap.size ≠ g1
 omega
theorem tablesInfo : (Tryd.prog.info? 29).map (·.size) = some 7 := by kernel_rfl
theorem wpList_store_tab {ops : Array Oper} {rest : List Oper} {o : Oper} {a : Act} {w : World} {Q : Exit → Act → World → Prop} (hgd : o.guard = none) (x y : Operand) (ho : o.op = .store 29 x y)
  (g : Nat) (v0 v1 v2 v3 v4 v5 v6 : Value) (hx : a.eval x = .pointer (some ⟨g, 0, none⟩)) (hy : a.eval y = .agg #[v0, v1, v2, v3, v4, v5, v6]) (old : Array Value) (hg : Blk w g 29 old)
  (hold : old.size = 7) (h1 : (#[v0, v1, v2, v3, v4, v5, v6] : Array Value).all (·.oneCell') = true)
  (h : wpList Tryd.prog ops Q rest (a.put o.dst undef) (w.setRow g #[v0, v1, v2, v3, v4, v5, v6])) : wpList Tryd.prog ops Q (o :: rest) a w :=
 wpList_store_row hgd 29 x y ho g _ hx hy 29 old hg tablesInfo hold h1 h
theorem load_tab (W : World) (g : Nat) (v0 v1 v2 v3 v4 v5 v6 : Value) (old : Array Value) (hg : Blk W g 29 old) :
  (loadVar 29 ⟨g, 0, none⟩).run Tryd.prog (W.setRow g #[v0, v1, v2, v3, v4, v5, v6]) = .ok (.agg #[v0, v1, v2, v3, v4, v5, v6]) (W.setRow g #[v0, v1, v2, v3, v4, v5, v6]) :=
 run_loadVar_row _ _ _ _ _ _ _ (setRow_heap W g _ #[v0, v1, v2, v3, v4, v5, v6] _ _ hg) Tryd.underlying29 rfl tablesInfo
def lastWaitsT (ops : Array Oper) (n : Nat) : Bool := decide (ops.size = n + 1) && (List.range n).all fun i => (depsOf ops n).contains i || (List.range n).any fun j => decide (i < j) && (depsOf ops j).contains i
theorem wpAny_twoT {P : Program} {ops : Array Oper} {Q : Exit → Act → World → Prop} (m n : Nat) (hmn : m < n) (mk : (Nat → Value) → Act) (R : Nat → Value → World → Prop) (C : Bool → World → Prop) (hb : backward_ ops = true) (hl : lastWaitsT ops n = true)
  (hstep : ∀ i, i < n → i ≠ m → ∀ c x W, C c W → (∀ j ∈ depsOf ops i, R j (x j) W) → wpOp P ops Q i (fun b W' => ∃ v, b = mk (upd x i v) ∧ R i v W' ∧ (∀ j, j ≠ i → ∀ u, R j u W → R j u W') ∧ C c W') (mk x) W)
  (hmid : ∀ x W, C false W → (∀ j ∈ depsOf ops m, R j (x j) W) → wpOp P ops Q m (fun b W' => ∃ v, b = mk (upd x m v) ∧ R m v W' ∧ (∀ j, j ≠ m → ∀ u, R j u W → R j u W') ∧ C true W') (mk x) W)
  (hlast : ∀ x W, C true W → (∀ i, i < n → R i (x i) W) → wpOp P ops Q n (fun b W' => Q .normal b W') (mk x) W) :
  ∀ (f : Nat) (ls : Array Bool) (x : Nat → Value) (W : World), ls.size = ops.size → ls.toList.count false = f → ls.getD n true = false → C (ls.getD m false) W → (∀ j, j < n → ls.getD j true = true → ∀ k ∈ depsOf ops j, ls.getD k true = true) → (∀ j, j < n → ls.getD j true = true → R j (x j) W) → wpAny P .any ops Q f ls (mk x) W
 | 0, ls, x, W, hs, hc, hn, hC, hcl, hR => by
  have := count_set ls n hn
  omega
 | f + 1, ls, x, W, hs, hc, hn, hC, hcl, hR => by
  have hsz : ops.size = n + 1 := by
   unfold lastWaitsT at hl
   rw [Bool.and_eq_true] at hl
   exact of_decide_eq_true hl.1
  have hdn : ∀ i, i < n → i ∈ depsOf ops n ∨ ∃ j, i < j ∧ j < n ∧ i ∈ depsOf ops j := fun i hi => by
   unfold lastWaitsT at hl
   rw [Bool.and_eq_true, List.all_eq_true] at hl
   have h := hl.2 i (List.mem_range.2 hi)
   rw [Bool.or_eq_true, List.any_eq_true] at h
   rcases h with h | ⟨j, hj, h⟩
   ·exact .inl (by simpa using h)
   ·rw [Bool.and_eq_true] at h
    exact .inr ⟨j, of_decide_eq_true h.1, List.mem_range.1 hj, by simpa using h.2⟩
  refine ⟨fun h => ?_, fun i hi => ?_⟩
  ·have := all_listed hs hb h n (by omega)
   rw [this] at hn
   cases hn
  ·obtain ⟨h0, o, ho, _⟩ := mem_ready.1 hi
   have hin := (Array.getElem?_eq_some_iff.1 ho).1
   have both : ∀ j, ls.getD j false = true → ls.getD j true = true := fun j h1 => by
    rcases Nat.lt_or_ge j ls.size with h2 | h2
    ·simp only [Array.getD_eq_getD_getElem?, Array.getElem?_eq_getElem h2, Option.getD_some] at h1 ⊢
     exact h1
    ·simp [Array.getD_eq_getD_getElem?, Array.getElem?_eq_none h2]
   have hd : ∀ j ∈ depsOf ops i, ls.getD j true = true := fun j hj => both j (deps_ready hi j hj)
   by_cases hin2 : i = n
   ·subst hin2
    have hall : ∀ d j, j < i → i - j ≤ d → ls.getD j true = true := fun d => by
     induction d with
     | zero => intro j hj hd; omega
     | succ d ih =>
      intro j hj hjd
      rcases hdn j hj with h | ⟨k, h1, h2, h3⟩
      ·exact hd j h
      ·exact hcl k h2 (ih k h2 (by omega)) j h3
    have hall : ∀ j, j < i → ls.getD j true = true := fun j hj => hall i j hj (by omega)
    have hmt : ls.getD m false = true := by
     have h2 := hall m hmn
     have h1 : m < ls.size := by omega
     simp only [Array.getD_eq_getD_getElem?, Array.getElem?_eq_getElem h1, Option.getD_some] at h2 ⊢
     exact h2
    rw [hmt] at hC
    refine wpOp_mono (fun b W' hq => ?_) (hlast x W hC fun j hj => hR j hj (hall j hj))
    have hz : (ls.setIfInBounds i true).toList.count false = 0 := by
     rw [List.count_eq_zero]
     intro hm
     obtain ⟨k, hk, he⟩ := List.getElem_of_mem hm
     have hk2 : k < ls.size := by simpa using hk
     by_cases hki : k = i
     ·subst hki
      simp at he
     ·have h1 := hall k (by omega)
      simp only [Array.getD_eq_getD_getElem?, Array.getElem?_eq_getElem hk2, Option.getD_some] at h1
      have h2 : (ls.setIfInBounds i true).toList[k] = ls[k] := by
       simp [Array.getElem_setIfInBounds, Ne.symm hki]
      rw [h2, h1] at he
      cases he
    have hf : f = 0 := by have := count_set ls i h0; omega
    subst hf
    refine ⟨?_, hq⟩
    rw [List.eq_nil_iff_forall_not_mem]
    intro j hj
    obtain ⟨hj0, p, hp, _⟩ := mem_ready.1 hj
    have := count_set _ j hj0
    omega
   ·have hR' : ∀ j ∈ depsOf ops i, R j (x j) W := fun j hj => hR j (by
     unfold backward_ at hb
     simp only [List.all_eq_true, List.mem_range, decide_eq_true_eq] at hb
     have := hb i hin j hj
     omega) (hd j hj)
    have next : ∀ (c' : Bool), (ls.setIfInBounds i true).getD m false = c' → ∀ b W', (∃ v, b = mk (upd x i v) ∧ R i v W' ∧ (∀ j, j ≠ i → ∀ u, R j u W → R j u W') ∧ C c' W') → wpAny P .any ops Q f (ls.setIfInBounds i true) b W' := by
     rintro c' hc' b W' ⟨v, rfl, hv, hk, hC'⟩
     refine wpAny_twoT m n hmn mk R C hb hl hstep hmid hlast f _ (upd x i v) W' (by simpa using hs) (by have := count_set ls i h0; omega) ?_ (by rw [hc']; exact hC') (fun j hj hlj k hkd => ?_) fun j hj hlj => ?_
     ·rw [getD_set_ne true (by exact hin2)]
      exact hn
     ·have hkl : ls.getD k true = true := by
       by_cases he : j = i
       ·subst he
        exact hd k hkd
       ·rw [getD_set_ne true (Ne.symm he)] at hlj
        exact hcl j hj hlj k hkd
      by_cases he : k = i
      ·subst he
       have h2 : k < ls.size := by omega
       simp [h2]
      ·rw [getD_set_ne true (Ne.symm he)]
       exact hkl
     ·by_cases he : j = i
      ·subst he
       rw [upd_same]
       exact hv
      ·rw [upd_ne x v he]
       rw [getD_set_ne true (Ne.symm he)] at hlj
       exact hk j he _ (hR j hj hlj)
    by_cases him : i = m
    ·subst him
     have hf0 : ls.getD i false = false := by
      rcases Nat.lt_or_ge i ls.size with h2 | h2
      ·simp only [Array.getD_eq_getD_getElem?, Array.getElem?_eq_getElem h2, Option.getD_some] at h0 ⊢
       exact h0
      ·simp [Array.getD_eq_getD_getElem?, Array.getElem?_eq_none h2]
     rw [hf0] at hC
     refine wpOp_mono (next true ?_) (hmid x W hC hR')
     have h2 : i < ls.size := by omega
     simp [h2]
    ·refine wpOp_mono (next _ (getD_set_ne false him)) (hstep i (by omega) him _ x W hC hR')
theorem wp_region_threeT {P : Program} {ops : Array Oper} {Q : Exit → Act → World → Prop} {id : Nat} {a : Act} {w : World} (m n : Nat) (ds : List (Option Tmp)) (R : Nat → Value → World → Prop) (C : Bool → World → Prop) (hmn : m < n) (hm : P.follows .mixedOrders = true) (hb : backward_ ops = true) (hl : lastWaitsT ops n = true)
  (hds : (ops.toList.take n).map (·.dst) = ds) (hsa : slotsApart ds = true) (hsz : (ds.all fun d => match d with | some t => decide (t < a.tmps.size) | none => true) = true) (hC : C false w.drew)
  (hstep : ∀ i, i < n → i ≠ m → ∀ c (A : Act) (x : Nat → Value) W, C c W → (∀ j ∈ depsOf ops i, found ds A j (x j) ∧ R j (x j) W) → (∀ t, (ds.all fun d => !(d == some t)) = true → A.tmps[t]?.getD undef = a.tmps[t]?.getD undef) →
   wpOp P ops Q i (fun b W' => ∃ v, b = A.put (ds.getD i none) v ∧ R i v W' ∧ (∀ j, j ≠ i → ∀ u, R j u W → R j u W') ∧ C c W') A W)
  (hmid : ∀ (A : Act) (x : Nat → Value) W, C false W → (∀ j ∈ depsOf ops m, found ds A j (x j) ∧ R j (x j) W) → (∀ t, (ds.all fun d => !(d == some t)) = true → A.tmps[t]?.getD undef = a.tmps[t]?.getD undef) →
   wpOp P ops Q m (fun b W' => ∃ v, b = A.put (ds.getD m none) v ∧ R m v W' ∧ (∀ j, j ≠ m → ∀ u, R j u W → R j u W') ∧ C true W') A W)
  (hlast : ∀ x W, C true W → (∀ i, i < n → R i (x i) W) → wpOp P ops Q n (fun b W' => Q .normal b W') (putL ds 0 x a) W) : (Code.region id ops true).wp P Q a w := by
 obtain ⟨x0, hx0⟩ := putL_self ds 0 a
 have hon : ops.size = n + 1 := by
  unfold lastWaitsT at hl
  rw [Bool.and_eq_true] at hl
  exact of_decide_eq_true hl.1
 refine wp_region_any hm ?_
 have hlen : ds.length = n := by rw [← hds]; simp; omega
 have hfound : ∀ x j, j < n → found ds (putL ds 0 x a) j (x j) := fun x j hj t ht => by
  have h1 := getD_putL ds 0 x a j t hsa ht (by
   rw [List.all_eq_true] at hsz
   have := hsz (some t) (List.mem_of_getElem? ht)
   simpa using this)
  rwa [Nat.zero_add] at h1
 have hrest : ∀ x t, (ds.all fun d => !(d == some t)) = true → (putL ds 0 x a).tmps[t]?.getD undef = a.tmps[t]?.getD undef := fun x t ht => by
  refine getD_putL_other t ds 0 x a fun d hd he => ?_
  rw [List.all_eq_true] at ht
  have := ht d hd
  rw [he] at this
  simp at this
 have hB : ∀ i, i < ops.size → ∀ j ∈ depsOf ops i, j < i := by
  unfold backward_ at hb
  simp only [List.all_eq_true, List.mem_range, decide_eq_true_eq] at hb
  exact hb
 have conv : ∀ (i : Nat) (c : Bool) (x : Nat → Value) (W : World), i < n → wpOp P ops Q i (fun b W' => ∃ v, b = (putL ds 0 x a).put (ds.getD i none) v ∧ R i v W' ∧ (∀ j, j ≠ i → ∀ u, R j u W → R j u W') ∧ C c W') (putL ds 0 x a) W →
   wpOp P ops Q i (fun b W' => ∃ v, b = putL ds 0 (upd x i v) a ∧ R i v W' ∧ (∀ j, j ≠ i → ∀ u, R j u W → R j u W') ∧ C c W') (putL ds 0 x a) W := by
  intro i c x W hi h
  refine wpOp_mono ?_ h
  rintro b W' ⟨v, rfl, h1, h2, h3⟩
  refine ⟨v, ?_, h1, h2, h3⟩
  have hl2 : i < ds.length := by omega
  have e := putL_set ds 0 x a i v (ds[i]'hl2) hsa (List.getElem?_eq_getElem hl2)
  rw [Nat.zero_add] at e
  rw [← e]
  simp [List.getD, hl2]
 have h := wpAny_twoT (P := P) (ops := ops) (Q := Q) m n hmn (fun x => putL ds 0 x a) R C hb hl
  (fun i hi him c x W hC hd => conv i c x W hi (hstep i hi him c _ x W hC (fun j hj => ⟨hfound x j (by have := hB i (by omega) j hj; omega), hd j hj⟩) (hrest x)))
  (fun x W hC hd => conv m true x W hmn (hmid _ x W hC (fun j hj => ⟨hfound x j (by have := hB m (by omega) j hj; omega), hd j hj⟩) (hrest x))) hlast ops.size (Array.replicate ops.size false) x0 w.drew (by simp) (by rw [Array.toList_replicate, List.count_replicate]; simp) (by simp [hon]) (by simpa [show m < ops.size by omega] using hC) (fun j hj hlj => by simp [show j < ops.size by omega] at hlj) (fun j hj hlj => by simp [show j < ops.size by omega] at hlj)
 rw [hx0] at h
 exact h
namespace Tb
def good (x : Int × UInt8) : Prop := langOk x.1 = true ∧ (letter x.2 = true ∨ digit x.2 = true ∨ x.2 ∈ markB)
end Tb
namespace Tb
def theS : List UInt8 := [116, 104, 101, 114, 105, 110, 103, 97, 110, 100, 115, 116, 111, 117, 98, 99, 97, 102, 120]
def symWords : List (List UInt8) := [[116, 104, 101], [97, 110, 100], [105, 110, 103], [116, 105, 111, 110], [98, 117, 116], [98, 101], [115, 116]]
def symC (n : Nat) : UInt8 :=
 if n / 12 = 12 ∨ n / 12 = 13 then UInt8.ofNat (48 + n % 10)
 else if n / 12 = 14 then markB.getD (n % 6) 0
 else if n / 12 = 15 ∨ n / 12 = 16 then 32
 else if n / 12 = 17 then theS.getD (n % 19) 0 - 32
 else theS.getD (n % 19) 0
def symLang (n lang : Nat) : Nat := if n / 12 = 19 then 1 - lang else lang
def symWord (n : Nat) : List UInt8 := if n / 12 = 18 then symWords.getD (n % 7) [] else []
def symMore (l : Text) (n lang : Nat) : Text := l ++ (((symLang n lang : Nat) : Int), symC n) :: ((symWord n).take (23 - l.length)).map fun c => (((symLang n lang : Nat) : Int), c)
def symStep (s : Text × Nat) (x : Int) : Text × Nat :=
 if s.1.length < 24 then (symMore s.1 (Ce.around x 240) s.2, symLang (Ce.around x 240) s.2) else s
def symsS (l : List Int) : Text × Nat := l.foldl symStep ([], 0)
def symsT (l : List Int) : Text := (symsS l).1
theorem symsS_snoc (l : List Int) (x : Int) : symsS (l ++ [x]) = symStep (symsS l) x := by unfold symsS; rw [List.foldl_append]; rfl
theorem symLang_lt (n lang : Nat) (h : lang < 2) : symLang n lang < 2 := by unfold symLang; split <;> omega
theorem symC_good (n : Nat) (h : n < 240) : letter (symC n) = true ∨ digit (symC n) = true ∨ symC n ∈ markB := by
 have H : ∀ n : Fin 240, letter (symC n.val) = true ∨ digit (symC n.val) = true ∨ symC n.val ∈ markB := by decide +kernel
 exact H ⟨n, h⟩
theorem symWord_good (n : Nat) (h : n < 240) : ∀ c ∈ symWord n, letter c = true := by
 have H : ∀ n : Fin 240, ∀ c ∈ symWord n.val, letter c = true := by decide +kernel
 exact H ⟨n, h⟩
theorem langOk_nat (k : Nat) (h : k < 2) : langOk (k : Int) = true := by unfold langOk; exact decide_eq_true ⟨by omega, by omega⟩
theorem symsS_good (l : List Int) : (symsS l).2 < 2 ∧ (symsS l).1.length ≤ 24 ∧ ∀ x ∈ (symsS l).1, good x := by
 refine Wr.snoc_ind (P := fun l => (symsS l).2 < 2 ∧ (symsS l).1.length ≤ 24 ∧ ∀ x ∈ (symsS l).1, good x) ⟨by decide, by decide, fun x h => by cases h⟩ (fun l a ih => ?_) l
 rw [symsS_snoc]
 obtain ⟨h1, h2, h3⟩ := ih
 have hn := Ce.around_lt a 240 (by decide)
 generalize symsS l = s at *
 generalize Ce.around a 240 = n at *
 unfold symStep
 by_cases h : s.1.length < 24
 ·have hl := symLang_lt (Ce.around a 240) s.2 h1
  rw [if_pos h]
  refine ⟨hl, ?_, fun x hx => ?_⟩
  ·unfold symMore
   simp only [List.length_append, List.length_cons, List.length_map, List.length_take]
   omega
  ·unfold symMore at hx
   have hn' := Ce.around_lt a 240 (by decide)
   rcases List.mem_append.1 hx with hx | hx
   ·exact h3 x hx
   ·rcases List.mem_cons.1 hx with hx | hx
    ·subst hx
     exact ⟨langOk_nat _ hl, symC_good _ hn'⟩
    ·obtain ⟨c, hc, rfl⟩ := List.mem_map.1 hx
     exact ⟨langOk_nat _ hl, .inl (symWord_good _ hn' c (List.mem_of_mem_take hc))⟩
 ·rw [if_neg h]
  exact ⟨h1, h2, h3⟩
theorem symsT_good (l : List Int) : (symsT l).length ≤ 24 ∧ ∀ x ∈ symsT l, good x := (symsS_good l).2
end Tb
theorem Tb.symsS_full (l : List Int) (i : Nat) (h : ¬ (Tb.symsS (l.take i)).1.length < 24) : Tb.symsS l = Tb.symsS (l.take i) := by
 have e : ∀ (r : List Int) (s : Tb.Text × Nat), ¬ s.1.length < 24 → r.foldl Tb.symStep s = s := by
  intro r
  induction r with
  | nil => intro s _; rfl
  | cons a r ih =>
   intro s hs
   rw [List.foldl_cons]
   have h1 : Tb.symStep s a = s := by unfold Tb.symStep; rw [if_neg hs]
   rw [h1]
   exact ih s hs
 have h2 : Tb.symsS (l.take i ++ l.drop i) = (l.drop i).foldl Tb.symStep (Tb.symsS (l.take i)) := by unfold Tb.symsS; rw [List.foldl_append]
 rw [List.take_append_drop] at h2
 rw [h2]
 exact e _ _ h
def IntsAt (w : World) (B : Nat) (A : Option Addr) (l : List Int) : Prop := Reads w B 1 A l.length (l.map fun x => Value.int .i64 x) ∧ (∀ x ∈ l, Wr.inI x) ∧ l.length ≤ 17592186044416
theorem the_at (n : Nat) (W : World) : (Instr.index 9 (.string (S Tb.theS)) (.int .i64 ((n % 19 : Nat) : Int))).run Tryd.prog W = .ok (.int .u8 (((Tb.theS.getD (n % 19) 0).toNat : Nat) : Int)) W := run_index_S Tb.theS (n % 19) (Nat.mod_lt _ (by decide)) W
theorem dig_at (n : Nat) (W : World) : (Instr.index 9 (.string (S [48, 49, 50, 51, 52, 53, 54, 55, 56, 57])) (.int .i64 ((n % 10 : Nat) : Int))).run Tryd.prog W = .ok (.int .u8 (((UInt8.ofNat (48 + n % 10)).toNat : Nat) : Int)) W := by
 rw [run_index_S [48, 49, 50, 51, 52, 53, 54, 55, 56, 57] (n % 10) (Nat.mod_lt _ (by decide)) W]
 have H : ∀ k : Fin 10, ([48, 49, 50, 51, 52, 53, 54, 55, 56, 57] : List UInt8).getD k.val 0 = UInt8.ofNat (48 + k.val) := by decide
 rw [H ⟨n % 10, Nat.mod_lt _ (by decide)⟩]
theorem mark_at (n : Nat) (W : World) : (Instr.index 9 (.string (S Tb.markB)) (.int .i64 ((n % 6 : Nat) : Int))).run Tryd.prog W = .ok (.int .u8 (((Tb.markB.getD (n % 6) 0).toNat : Nat) : Int)) W := run_index_S Tb.markB (n % 6) (Nat.mod_lt _ (by decide)) W
theorem the_lit (n : Nat) (W : World) : (Instr.index 9 (.string { data := #[116, 104, 101, 114, 105, 110, 103, 97, 110, 100, 115, 116, 111, 117, 98, 99, 97, 102, 120] }) (.int .i64 ((n : Int) % 19))).run Tryd.prog W = .ok (.int .u8 (((Tb.theS.getD (n % 19) 0).toNat : Nat) : Int)) W := by
 have h := the_at n W
 rw [show ((n % 19 : Nat) : Int) = (n : Int) % 19 by omega] at h
 exact h
theorem dig_lit (n : Nat) (W : World) : (Instr.index 9 (.string { data := #[48, 49, 50, 51, 52, 53, 54, 55, 56, 57] }) (.int .i64 ((n : Int) % 10))).run Tryd.prog W = .ok (.int .u8 (((UInt8.ofNat (48 + n % 10)).toNat : Nat) : Int)) W := by
 have h := dig_at n W
 rw [show ((n % 10 : Nat) : Int) = (n : Int) % 10 by omega] at h
 exact h
theorem mark_lit (n : Nat) (W : World) : (Instr.index 9 (.string { data := #[32, 46, 44, 63, 39, 45] }) (.int .i64 ((n : Int) % 6))).run Tryd.prog W = .ok (.int .u8 (((Tb.markB.getD (n % 6) 0).toNat : Nat) : Int)) W := by
 have h := mark_at n W
 rw [show ((n % 6 : Nat) : Int) = (n : Int) % 6 by omega] at h
 exact h
theorem the_range (n : Nat) : 97 ≤ (Tb.theS.getD (n % 19) 0).toNat ∧ (Tb.theS.getD (n % 19) 0).toNat ≤ 122 := by
 have H : ∀ k : Fin 19, 97 ≤ (Tb.theS.getD k.val 0).toNat ∧ (Tb.theS.getD k.val 0).toNat ≤ 122 := by decide
 exact H ⟨n % 19, Nat.mod_lt _ (by decide)⟩
theorem sym_code (n : Nat) (hn : n < 240) : ((Tb.symC n).toNat : Int) = if (n : Int) / 12 = 12 ∨ (n : Int) / 12 = 13 then ((UInt8.ofNat (48 + n % 10)).toNat : Int) else if (n : Int) / 12 = 14 then ((Tb.markB.getD (n % 6) 0).toNat : Int) else if (n : Int) / 12 = 15 ∨ (n : Int) / 12 = 16 then 32 else if (n : Int) / 12 = 17 then ((Tb.theS.getD (n % 19) 0).toNat : Int) - 32 else ((Tb.theS.getD (n % 19) 0).toNat : Int) := by
 have H : ∀ k : Fin 240, ((Tb.symC k.val).toNat : Int) = if (k.val : Int) / 12 = 12 ∨ (k.val : Int) / 12 = 13 then ((UInt8.ofNat (48 + k.val % 10)).toNat : Int) else if (k.val : Int) / 12 = 14 then ((Tb.markB.getD (k.val % 6) 0).toNat : Int) else if (k.val : Int) / 12 = 15 ∨ (k.val : Int) / 12 = 16 then 32 else if (k.val : Int) / 12 = 17 then ((Tb.theS.getD (k.val % 19) 0).toNat : Int) - 32 else ((Tb.theS.getD (k.val % 19) 0).toNat : Int) := by decide +kernel
 exact H ⟨n, hn⟩
theorem seven_words (k : Nat) (hk : k < 7) : (#[.string { data := #[116, 104, 101] }, .string { data := #[97, 110, 100] }, .string { data := #[105, 110, 103] }, .string { data := #[116, 105, 111, 110] }, .string { data := #[98, 117, 116] }, .string { data := #[98, 101] }, .string { data := #[115, 116] }] : Array Value)[k]? = some (.string (S (Tb.symWords.getD k []))) := by
 match k, hk with
 | 0, _ | 1, _ | 2, _ | 3, _ | 4, _ | 5, _ | 6, _ => rfl
theorem sym_word_spec (out : Tb.Text) (n lg : Nat) : ¬ n / 12 = 18 → (out ++ ((lg : Int), Tb.symC n) :: ((Tb.symWord n).take (23 - out.length)).map fun c => ((lg : Int), c)) = out ++ [((lg : Int), Tb.symC n)] := by
 intro h
 have e : Tb.symWord n = [] := by unfold Tb.symWord; rw [if_neg h]
 rw [e]
 simp
set_option maxHeartbeats 8000000 in
set_option maxRecDepth 100000 in
theorem syms_any (A : Option Addr) (c : Nat) (l : List Int) (w : World) (hr : IntsAt w w.heap.size A l) :
  Calls Tryd.prog 16 #[.slice A l.length c] w fun e w' => ∃ A' c', e = .returned (.slice A' (Tb.symsT l).length c') ∧ (Tb.symsT l).length ≤ c' ∧ TextAt w' w'.heap.size A' (Tb.symsT l) ∧ Below w.heap.size w w' := by
 obtain ⟨m, hm⟩ : ∃ m, m = l.length := ⟨_, rfl⟩
 have HM := hide hm
 have hbig := hr.2.2
 rw [← hm] at hbig ⊢
 have hmi : (m : Int) ≤ 17592186044416 := by omega
 have HR := hide hr
 have HW := hide (Below.refl w.heap.size w)
 clear hr hm
 go_enter Tryd.func16, Tryd.ntmps16
 go_wp2
 go_loopw [3, 4, 5] (fun s3 s4 q wr => ∃ (i : Nat) (y3 : Value), i ≤ m ∧ q = .int .i64 (i : Int) ∧ y3 = s3 ∧ s4 = .int .i64 (((Tb.symsS (l.take i)).2 : Nat) : Int) ∧ wr.ownsRow w.heap.size 83 2 y3 (Tb.symsT (l.take i)).length (SC (Tb.symsT (l.take i))) ∧ Below w.heap.size w wr) (fun _ _ q _ => m - (intOf q).toNat)
 case atStart => exact ⟨0, _, by omega, rfl, rfl, by rw [List.take_zero]; rfl, by rw [List.take_zero]; exact own_nil _ _ _ _, HW.out⟩
 case round =>
  obtain ⟨i, y3, hi, rfl, rfl, rfl, hown, hbel⟩ := hrel
  obtain ⟨wd, rfl⟩ : ∃ wd, wd = wr := ⟨wr, rfl⟩
  have hi0 : (0 : Int) ≤ (i : Int) := by omega
  obtain ⟨A3, c3, rfl, hc3, _⟩ := own_slice hown
  by_cases hlt : i < m
  ·have hi1 : (i : Int) < (m : Int) := by omega
   have hil : i < l.length := by rw [← HM.out]; exact hlt
   obtain ⟨hg1, hg2, _⟩ := Tb.symsS_good (l.take i)
   have HFULL := hide (Tb.symsS_full l i)
   have HX := hide (show Tb.symsS (l.take (i + 1)) = Tb.symStep (Tb.symsS (l.take i)) l[i] by rw [List.take_succ_eq_append_getElem hil, Tb.symsS_snoc])
   unfold Tb.symsT at *
   generalize Tb.symsS (l.take i) = st at *
   obtain ⟨out, lang⟩ := st
   simp only [] at *
   have HOWN := hide hown
   have HB := hide hbel
   have HLT := hide hlt
   clear hown hbel hlt
   by_cases hfull : out.length < 24
   ·have HX2 := hide (show Tb.symsS (l.take (i + 1)) = (out ++ (((Tb.symLang (Ce.around l[i] 240) lang : Nat) : Int), Tb.symC (Ce.around l[i] 240)) :: ((Tb.symWord (Ce.around l[i] 240)).take (23 - out.length)).map fun c => (((Tb.symLang (Ce.around l[i] 240) lang : Nat) : Int), c), Tb.symLang (Ce.around l[i] 240) lang) by rw [HX.out]; unfold Tb.symStep; rw [if_pos hfull]; rfl)
    obtain ⟨ad, u, rfl, hadb, hu, hcu⟩ := Reads.at_ HR.out.1 (k := i) hil
    have hcx : wd.cell? (ad.add i) = some (.int .i64 l[i]) := by
     rw [HB.out.cell (by rw [block_of_add]; exact hadb), hcu, ← hu, List.getElem?_map, List.getElem?_eq_getElem hil]
     rfl
    have CA := hide (fun W => (show Calls Tryd.prog 12 #[.int .i64 l[i], .int .i64 240] W fun e w' => e = .returned (.int .i64 ((Ce.around l[i] 240 : Nat) : Int)) ∧ W = w' from around_any l[i] 240 W (HR.out.2.1 _ (List.getElem_mem hil)) (by omega) (by omega)))
    have hn := Ce.around_lt l[i] 240 (by decide)
    clear HX HFULL hu hcu
    generalize Ce.around l[i] 240 = n at *
    generalize l[i] = x at *
    have hol : (out.length : Int) < 24 := by omega
    have hlg : (lang : Int) < 2 := by omega
    go_upto_if 29 with (go_at_call 12; refine (unhide CA _).mono ?_; rintro e w1 ⟨rfl, rfl⟩)
    have HX2L := hide hlg
    have hl2 : ((Tb.symLang n lang : Nat) : Int) = if (n : Int) / 12 = 19 then 1 - (lang : Int) else (lang : Int) := by
     unfold Tb.symLang
     split <;> split <;> omega
    go_cut [4] from 11 to 88 (fun s4 wx => s4 = .int .i64 (((Tb.symLang n lang : Nat) : Int)) ∧ wx = wd)
    case first =>
     by_cases hq : (n : Int) / 12 = 19
     ·have hqb : ((n : Int) / 12 == 19) = true := by simp [hq]
      go_wp2
      go_meet
      exact ⟨by rw [hl2, if_pos hq], rfl⟩
     ·have hqb : ((n : Int) / 12 == 19) = false := by simp [hq]
      go_wp2
      go_meet
      exact ⟨by rw [hl2, if_neg hq], rfl⟩
    case rest =>
     obtain ⟨rfl, rfl⟩ := hcut
     have hlg3 := Tb.symLang_lt n lang hg1
     clear hl2 HX2L hlg hg1
     have HC := hide (show ((Tb.symC n).toNat : Int) = if (n : Int) / 12 = 12 ∨ (n : Int) / 12 = 13 then ((UInt8.ofNat (48 + n % 10)).toNat : Int) else if (n : Int) / 12 = 14 then ((Tb.markB.getD (n % 6) 0).toNat : Int) else if (n : Int) / 12 = 15 ∨ (n : Int) / 12 = 16 then 32 else if (n : Int) / 12 = 17 then ((Tb.theS.getD (n % 19) 0).toNat : Int) - 32 else ((Tb.theS.getD (n % 19) 0).toNat : Int) from sym_code n hn)
     have i1 := the_lit n
     have i2 := dig_lit n
     have i3 := mark_lit n
     obtain ⟨ht1, ht2⟩ := the_range n
     generalize (Tb.theS.getD (n % 19) 0).toNat = cT at *
     generalize (UInt8.ofNat (48 + n % 10)).toNat = cD at *
     generalize (Tb.markB.getD (n % 6) 0).toNat = cM at *
     generalize hcc : (Tb.symC n).toNat = cc at *
     have HCC := hide hcc
     clear hcc
     generalize Tb.symLang n lang = lg at *
     go_upto_block 2 with fail
     go_cut [7] from 11 to 88 (fun s7 wx => s7 = .int .u8 (cc : Int) ∧ wx = wc)
     case first =>
      clear i1 HOWN HB HCC HX2 CA HR HLT
      generalize (n : Int) / 12 = q at *
      have hq : q = 12 ∨ q = 13 ∨ q = 14 ∨ q = 15 ∨ q = 16 ∨ q = 17 ∨ (q ≠ 12 ∧ q ≠ 13 ∧ q ≠ 14 ∧ q ≠ 15 ∧ q ≠ 16 ∧ q ≠ 17) := by omega
      rcases hq with rfl | rfl | rfl | rfl | rfl | rfl | ⟨q1, q2, q3, q4, q5, q6⟩
      ·go_wp2
       go_meet
       exact ⟨by rw [HC.out]; rfl, rfl⟩
      ·go_wp2
       go_meet
       exact ⟨by rw [HC.out]; rfl, rfl⟩
      ·go_wp2
       go_meet
       exact ⟨by rw [HC.out]; rfl, rfl⟩
      ·go_wp2
       go_meet
       exact ⟨by rw [HC.out]; rfl, rfl⟩
      ·go_wp2
       go_meet
       exact ⟨by rw [HC.out]; rfl, rfl⟩
      ·go_wp2
       go_meet
       exact ⟨by rw [HC.out]; rfl, rfl⟩
      ·have b1 : (q == 12) = false := by simp [q1]
       have b2 : (q == 13) = false := by simp [q2]
       have b3 : (q == 14) = false := by simp [q3]
       have b4 : (q == 15) = false := by simp [q4]
       have b5 : (q == 16) = false := by simp [q5]
       have b6 : (q == 17) = false := by simp [q6]
       go_wp2
       go_meet
       exact ⟨by rw [HC.out, if_neg (by omega), if_neg q3, if_neg (by omega), if_neg q6], rfl⟩
     case rest =>
      obtain ⟨rfl, rfl⟩ := hcut
      clear HC i1 i2 i3 ht1 ht2
      have hbs := HB.out.size
      obtain ⟨v', W', hrun, hown', hgrow', _⟩ := syms_push (wc.alloc (.cells #[.int .i64 (lg : Int), .int .u8 (cc : Int)] 83)) w.heap.size wc.heap.size (.slice A3 out.length c3) out ((lg : Int), Tb.symC n) (own_below HOWN.out (below_alloc wc _)) (by show Blk _ _ _ #[_, .int .u8 ((Tb.symC n).toNat : Int)]; rw [HCC.out]; exact Blk.new wc _ _) (by simp; omega) (by omega) 46
      have HRUN := hide hrun
      have HO1 := hide hown'
      have HB1 := hide ((HB.out.trans (below_alloc' wc _ hbs)).grown hgrow' (by simp; omega) (fun g hg => (HOWN.out.lt g hg).1))
      clear hrun hown' hgrow' HOWN
      go_upto_if 64 with (at_builtin; refine Lib.wpList_append_run _ rfl _ _ _ _ rfl _ _ rfl rfl _ _ HRUN.out ?_)
      refine name_world fun X hX => ?_
      have HC7 := hide (show ∀ k : Nat, k < 7 → X.cell? ⟨W'.heap.size, k, none⟩ = some (.string (S (Tb.symWords.getD k []))) from fun k hk => by
       rw [← hX.out, Blk.cell (Blk.new W' _ _)]
       exact seven_words k hk)
      have HBA := hide (show Below W'.heap.size W' X by rw [← hX.out]; exact below_alloc W' _)
      have hxl : W'.heap.size < X.heap.size := by rw [← hX.out]; exact (Blk.new W' _ _).lt
      have hb1s := HB1.out.size
      have HO2 := hide (own_below HO1.out HBA.out)
      have HB2 := hide (HB1.out.trans (HBA.out.mono hb1s))
      have HSP := hide (sym_word_spec out n lg)
      obtain ⟨A1, c1, rfl, hc1, _⟩ := own_slice HO1.out
      clear hX HB HB1 HO1 HRUN HBA hb1s CA hcx
      generalize W'.heap.size = gw at *
      by_cases hq : n / 12 = 18
      ·have hqb : ((n : Int) / 12 == 18) = true := by
        have : (n : Int) / 12 = 18 := by omega
        simp [this]
       have hr0 : (0 : Int) ≤ (n : Int) % 7 := by omega
       have hr1 : (n : Int) % 7 < 7 := by omega
       have hcw : X.cell? ⟨gw, n % 7, none⟩ = some (.string (S (Tb.symWord n))) := by
        rw [HC7.out _ (by omega)]
        unfold Tb.symWord
        rw [if_pos hq]
       rw [hqb]
       clear HSP HC7
       generalize Tb.symWord n = word at *
       have HSX := hide (fun (i : Nat) (hi : i < word.length) (W : World) => run_index_S word i hi W)
       obtain ⟨wl, hwl⟩ : ∃ wl, wl = word.length := ⟨_, rfl⟩
       have hsz : (S word).size = wl := by rw [S_size, hwl]
       have HWL := hide hwl
       have HO3 := hide (show X.ownsRow w.heap.size 83 2 (.slice A1 (out ++ [((lg : Int), Tb.symC n)]).length c1) (out ++ [((lg : Int), Tb.symC n)] ++ (word.take 0).map fun c => ((lg : Int), c)).length (SC (out ++ [((lg : Int), Tb.symC n)] ++ (word.take 0).map fun c => ((lg : Int), c))) by
        rw [List.take_zero, List.map_nil, List.append_nil]
        exact HO2.out)
       have HLN := hide (show (out ++ [((lg : Int), Tb.symC n)]).length = out.length + 1 by simp)
       clear HO2 hwl
       generalize S word = sv at *
       generalize ho1 : out ++ [((lg : Int), Tb.symC n)] = o1 at *
       have HO1E := hide ho1.symm
       clear ho1
       go_wp2
       go_loopw [3, 10] (fun s3 q wr => ∃ (j : Nat) (z3 : Value), j ≤ wl ∧ q = .int .i64 (j : Int) ∧ z3 = s3 ∧ wr.ownsRow w.heap.size 83 2 z3 (o1 ++ (word.take j).map fun c => ((lg : Int), c)).length (SC (o1 ++ (word.take j).map fun c => ((lg : Int), c))) ∧ Below w.heap.size w wr ∧ out.length + 1 + j ≤ 24) (fun _ q _ => wl - (intOf q).toNat)
       case atStart => exact ⟨0, _, by omega, rfl, rfl, HO3.out, HB2.out, by omega⟩
       case round =>
        obtain ⟨j, z3, hj, rfl, rfl, hown, hbel, h24⟩ := hrel
        obtain ⟨wd, rfl⟩ : ∃ wd, wd = wr := ⟨wr, rfl⟩
        have hj0 : (0 : Int) ≤ (j : Int) := by omega
        obtain ⟨A4, c4, rfl, hc4, _⟩ := own_slice hown
        have hlen : (o1 ++ (word.take j).map fun c => ((lg : Int), c)).length = out.length + 1 + j := by
         rw [List.length_append, HLN.out, List.length_map, List.length_take]
         have := HWL.out
         omega
        by_cases hgo : j < wl ∧ out.length + 1 + j < 24
        ·obtain ⟨hj2, hf2⟩ := hgo
         have hjl : j < word.length := by rw [← HWL.out]; exact hj2
         have hj3 : (j : Int) < (wl : Int) := by omega
         have hix := fun W => HSX.out j hjl W
         have hf3 : ((o1 ++ (word.take j).map fun c => ((lg : Int), c)).length : Int) < 24 := by omega
         have HT := hide (show (o1 ++ (word.take (j + 1)).map fun c => ((lg : Int), c)) = (o1 ++ (word.take j).map fun c => ((lg : Int), c)) ++ [((lg : Int), word.getD j 0)] by
          rw [List.take_succ_eq_append_getElem hjl, List.map_append, List.append_assoc]
          simp [List.getD, hjl])
         have hbs := hbel.size
         obtain ⟨v', W2, hrun, hown', hgrow', _⟩ := syms_push (wd.alloc (.cells #[.int .i64 (lg : Int), .int .u8 ((word.getD j 0).toNat : Int)] 83)) w.heap.size wd.heap.size _ _ ((lg : Int), word.getD j 0) (own_below hown (below_alloc wd _)) (Blk.new wd _ _) (by simp; omega) (by omega) 46
         have HRUN := hide hrun
         have HO' := hide hown'
         have HB' := hide ((hbel.trans (below_alloc' wd _ hbs)).grown hgrow' (by simp; omega) (fun g hg => (hown.lt g hg).1))
         have HLT2 := hide hj2
         have HF2 := hide hf2
         clear hrun hown' hgrow' hown hbel HSX hjl hlen hj2 hf2
         generalize (word.getD j 0).toNat = cq at *
         generalize (o1 ++ (word.take j).map fun c => ((lg : Int), c)).length = ol at *
         go_wp2_with (at_builtin; refine Lib.wpList_append_run _ rfl _ _ _ _ rfl _ _ rfl rfl _ _ HRUN.out ?_)
         have hq1 := HLT2.out
         have hq2 := HF2.out
         refine ⟨⟨j + 1, _, by omega, by go_num, rfl, by rw [HT.out]; exact HO'.out, HB'.out, by omega⟩, by simp only [intOf]; omega⟩
        ·have HX3 := hide (show Tb.symsS (l.take (i + 1)) = (o1 ++ (word.take j).map fun c => ((lg : Int), c), lg) by
          rw [HX2.out, HO1E.out, List.append_assoc]
          have e : word.take j = word.take (23 - out.length) := by
           by_cases hw2 : j < wl
           ·rw [show 23 - out.length = j by omega]
           ·rw [List.take_of_length_le (by have := HWL.out; omega), List.take_of_length_le (by have := HWL.out; omega)]
          rw [e]
          rfl)
         have HOW := hide hown
         have HBW := hide hbel
         clear hown hbel HSX HX2
         have hx3 := HX3.out
         generalize hol2 : (o1 ++ (word.take j).map fun c => ((lg : Int), c)).length = ol at *
         have HOL := hide hol2
         by_cases hjw : j < wl
         ·have hj3 : (j : Int) < (wl : Int) := by omega
          have hnf : ¬ ((ol : Int) < 24) := by omega
          clear hol2 hx3 hlen hgo
          go_wp2
          have hx3 := HX3.out
          have hil2 := HLT.out
          refine ⟨⟨i + 1, _, by omega, by go_num, rfl, by rw [hx3], by rw [hx3, HOL.out]; exact HOW.out, HBW.out⟩, by simp only [intOf]; omega⟩
         ·have hj3 : ¬ ((j : Int) < (wl : Int)) := by omega
          clear hol2 hx3 hlen hgo
          go_wp2
          have hx3 := HX3.out
          have hil2 := HLT.out
          refine ⟨⟨i + 1, _, by omega, by go_num, rfl, by rw [hx3], by rw [hx3, HOL.out]; exact HOW.out, HBW.out⟩, by simp only [intOf]; omega⟩
      ·have hqb : ((n : Int) / 12 == 18) = false := by
        have : ¬ (n : Int) / 12 = 18 := by omega
        simp [this]
       have HX3 := hide (show Tb.symsS (l.take (i + 1)) = (out ++ [((lg : Int), Tb.symC n)], lg) by rw [HX2.out, HSP.out hq])
       clear HX2 HSP HC7
       go_wp2
       have hx3 := HX3.out
       refine ⟨⟨i + 1, _, HLT.out, by go_num, rfl, by rw [hx3], by rw [hx3]; exact HO2.out, HB2.out⟩, by have := HLT.out; simp [intOf]; omega⟩
   ·have hnf : ¬ ((out.length : Int) < 24) := by omega
    have HF := hide (show Tb.symsS l = (out, lang) from HFULL.out hfull)
    obtain ⟨A', c', hv, hc, ht⟩ := text_of_own HOWN.out (by omega)
    have HT := hide ht
    have HC := hide hc
    injection hv with hv1 hv2 hv3
    subst hv1 hv3
    clear hc ht HX HFULL HOWN
    go_wp2
    go_ret
    rw [show Tb.symsT l = out by unfold Tb.symsT; rw [HF.out]]
    exact ⟨_, _, rfl, HC.out, HT.out, HB.out⟩
  ·obtain rfl : i = m := by omega
   have hnt : ¬ ((i : Int) < (i : Int)) := by omega
   have el : l.take i = l := List.take_of_length_le (by have := HM.out; omega)
   rw [el] at hown hc3 ⊢
   obtain ⟨A', c', hv, hc, ht⟩ := text_of_own hown (by have := (Tb.symsT_good l).1; omega)
   have HT := hide ht
   have HC := hide hc
   have HB := hide hbel
   injection hv with hv1 hv2 hv3
   subst hv1 hv3
   clear hlt hown hbel ht hc
   generalize hn : (Tb.symsT l).length = n at *
   generalize (Tb.symsS l).2 = lang at *
   go_wp2
   go_ret
   exact ⟨_, _, rfl, HC.out, HT.out, HB.out⟩
def TablesC (n : Int) : Prop := ∀ W : World, Calls Tryd.prog 5 #[.int .i64 n] W fun e w' => ∃ v t, e = .returned v ∧ TabAt w' w'.heap.size v t ∧ Tb.eT t = Tb.tablesT n ∧ Below W.heap.size W w'
def LivesC : Prop := ∀ W : World, Calls Tryd.prog 20 #[] W fun e w' => e = .returned (.bool true) ∧ Below W.heap.size W w'
theorem tablesT_r0 (n : Int) : (Tb.tablesT n).r0 = Tb.once (Tb.rawR n 0) := by unfold Tb.tablesT; simp only []
theorem tablesT_r1 (n : Int) : (Tb.tablesT n).r1 = Tb.once (Tb.rawR n 1) := by unfold Tb.tablesT; simp only []
def ExampleC : Prop := ∀ W : World, Calls Tryd.prog 46 #[] W fun e w' => ∃ v t, e = .returned v ∧ TabAt w' w'.heap.size v t ∧ Tb.eT t = Tb.exT ∧ Below W.heap.size W w'
def ks4 (TV ZV : Value) : List (World → Value → Prop) := [gIs (TV), gIs (ZV), gTxt (Tb.sp0 [65, 110]), gStp [(1, [60, 1]), (2, [60, 30]), (2, [60, 31])], gRow 3 [.int .i64 1, .int .i64 2, .int .i64 2], gRow 5 [.int .u8 60, .int .u8 1], gRow 5 [.int .u8 60, .int .u8 30], gRow 5 [.int .u8 60, .int .u8 31], gCls [[60, 1], [60, 30], [60, 31]], gIs (.bool true), gIs (.bool true), gIs (TV), gIs (ZV), gTxt (Tb.sp0 [98, 97, 110]), gStp [(1, [1]), (2, [30])], gRow 3 [.int .i64 1, .int .i64 2], gRow 5 [.int .u8 1], gRow 5 [.int .u8 30], gCls [[1], [30]], gIs (.bool true), gIs (.bool true)]
theorem ks4_stab (TV ZV : Value) : StabL (ks4 TV ZV) := stabL_cons (stab_is _) (stabL_cons (stab_is _) (stabL_cons (stab_txt _) (stabL_cons (stab_stp _) (stabL_cons (stab_row _ _) (stabL_cons (stab_row _ _) (stabL_cons (stab_row _ _) (stabL_cons (stab_row _ _) (stabL_cons (stab_cls _) (stabL_cons (stab_is _) (stabL_cons (stab_is _) (stabL_cons (stab_is _) (stabL_cons (stab_is _) (stabL_cons (stab_txt _) (stabL_cons (stab_stp _) (stabL_cons (stab_row _ _) (stabL_cons (stab_row _ _) (stabL_cons (stab_row _ _) (stabL_cons (stab_cls _) (stabL_cons (stab_is _) (stabL_cons (stab_is _) (stabL_nil)))))))))))))))))))))
def ks5 (TV ZV : Value) : List (World → Value → Prop) := [gIs (TV), gIs (ZV), gTxt (Tb.sp0 [98, 97, 110]), gStp [(1, [14]), (1, [32])], gRow 3 [.int .i64 1, .int .i64 1], gRow 5 [.int .u8 14], gRow 5 [.int .u8 32], gCls [[14], [32]], gIs (.bool true), gIs (.bool true), gIs (TV), gIs (ZV), gTxt (Tb.sp0 [55, 46]), gStp [(1, [61, 48])], gRow 3 [.int .i64 1], gRow 5 [.int .u8 61, .int .u8 48], gCls [[61, 48]], gIs (.bool true), gIs (.bool true)]
theorem ks5_stab (TV ZV : Value) : StabL (ks5 TV ZV) := stabL_cons (stab_is _) (stabL_cons (stab_is _) (stabL_cons (stab_txt _) (stabL_cons (stab_stp _) (stabL_cons (stab_row _ _) (stabL_cons (stab_row _ _) (stabL_cons (stab_row _ _) (stabL_cons (stab_cls _) (stabL_cons (stab_is _) (stabL_cons (stab_is _) (stabL_cons (stab_is _) (stabL_cons (stab_is _) (stabL_cons (stab_txt _) (stabL_cons (stab_stp _) (stabL_cons (stab_row _ _) (stabL_cons (stab_row _ _) (stabL_cons (stab_cls _) (stabL_cons (stab_is _) (stabL_cons (stab_is _) (stabL_nil)))))))))))))))))))
def ks6 (TV YV : Value) : List (World → Value → Prop) := [gIs (TV), gIs (YV), gTxt (Tb.sp0 [55, 97]), gStp [(1, [62, 1])], gRow 3 [.int .i64 1], gRow 5 [.int .u8 62, .int .u8 1], gCls [[62, 1]], gIs (.bool true), gIs (.bool true), gIs (TV), gIs (YV), gTxt (Tb.sp0 [55, 46]), gStp [(1, [33])], gRow 3 [.int .i64 1], gRow 5 [.int .u8 33], gCls [[33]], gIs (.bool true), gIs (.bool true)]
theorem ks6_stab (TV YV : Value) : StabL (ks6 TV YV) := stabL_cons (stab_is _) (stabL_cons (stab_is _) (stabL_cons (stab_txt _) (stabL_cons (stab_stp _) (stabL_cons (stab_row _ _) (stabL_cons (stab_row _ _) (stabL_cons (stab_cls _) (stabL_cons (stab_is _) (stabL_cons (stab_is _) (stabL_cons (stab_is _) (stabL_cons (stab_is _) (stabL_cons (stab_txt _) (stabL_cons (stab_stp _) (stabL_cons (stab_row _ _) (stabL_cons (stab_row _ _) (stabL_cons (stab_cls _) (stabL_cons (stab_is _) (stabL_cons (stab_is _) (stabL_nil))))))))))))))))))
set_option maxHeartbeats 8000000 in
set_option maxRecDepth 100000 in
theorem lives_any (hE : ExampleC) : LivesC := by
 intro w
 have CE := hide (hE w)
 clear hE
 go_enter Tryd.func20, Tryd.ntmps20
 go_upto_region 2 with (go_at_call 46; refine (unhide CE).mono ?_; rintro e w1 ⟨v, t, rfl, hta, hte, hb1⟩; have HTA := hide hta; have HTE := hide hte; have B1 := hide hb1; obtain ⟨A0, A1, c0, c1, rfl, hta'⟩ := hta; clear hta' hb1 hte)
 refine name_world fun V hV => ?_
 have VT := hide (show Blk V w1.heap.size 29 #[.slice A0 t.r0.length c0, .slice A1 t.r1.length c1, .slice t.dig.ad t.dig.l.length t.dig.c, .slice t.cap.ad t.cap.l.length t.cap.c, .slice t.num.ad t.num.l.length t.num.c, .slice t.fin.ad t.fin.l.length t.fin.c, .slice t.sw.ad t.sw.l.length t.sw.c] by rw [← hV.out]; exact Blk.new w1 _ _)
 have HVV := hide (show Below w1.heap.size w1 V by rw [← hV.out]; exact below_alloc w1 _)
 have hvs : V.heap.size = w1.heap.size + 1 := by rw [← hV.out]; simp
 clear hV
 go_upto_region 4 with fail
 refine name_world fun B hB => ?_
 have B4 := hide (show Below B.heap.size B B from Below.refl _ _)
 have HV1 := hide (show Below w1.heap.size w1 B by rw [← hB.out]; exact HVV.out.trans ((below_alloc' V _ (by omega)).trans (below_alloc' _ _ (by simp; omega))))
 have BT := hide (show Blk B w1.heap.size 29 #[.slice A0 t.r0.length c0, .slice A1 t.r1.length c1, .slice t.dig.ad t.dig.l.length t.dig.c, .slice t.cap.ad t.cap.l.length t.cap.c, .slice t.num.ad t.num.l.length t.num.c, .slice t.fin.ad t.fin.l.length t.fin.c, .slice t.sw.ad t.sw.l.length t.sw.c] by rw [← hB.out]; exact (VT.out.alloc _).alloc _)
 have BZ := hide (show Blk B V.heap.size 54 #[.int .i64 0, .bool false, .bool false] by rw [← hB.out]; exact (Blk.new V _ _).alloc _)
 have BY := hide (show Blk B (V.heap.size + 1) 54 #[.int .i64 0, .bool true, .bool false] by rw [← hB.out]; exact Blk.new2 V _ _ _)
 clear hB VT HVV
 rw [hvs] at BZ BY
 clear hvs
 obtain ⟨gy, hgy⟩ : ∃ gy, gy = w1.heap.size + 1 + 1 := ⟨_, rfl⟩
 rw [← hgy] at BY ⊢
 obtain ⟨gz, hgz⟩ : ∃ gz, gz = w1.heap.size + 1 := ⟨_, rfl⟩
 rw [← hgz] at BZ ⊢
 obtain ⟨gt, hgt⟩ : ∃ gt, gt = w1.heap.size := ⟨_, rfl⟩
 rw [← hgt] at BT ⊢
 clear hgz hgy hgt
 generalize t.r0.length = n0 at *
 obtain ⟨TV, hTV⟩ : ∃ TV : Value, TV = .agg #[.slice A0 n0 c0, .slice A1 t.r1.length c1, .slice t.dig.ad t.dig.l.length t.dig.c, .slice t.cap.ad t.cap.l.length t.cap.c, .slice t.num.ad t.num.l.length t.num.c, .slice t.fin.ad t.fin.l.length t.fin.c, .slice t.sw.ad t.sw.l.length t.sw.c] := ⟨_, rfl⟩
 have HTV := hide hTV.symm
 rw [← hTV] at HTA
 clear hTV
 generalize t.r1.length = n1 at *
 generalize t.dig.l.length = n2 at *
 generalize t.cap.l.length = n3 at *
 generalize t.num.l.length = n4 at *
 generalize t.fin.l.length = n5 at *
 generalize t.sw.l.length = n6 at *
 obtain ⟨ZV, hZV⟩ : ∃ ZV : Value, ZV = .agg #[.int .i64 0, .bool false, .bool false] := ⟨_, rfl⟩
 obtain ⟨YV, hYV⟩ : ∃ YV : Value, YV = .agg #[.int .i64 0, .bool true, .bool false] := ⟨_, rfl⟩
 have HZV := hide hZV.symm
 have HYV := hide hYV.symm
 have HZS := hide (show ZV = stV Tb.zeroS from hZV)
 have HYS := hide (show YV = stV Tb.numS from hYV)
 clear hZV hYV
 have HTC := hide (fun (W : World) (hb : Below B.heap.size B W) => (show W.cell? ⟨gt, 0, none⟩ = some (.slice A0 n0 c0) ∧ W.cell? ⟨gt, 1, none⟩ = some (.slice A1 n1 c1) ∧ W.cell? ⟨gt, 2, none⟩ = some (.slice t.dig.ad n2 t.dig.c) ∧ W.cell? ⟨gt, 3, none⟩ = some (.slice t.cap.ad n3 t.cap.c) ∧ W.cell? ⟨gt, 4, none⟩ = some (.slice t.num.ad n4 t.num.c) ∧ W.cell? ⟨gt, 5, none⟩ = some (.slice t.fin.ad n5 t.fin.c) ∧ W.cell? ⟨gt, 6, none⟩ = some (.slice t.sw.ad n6 t.sw.c) from by
  have Q := BT.out.below hb BT.out.lt
  exact ⟨Q.cell 0, Q.cell 1, Q.cell 2, Q.cell 3, Q.cell 4, Q.cell 5, Q.cell 6⟩))
 have HZC := hide (fun (W : World) (hb : Below B.heap.size B W) => (show W.cell? ⟨gz, 0, none⟩ = some (.int .i64 0) ∧ W.cell? ⟨gz, 1, none⟩ = some (.bool false) ∧ W.cell? ⟨gz, 2, none⟩ = some (.bool false) from by
  have Q := BZ.out.below hb BZ.out.lt
  exact ⟨Q.cell 0, Q.cell 1, Q.cell 2⟩))
 have HYC := hide (fun (W : World) (hb : Below B.heap.size B W) => (show W.cell? ⟨gy, 0, none⟩ = some (.int .i64 0) ∧ W.cell? ⟨gy, 1, none⟩ = some (.bool true) ∧ W.cell? ⟨gy, 2, none⟩ = some (.bool false) from by
  have Q := BY.out.below hb BY.out.lt
  exact ⟨Q.cell 0, Q.cell 1, Q.cell 2⟩))
 have HVA := hide (show Tb.valid t = 0 by rw [← Tb.valid_eT t, HTE.out]; exact Tb.ex_valid)
 refine wp_region_three 0 21 [some 10, some 11, some 12, some 13, some 14, some 15, some 16, some 17, some 18, some 19, some 20, some 21, some 22, some 23, some 24, some 25, some 26, some 27, some 28, some 29, some 30] (gAll (ks4 TV ZV))
  (fun _ W => Below B.heap.size B W) (by decide) (by kernel_rfl) (by kernel_rfl) (by kernel_rfl) (by rfl) (by decide) (by rfl) (B4.out.drew) ?_ ?_ ?_
 ·intro j hj hjm b A x W hC hd hr
  have stay : ∀ W', Below W.heap.size W W' → Below B.heap.size B W' := fun W' hb => hC.trans (hb.mono hC.size)
  have KSS := ks4_stab TV ZV
  have hj' : j = 1 ∨ j = 2 ∨ j = 3 ∨ j = 4 ∨ j = 5 ∨ j = 6 ∨ j = 7 ∨ j = 8 ∨ j = 9 ∨ j = 10 ∨ j = 11 ∨ j = 12 ∨ j = 13 ∨ j = 14 ∨ j = 15 ∨ j = 16 ∨ j = 17 ∨ j = 18 ∨ j = 19 ∨ j = 20 := by omega
  rcases hj' with rfl | rfl | rfl | rfl | rfl | rfl | rfl | rfl | rfl | rfl | rfl | rfl | rfl | rfl | rfl | rfl | rfl | rfl | rfl | rfl
  ·have e2 : A.tmps[2]?.getD undef = .pointer (some ⟨gz, 0, none⟩) := hr 2 (by decide)
   refine wpOp_step rfl (fun K' hK => ?_)
   obtain ⟨z0, z1, z2⟩ := HZC.out W hC
   go_simp
   exact hK _ _ ⟨_, rfl, HZV.out, fun _ _ _ h => h, hC⟩
  ·refine wpOp_step rfl (fun K' hK => ?_)
   go_simp
   go_at_call 48
   refine (text_lit _ [65, 110] rfl W (by decide)).mono ?_
   rintro e W' ⟨v, rfl, hv, hb⟩
   exact hK _ _ ⟨_, rfl, hv, fun k' _ u h => gAll_below KSS hb k' u h, stay _ hb⟩
  ·have d0 : A.tmps[10]?.getD undef = TV := fI hd 0 10
   have d1 : A.tmps[11]?.getD undef = ZV := fI hd 1 11
   have d2 : A.tmps[12]?.getD undef = x 2 := (hd 2 (by decide)).1 12 rfl
   have r2 : gTxt (Tb.sp0 [65, 110]) W (x 2) := (hd 2 (by decide)).2
   refine wpOp_step rfl (fun K' hK => ?_)
   go_simp
   go_at_call 19
   refine (steps_ok TV t w1 W HTA.out (HV1.out.trans (hC.mono HV1.out.size)) HTE.out Tb.zeroS _ HZS.out _ (x 2) r2 _ [(1, [60, 1]), (2, [60, 30]), (2, [60, 31])] Tb.ex_One).mono ?_
   rintro e W' ⟨v, rfl, hv, hb⟩
   exact hK _ _ ⟨_, rfl, hv, fun k' _ u h => gAll_below KSS hb k' u h, stay _ hb⟩
  ·refine wpOp_step rfl (fun K' hK => ?_)
   go_simp
   exact hK _ _ ⟨_, rfl, ⟨W.heap.size, rfl, Blk.new W _ _⟩, fun k' _ u h => gAll_below KSS (below_alloc W _) k' u h, stay _ (below_alloc W _)⟩
  ·refine wpOp_step rfl (fun K' hK => ?_)
   go_simp
   exact hK _ _ ⟨_, rfl, ⟨W.heap.size, rfl, Blk.new W _ _⟩, fun k' _ u h => gAll_below KSS (below_alloc W _) k' u h, stay _ (below_alloc W _)⟩
  ·refine wpOp_step rfl (fun K' hK => ?_)
   go_simp
   exact hK _ _ ⟨_, rfl, ⟨W.heap.size, rfl, Blk.new W _ _⟩, fun k' _ u h => gAll_below KSS (below_alloc W _) k' u h, stay _ (below_alloc W _)⟩
  ·refine wpOp_step rfl (fun K' hK => ?_)
   go_simp
   exact hK _ _ ⟨_, rfl, ⟨W.heap.size, rfl, Blk.new W _ _⟩, fun k' _ u h => gAll_below KSS (below_alloc W _) k' u h, stay _ (below_alloc W _)⟩
  ·obtain ⟨g5, hx5, hb5⟩ : gRow 5 [.int .u8 60, .int .u8 1] W (x 5) := (hd 5 (by decide)).2
   have d5 : A.tmps[15]?.getD undef = .slice (some ⟨g5, 0, none⟩) 2 2 := ((hd 5 (by decide)).1 15 rfl).trans hx5
   obtain ⟨g6, hx6, hb6⟩ : gRow 5 [.int .u8 60, .int .u8 30] W (x 6) := (hd 6 (by decide)).2
   have d6 : A.tmps[16]?.getD undef = .slice (some ⟨g6, 0, none⟩) 2 2 := ((hd 6 (by decide)).1 16 rfl).trans hx6
   obtain ⟨g7, hx7, hb7⟩ : gRow 5 [.int .u8 60, .int .u8 31] W (x 7) := (hd 7 (by decide)).2
   have d7 : A.tmps[17]?.getD undef = .slice (some ⟨g7, 0, none⟩) 2 2 := ((hd 7 (by decide)).1 17 rfl).trans hx7
   refine wpOp_step rfl (fun K' hK => ?_)
   go_simp
   exact hK _ _ ⟨_, rfl, ⟨_, [⟨[60, 1], some ⟨g5, 0, none⟩, 2⟩, ⟨[60, 30], some ⟨g6, 0, none⟩, 2⟩, ⟨[60, 31], some ⟨g7, 0, none⟩, 2⟩], rfl, cls_new W [⟨[60, 1], some ⟨g5, 0, none⟩, 2⟩, ⟨[60, 30], some ⟨g6, 0, none⟩, 2⟩, ⟨[60, 31], some ⟨g7, 0, none⟩, 2⟩] (by
    intro b hb
    simp only [List.mem_cons, List.not_mem_nil, or_false] at hb
    rcases hb with rfl | rfl | rfl
    ·exact bs_row W g5 [60, 1] hb5 (by decide)
    ·exact bs_row W g6 [60, 30] hb6 (by decide)
    ·exact bs_row W g7 [60, 31] hb7 (by decide)), rfl⟩, fun k' _ u h => gAll_below KSS (below_alloc W _) k' u h, stay _ (below_alloc W _)⟩
  ·have d3 : A.tmps[13]?.getD undef = x 3 := (hd 3 (by decide)).1 13 rfl
   have r3 : gStp [(1, [60, 1]), (2, [60, 30]), (2, [60, 31])] W (x 3) := (hd 3 (by decide)).2
   have d4 : A.tmps[14]?.getD undef = x 4 := (hd 4 (by decide)).1 14 rfl
   have r4 : gRow 3 [.int .i64 1, .int .i64 2, .int .i64 2] W (x 4) := (hd 4 (by decide)).2
   have d8 : A.tmps[18]?.getD undef = x 8 := (hd 8 (by decide)).1 18 rfl
   have r8 : gCls [[60, 1], [60, 30], [60, 31]] W (x 8) := (hd 8 (by decide)).2
   refine wpOp_step rfl (fun K' hK => ?_)
   go_simp
   go_at_call 47
   refine (are_ok [(1, [60, 1]), (2, [60, 30]), (2, [60, 31])] (x 3) (x 4) (x 8) W r3 r4 r8).mono ?_
   rintro e W' ⟨rfl, hb⟩
   exact hK _ _ ⟨_, rfl, rfl, fun k' _ u h => gAll_below KSS hb k' u h, stay _ hb⟩
  ·have d9 : A.tmps[19]?.getD undef = .bool true := fI hd 9 19
   refine wpOp_step rfl (fun K' hK => ?_)
   go_simp
   exact hK _ _ ⟨_, rfl, rfl, fun _ _ _ h => h, hC⟩
  ·have e1 : A.tmps[1]?.getD undef = .pointer (some ⟨gt, 0, none⟩) := hr 1 (by decide)
   have d10 : A.tmps[20]?.getD undef = .bool true := fI hd 10 20
   refine wpOp_step rfl (fun K' hK => ?_)
   rw [if_pos (wanted_of 10 20 true rfl rfl d10)]
   obtain ⟨t0, t1, t2, t3, t4, t5, t6⟩ := HTC.out W hC
   go_simp
   exact hK _ _ ⟨_, rfl, HTV.out, fun _ _ _ h => h, hC⟩
  ·have e2 : A.tmps[2]?.getD undef = .pointer (some ⟨gz, 0, none⟩) := hr 2 (by decide)
   have d10 : A.tmps[20]?.getD undef = .bool true := fI hd 10 20
   refine wpOp_step rfl (fun K' hK => ?_)
   rw [if_pos (wanted_of 10 20 true rfl rfl d10)]
   obtain ⟨z0, z1, z2⟩ := HZC.out W hC
   go_simp
   exact hK _ _ ⟨_, rfl, HZV.out, fun _ _ _ h => h, hC⟩
  ·have d10 : A.tmps[20]?.getD undef = .bool true := fI hd 10 20
   refine wpOp_step rfl (fun K' hK => ?_)
   rw [if_pos (wanted_of 10 20 true rfl rfl d10)]
   go_simp
   go_at_call 48
   refine (text_lit _ [98, 97, 110] rfl W (by decide)).mono ?_
   rintro e W' ⟨v, rfl, hv, hb⟩
   exact hK _ _ ⟨_, rfl, hv, fun k' _ u h => gAll_below KSS hb k' u h, stay _ hb⟩
  ·have d11 : A.tmps[21]?.getD undef = TV := fI hd 11 21
   have d12 : A.tmps[22]?.getD undef = ZV := fI hd 12 22
   have d13 : A.tmps[23]?.getD undef = x 13 := (hd 13 (by decide)).1 23 rfl
   have r13 : gTxt (Tb.sp0 [98, 97, 110]) W (x 13) := (hd 13 (by decide)).2
   have d10 : A.tmps[20]?.getD undef = .bool true := fI hd 10 20
   refine wpOp_step rfl (fun K' hK => ?_)
   rw [if_pos (wanted_of 10 20 true rfl rfl d10)]
   go_simp
   go_at_call 19
   refine (steps_ok TV t w1 W HTA.out (HV1.out.trans (hC.mono HV1.out.size)) HTE.out Tb.zeroS _ HZS.out _ (x 13) r13 _ [(1, [1]), (2, [30])] Tb.ex_Ban1).mono ?_
   rintro e W' ⟨v, rfl, hv, hb⟩
   exact hK _ _ ⟨_, rfl, hv, fun k' _ u h => gAll_below KSS hb k' u h, stay _ hb⟩
  ·have d10 : A.tmps[20]?.getD undef = .bool true := fI hd 10 20
   refine wpOp_step rfl (fun K' hK => ?_)
   rw [if_pos (wanted_of 10 20 true rfl rfl d10)]
   go_simp
   exact hK _ _ ⟨_, rfl, ⟨W.heap.size, rfl, Blk.new W _ _⟩, fun k' _ u h => gAll_below KSS (below_alloc W _) k' u h, stay _ (below_alloc W _)⟩
  ·have d10 : A.tmps[20]?.getD undef = .bool true := fI hd 10 20
   refine wpOp_step rfl (fun K' hK => ?_)
   rw [if_pos (wanted_of 10 20 true rfl rfl d10)]
   go_simp
   exact hK _ _ ⟨_, rfl, ⟨W.heap.size, rfl, Blk.new W _ _⟩, fun k' _ u h => gAll_below KSS (below_alloc W _) k' u h, stay _ (below_alloc W _)⟩
  ·have d10 : A.tmps[20]?.getD undef = .bool true := fI hd 10 20
   refine wpOp_step rfl (fun K' hK => ?_)
   rw [if_pos (wanted_of 10 20 true rfl rfl d10)]
   go_simp
   exact hK _ _ ⟨_, rfl, ⟨W.heap.size, rfl, Blk.new W _ _⟩, fun k' _ u h => gAll_below KSS (below_alloc W _) k' u h, stay _ (below_alloc W _)⟩
  ·obtain ⟨g16, hx16, hb16⟩ : gRow 5 [.int .u8 1] W (x 16) := (hd 16 (by decide)).2
   have d16 : A.tmps[26]?.getD undef = .slice (some ⟨g16, 0, none⟩) 1 1 := ((hd 16 (by decide)).1 26 rfl).trans hx16
   obtain ⟨g17, hx17, hb17⟩ : gRow 5 [.int .u8 30] W (x 17) := (hd 17 (by decide)).2
   have d17 : A.tmps[27]?.getD undef = .slice (some ⟨g17, 0, none⟩) 1 1 := ((hd 17 (by decide)).1 27 rfl).trans hx17
   have d10 : A.tmps[20]?.getD undef = .bool true := fI hd 10 20
   refine wpOp_step rfl (fun K' hK => ?_)
   rw [if_pos (wanted_of 10 20 true rfl rfl d10)]
   go_simp
   exact hK _ _ ⟨_, rfl, ⟨_, [⟨[1], some ⟨g16, 0, none⟩, 1⟩, ⟨[30], some ⟨g17, 0, none⟩, 1⟩], rfl, cls_new W [⟨[1], some ⟨g16, 0, none⟩, 1⟩, ⟨[30], some ⟨g17, 0, none⟩, 1⟩] (by
    intro b hb
    simp only [List.mem_cons, List.not_mem_nil, or_false] at hb
    rcases hb with rfl | rfl
    ·exact bs_row W g16 [1] hb16 (by decide)
    ·exact bs_row W g17 [30] hb17 (by decide)), rfl⟩, fun k' _ u h => gAll_below KSS (below_alloc W _) k' u h, stay _ (below_alloc W _)⟩
  ·have d14 : A.tmps[24]?.getD undef = x 14 := (hd 14 (by decide)).1 24 rfl
   have r14 : gStp [(1, [1]), (2, [30])] W (x 14) := (hd 14 (by decide)).2
   have d15 : A.tmps[25]?.getD undef = x 15 := (hd 15 (by decide)).1 25 rfl
   have r15 : gRow 3 [.int .i64 1, .int .i64 2] W (x 15) := (hd 15 (by decide)).2
   have d18 : A.tmps[28]?.getD undef = x 18 := (hd 18 (by decide)).1 28 rfl
   have r18 : gCls [[1], [30]] W (x 18) := (hd 18 (by decide)).2
   have d10 : A.tmps[20]?.getD undef = .bool true := fI hd 10 20
   refine wpOp_step rfl (fun K' hK => ?_)
   rw [if_pos (wanted_of 10 20 true rfl rfl d10)]
   go_simp
   go_at_call 47
   refine (are_ok [(1, [1]), (2, [30])] (x 14) (x 15) (x 18) W r14 r15 r18).mono ?_
   rintro e W' ⟨rfl, hb⟩
   exact hK _ _ ⟨_, rfl, rfl, fun k' _ u h => gAll_below KSS hb k' u h, stay _ hb⟩
  ·have d10 : A.tmps[20]?.getD undef = .bool true := fI hd 10 20
   have d19 : A.tmps[29]?.getD undef = .bool true := fI hd 19 29
   refine wpOp_step rfl (fun K' hK => ?_)
   go_simp
   exact hK _ _ ⟨_, rfl, rfl, fun _ _ _ h => h, hC⟩
 ·intro A x W hC hd hr
  have stay : ∀ W', Below W.heap.size W W' → Below B.heap.size B W' := fun W' hb => hC.trans (hb.mono hC.size)
  have KSS := ks4_stab TV ZV
  have e1 : A.tmps[1]?.getD undef = .pointer (some ⟨gt, 0, none⟩) := hr 1 (by decide)
  refine wpOp_step rfl (fun K' hK => ?_)
  obtain ⟨t0, t1, t2, t3, t4, t5, t6⟩ := HTC.out W hC
  go_simp
  exact hK _ _ ⟨_, rfl, HTV.out, fun _ _ _ h => h, hC⟩
 ·intro x W hC hR
  have hxp : x 20 = .bool true := hR 20 (by decide)
  refine wpOp_step rfl (fun K' hK => ?_)
  simp only [putL, Act.put, Nat.zero_add, Nat.reduceAdd, List.setIfInBounds_toArray, List.set_cons_succ, List.set_cons_zero]
  rw [hxp]
  generalize x 0 = y4_0
  generalize x 1 = y4_1
  generalize x 2 = y4_2
  generalize x 3 = y4_3
  generalize x 4 = y4_4
  generalize x 5 = y4_5
  generalize x 6 = y4_6
  generalize x 7 = y4_7
  generalize x 8 = y4_8
  generalize x 9 = y4_9
  generalize x 10 = y4_10
  generalize x 11 = y4_11
  generalize x 12 = y4_12
  generalize x 13 = y4_13
  generalize x 14 = y4_14
  generalize x 15 = y4_15
  generalize x 16 = y4_16
  generalize x 17 = y4_17
  generalize x 18 = y4_18
  generalize x 19 = y4_19
  go_simp
  refine hK _ _ ?_
  clear hK K' hxp hR
  have HB4 := hide hC
  clear hC
  go_upto_region 5 with fail
  refine wp_region_three 0 19 [some 31, some 32, some 33, some 34, some 35, some 36, some 37, some 38, some 39, some 40, some 41, some 42, some 43, some 44, some 45, some 46, some 47, some 48, some 49] (gAll (ks5 TV ZV))
   (fun _ W => Below B.heap.size B W) (by decide) (by kernel_rfl) (by kernel_rfl) (by kernel_rfl) (by rfl) (by decide) (by rfl) (HB4.out.drew) ?_ ?_ ?_
  ·intro j hj hjm b A x W hC hd hr
   have stay : ∀ W', Below W.heap.size W W' → Below B.heap.size B W' := fun W' hb => hC.trans (hb.mono hC.size)
   have KSS := ks5_stab TV ZV
   have hj' : j = 1 ∨ j = 2 ∨ j = 3 ∨ j = 4 ∨ j = 5 ∨ j = 6 ∨ j = 7 ∨ j = 8 ∨ j = 9 ∨ j = 10 ∨ j = 11 ∨ j = 12 ∨ j = 13 ∨ j = 14 ∨ j = 15 ∨ j = 16 ∨ j = 17 ∨ j = 18 := by omega
   rcases hj' with rfl | rfl | rfl | rfl | rfl | rfl | rfl | rfl | rfl | rfl | rfl | rfl | rfl | rfl | rfl | rfl | rfl | rfl
   ·have e2 : A.tmps[2]?.getD undef = .pointer (some ⟨gz, 0, none⟩) := hr 2 (by decide)
    refine wpOp_step rfl (fun K' hK => ?_)
    obtain ⟨z0, z1, z2⟩ := HZC.out W hC
    go_simp
    exact hK _ _ ⟨_, rfl, HZV.out, fun _ _ _ h => h, hC⟩
   ·refine wpOp_step rfl (fun K' hK => ?_)
    go_simp
    go_at_call 48
    refine (text_lit _ [98, 97, 110] rfl W (by decide)).mono ?_
    rintro e W' ⟨v, rfl, hv, hb⟩
    exact hK _ _ ⟨_, rfl, hv, fun k' _ u h => gAll_below KSS hb k' u h, stay _ hb⟩
   ·have d0 : A.tmps[31]?.getD undef = TV := fI hd 0 31
    have d1 : A.tmps[32]?.getD undef = ZV := fI hd 1 32
    have d2 : A.tmps[33]?.getD undef = x 2 := (hd 2 (by decide)).1 33 rfl
    have r2 : gTxt (Tb.sp0 [98, 97, 110]) W (x 2) := (hd 2 (by decide)).2
    refine wpOp_step rfl (fun K' hK => ?_)
    go_simp
    go_at_call 19
    refine (steps_ok TV t w1 W HTA.out (HV1.out.trans (hC.mono HV1.out.size)) HTE.out Tb.zeroS _ HZS.out _ (x 2) r2 _ [(1, [14]), (1, [32])] Tb.ex_Ban2).mono ?_
    rintro e W' ⟨v, rfl, hv, hb⟩
    exact hK _ _ ⟨_, rfl, hv, fun k' _ u h => gAll_below KSS hb k' u h, stay _ hb⟩
   ·refine wpOp_step rfl (fun K' hK => ?_)
    go_simp
    exact hK _ _ ⟨_, rfl, ⟨W.heap.size, rfl, Blk.new W _ _⟩, fun k' _ u h => gAll_below KSS (below_alloc W _) k' u h, stay _ (below_alloc W _)⟩
   ·refine wpOp_step rfl (fun K' hK => ?_)
    go_simp
    exact hK _ _ ⟨_, rfl, ⟨W.heap.size, rfl, Blk.new W _ _⟩, fun k' _ u h => gAll_below KSS (below_alloc W _) k' u h, stay _ (below_alloc W _)⟩
   ·refine wpOp_step rfl (fun K' hK => ?_)
    go_simp
    exact hK _ _ ⟨_, rfl, ⟨W.heap.size, rfl, Blk.new W _ _⟩, fun k' _ u h => gAll_below KSS (below_alloc W _) k' u h, stay _ (below_alloc W _)⟩
   ·obtain ⟨g5, hx5, hb5⟩ : gRow 5 [.int .u8 14] W (x 5) := (hd 5 (by decide)).2
    have d5 : A.tmps[36]?.getD undef = .slice (some ⟨g5, 0, none⟩) 1 1 := ((hd 5 (by decide)).1 36 rfl).trans hx5
    obtain ⟨g6, hx6, hb6⟩ : gRow 5 [.int .u8 32] W (x 6) := (hd 6 (by decide)).2
    have d6 : A.tmps[37]?.getD undef = .slice (some ⟨g6, 0, none⟩) 1 1 := ((hd 6 (by decide)).1 37 rfl).trans hx6
    refine wpOp_step rfl (fun K' hK => ?_)
    go_simp
    exact hK _ _ ⟨_, rfl, ⟨_, [⟨[14], some ⟨g5, 0, none⟩, 1⟩, ⟨[32], some ⟨g6, 0, none⟩, 1⟩], rfl, cls_new W [⟨[14], some ⟨g5, 0, none⟩, 1⟩, ⟨[32], some ⟨g6, 0, none⟩, 1⟩] (by
     intro b hb
     simp only [List.mem_cons, List.not_mem_nil, or_false] at hb
     rcases hb with rfl | rfl
     ·exact bs_row W g5 [14] hb5 (by decide)
     ·exact bs_row W g6 [32] hb6 (by decide)), rfl⟩, fun k' _ u h => gAll_below KSS (below_alloc W _) k' u h, stay _ (below_alloc W _)⟩
   ·have d3 : A.tmps[34]?.getD undef = x 3 := (hd 3 (by decide)).1 34 rfl
    have r3 : gStp [(1, [14]), (1, [32])] W (x 3) := (hd 3 (by decide)).2
    have d4 : A.tmps[35]?.getD undef = x 4 := (hd 4 (by decide)).1 35 rfl
    have r4 : gRow 3 [.int .i64 1, .int .i64 1] W (x 4) := (hd 4 (by decide)).2
    have d7 : A.tmps[38]?.getD undef = x 7 := (hd 7 (by decide)).1 38 rfl
    have r7 : gCls [[14], [32]] W (x 7) := (hd 7 (by decide)).2
    refine wpOp_step rfl (fun K' hK => ?_)
    go_simp
    go_at_call 47
    refine (are_ok [(1, [14]), (1, [32])] (x 3) (x 4) (x 7) W r3 r4 r7).mono ?_
    rintro e W' ⟨rfl, hb⟩
    exact hK _ _ ⟨_, rfl, rfl, fun k' _ u h => gAll_below KSS hb k' u h, stay _ hb⟩
   ·have d8 : A.tmps[39]?.getD undef = .bool true := fI hd 8 39
    refine wpOp_step rfl (fun K' hK => ?_)
    go_simp
    exact hK _ _ ⟨_, rfl, rfl, fun _ _ _ h => h, hC⟩
   ·have e1 : A.tmps[1]?.getD undef = .pointer (some ⟨gt, 0, none⟩) := hr 1 (by decide)
    have d9 : A.tmps[40]?.getD undef = .bool true := fI hd 9 40
    refine wpOp_step rfl (fun K' hK => ?_)
    rw [if_pos (wanted_of 9 40 true rfl rfl d9)]
    obtain ⟨t0, t1, t2, t3, t4, t5, t6⟩ := HTC.out W hC
    go_simp
    exact hK _ _ ⟨_, rfl, HTV.out, fun _ _ _ h => h, hC⟩
   ·have e2 : A.tmps[2]?.getD undef = .pointer (some ⟨gz, 0, none⟩) := hr 2 (by decide)
    have d9 : A.tmps[40]?.getD undef = .bool true := fI hd 9 40
    refine wpOp_step rfl (fun K' hK => ?_)
    rw [if_pos (wanted_of 9 40 true rfl rfl d9)]
    obtain ⟨z0, z1, z2⟩ := HZC.out W hC
    go_simp
    exact hK _ _ ⟨_, rfl, HZV.out, fun _ _ _ h => h, hC⟩
   ·have d9 : A.tmps[40]?.getD undef = .bool true := fI hd 9 40
    refine wpOp_step rfl (fun K' hK => ?_)
    rw [if_pos (wanted_of 9 40 true rfl rfl d9)]
    go_simp
    go_at_call 48
    refine (text_lit _ [55, 46] rfl W (by decide)).mono ?_
    rintro e W' ⟨v, rfl, hv, hb⟩
    exact hK _ _ ⟨_, rfl, hv, fun k' _ u h => gAll_below KSS hb k' u h, stay _ hb⟩
   ·have d10 : A.tmps[41]?.getD undef = TV := fI hd 10 41
    have d11 : A.tmps[42]?.getD undef = ZV := fI hd 11 42
    have d12 : A.tmps[43]?.getD undef = x 12 := (hd 12 (by decide)).1 43 rfl
    have r12 : gTxt (Tb.sp0 [55, 46]) W (x 12) := (hd 12 (by decide)).2
    have d9 : A.tmps[40]?.getD undef = .bool true := fI hd 9 40
    refine wpOp_step rfl (fun K' hK => ?_)
    rw [if_pos (wanted_of 9 40 true rfl rfl d9)]
    go_simp
    go_at_call 19
    refine (steps_ok TV t w1 W HTA.out (HV1.out.trans (hC.mono HV1.out.size)) HTE.out Tb.zeroS _ HZS.out _ (x 12) r12 _ [(1, [61, 48])] Tb.ex_Seven).mono ?_
    rintro e W' ⟨v, rfl, hv, hb⟩
    exact hK _ _ ⟨_, rfl, hv, fun k' _ u h => gAll_below KSS hb k' u h, stay _ hb⟩
   ·have d9 : A.tmps[40]?.getD undef = .bool true := fI hd 9 40
    refine wpOp_step rfl (fun K' hK => ?_)
    rw [if_pos (wanted_of 9 40 true rfl rfl d9)]
    go_simp
    exact hK _ _ ⟨_, rfl, ⟨W.heap.size, rfl, Blk.new W _ _⟩, fun k' _ u h => gAll_below KSS (below_alloc W _) k' u h, stay _ (below_alloc W _)⟩
   ·have d9 : A.tmps[40]?.getD undef = .bool true := fI hd 9 40
    refine wpOp_step rfl (fun K' hK => ?_)
    rw [if_pos (wanted_of 9 40 true rfl rfl d9)]
    go_simp
    exact hK _ _ ⟨_, rfl, ⟨W.heap.size, rfl, Blk.new W _ _⟩, fun k' _ u h => gAll_below KSS (below_alloc W _) k' u h, stay _ (below_alloc W _)⟩
   ·obtain ⟨g15, hx15, hb15⟩ : gRow 5 [.int .u8 61, .int .u8 48] W (x 15) := (hd 15 (by decide)).2
    have d15 : A.tmps[46]?.getD undef = .slice (some ⟨g15, 0, none⟩) 2 2 := ((hd 15 (by decide)).1 46 rfl).trans hx15
    have d9 : A.tmps[40]?.getD undef = .bool true := fI hd 9 40
    refine wpOp_step rfl (fun K' hK => ?_)
    rw [if_pos (wanted_of 9 40 true rfl rfl d9)]
    go_simp
    exact hK _ _ ⟨_, rfl, ⟨_, [⟨[61, 48], some ⟨g15, 0, none⟩, 2⟩], rfl, cls_new W [⟨[61, 48], some ⟨g15, 0, none⟩, 2⟩] (by
     intro b hb
     simp only [List.mem_cons, List.not_mem_nil, or_false] at hb
     rcases hb with rfl
     ·exact bs_row W g15 [61, 48] hb15 (by decide)), rfl⟩, fun k' _ u h => gAll_below KSS (below_alloc W _) k' u h, stay _ (below_alloc W _)⟩
   ·have d13 : A.tmps[44]?.getD undef = x 13 := (hd 13 (by decide)).1 44 rfl
    have r13 : gStp [(1, [61, 48])] W (x 13) := (hd 13 (by decide)).2
    have d14 : A.tmps[45]?.getD undef = x 14 := (hd 14 (by decide)).1 45 rfl
    have r14 : gRow 3 [.int .i64 1] W (x 14) := (hd 14 (by decide)).2
    have d16 : A.tmps[47]?.getD undef = x 16 := (hd 16 (by decide)).1 47 rfl
    have r16 : gCls [[61, 48]] W (x 16) := (hd 16 (by decide)).2
    have d9 : A.tmps[40]?.getD undef = .bool true := fI hd 9 40
    refine wpOp_step rfl (fun K' hK => ?_)
    rw [if_pos (wanted_of 9 40 true rfl rfl d9)]
    go_simp
    go_at_call 47
    refine (are_ok [(1, [61, 48])] (x 13) (x 14) (x 16) W r13 r14 r16).mono ?_
    rintro e W' ⟨rfl, hb⟩
    exact hK _ _ ⟨_, rfl, rfl, fun k' _ u h => gAll_below KSS hb k' u h, stay _ hb⟩
   ·have d9 : A.tmps[40]?.getD undef = .bool true := fI hd 9 40
    have d17 : A.tmps[48]?.getD undef = .bool true := fI hd 17 48
    refine wpOp_step rfl (fun K' hK => ?_)
    go_simp
    exact hK _ _ ⟨_, rfl, rfl, fun _ _ _ h => h, hC⟩
  ·intro A x W hC hd hr
   have stay : ∀ W', Below W.heap.size W W' → Below B.heap.size B W' := fun W' hb => hC.trans (hb.mono hC.size)
   have KSS := ks5_stab TV ZV
   have e1 : A.tmps[1]?.getD undef = .pointer (some ⟨gt, 0, none⟩) := hr 1 (by decide)
   refine wpOp_step rfl (fun K' hK => ?_)
   obtain ⟨t0, t1, t2, t3, t4, t5, t6⟩ := HTC.out W hC
   go_simp
   exact hK _ _ ⟨_, rfl, HTV.out, fun _ _ _ h => h, hC⟩
  ·intro x W hC hR
   have hxp : x 18 = .bool true := hR 18 (by decide)
   refine wpOp_step rfl (fun K' hK => ?_)
   simp only [putL, Act.put, Nat.zero_add, Nat.reduceAdd, List.setIfInBounds_toArray, List.set_cons_succ, List.set_cons_zero]
   rw [hxp]
   generalize x 0 = y5_0
   generalize x 1 = y5_1
   generalize x 2 = y5_2
   generalize x 3 = y5_3
   generalize x 4 = y5_4
   generalize x 5 = y5_5
   generalize x 6 = y5_6
   generalize x 7 = y5_7
   generalize x 8 = y5_8
   generalize x 9 = y5_9
   generalize x 10 = y5_10
   generalize x 11 = y5_11
   generalize x 12 = y5_12
   generalize x 13 = y5_13
   generalize x 14 = y5_14
   generalize x 15 = y5_15
   generalize x 16 = y5_16
   generalize x 17 = y5_17
   go_simp
   refine hK _ _ ?_
   clear hK K' hxp hR
   have HB5 := hide hC
   clear hC
   go_upto_region 6 with fail
   refine wp_region_three 0 18 [some 50, some 51, some 52, some 53, some 54, some 55, some 56, some 57, some 58, some 59, some 60, some 61, some 62, some 63, some 64, some 65, some 66, some 67] (gAll (ks6 TV YV))
    (fun _ W => Below B.heap.size B W) (by decide) (by kernel_rfl) (by kernel_rfl) (by kernel_rfl) (by rfl) (by decide) (by rfl) (HB5.out.drew) ?_ ?_ ?_
   ·intro j hj hjm b A x W hC hd hr
    have stay : ∀ W', Below W.heap.size W W' → Below B.heap.size B W' := fun W' hb => hC.trans (hb.mono hC.size)
    have KSS := ks6_stab TV YV
    have hj' : j = 1 ∨ j = 2 ∨ j = 3 ∨ j = 4 ∨ j = 5 ∨ j = 6 ∨ j = 7 ∨ j = 8 ∨ j = 9 ∨ j = 10 ∨ j = 11 ∨ j = 12 ∨ j = 13 ∨ j = 14 ∨ j = 15 ∨ j = 16 ∨ j = 17 := by omega
    rcases hj' with rfl | rfl | rfl | rfl | rfl | rfl | rfl | rfl | rfl | rfl | rfl | rfl | rfl | rfl | rfl | rfl | rfl
    ·have e3 : A.tmps[3]?.getD undef = .pointer (some ⟨gy, 0, none⟩) := hr 3 (by decide)
     refine wpOp_step rfl (fun K' hK => ?_)
     obtain ⟨z0, z1, z2⟩ := HYC.out W hC
     go_simp
     exact hK _ _ ⟨_, rfl, HYV.out, fun _ _ _ h => h, hC⟩
    ·refine wpOp_step rfl (fun K' hK => ?_)
     go_simp
     go_at_call 48
     refine (text_lit _ [55, 97] rfl W (by decide)).mono ?_
     rintro e W' ⟨v, rfl, hv, hb⟩
     exact hK _ _ ⟨_, rfl, hv, fun k' _ u h => gAll_below KSS hb k' u h, stay _ hb⟩
    ·have d0 : A.tmps[50]?.getD undef = TV := fI hd 0 50
     have d1 : A.tmps[51]?.getD undef = YV := fI hd 1 51
     have d2 : A.tmps[52]?.getD undef = x 2 := (hd 2 (by decide)).1 52 rfl
     have r2 : gTxt (Tb.sp0 [55, 97]) W (x 2) := (hd 2 (by decide)).2
     refine wpOp_step rfl (fun K' hK => ?_)
     go_simp
     go_at_call 19
     refine (steps_ok TV t w1 W HTA.out (HV1.out.trans (hC.mono HV1.out.size)) HTE.out Tb.numS _ HYS.out _ (x 2) r2 _ [(1, [62, 1])] Tb.ex_SevenA).mono ?_
     rintro e W' ⟨v, rfl, hv, hb⟩
     exact hK _ _ ⟨_, rfl, hv, fun k' _ u h => gAll_below KSS hb k' u h, stay _ hb⟩
    ·refine wpOp_step rfl (fun K' hK => ?_)
     go_simp
     exact hK _ _ ⟨_, rfl, ⟨W.heap.size, rfl, Blk.new W _ _⟩, fun k' _ u h => gAll_below KSS (below_alloc W _) k' u h, stay _ (below_alloc W _)⟩
    ·refine wpOp_step rfl (fun K' hK => ?_)
     go_simp
     exact hK _ _ ⟨_, rfl, ⟨W.heap.size, rfl, Blk.new W _ _⟩, fun k' _ u h => gAll_below KSS (below_alloc W _) k' u h, stay _ (below_alloc W _)⟩
    ·obtain ⟨g5, hx5, hb5⟩ : gRow 5 [.int .u8 62, .int .u8 1] W (x 5) := (hd 5 (by decide)).2
     have d5 : A.tmps[55]?.getD undef = .slice (some ⟨g5, 0, none⟩) 2 2 := ((hd 5 (by decide)).1 55 rfl).trans hx5
     refine wpOp_step rfl (fun K' hK => ?_)
     go_simp
     exact hK _ _ ⟨_, rfl, ⟨_, [⟨[62, 1], some ⟨g5, 0, none⟩, 2⟩], rfl, cls_new W [⟨[62, 1], some ⟨g5, 0, none⟩, 2⟩] (by
      intro b hb
      simp only [List.mem_cons, List.not_mem_nil, or_false] at hb
      rcases hb with rfl
      ·exact bs_row W g5 [62, 1] hb5 (by decide)), rfl⟩, fun k' _ u h => gAll_below KSS (below_alloc W _) k' u h, stay _ (below_alloc W _)⟩
    ·have d3 : A.tmps[53]?.getD undef = x 3 := (hd 3 (by decide)).1 53 rfl
     have r3 : gStp [(1, [62, 1])] W (x 3) := (hd 3 (by decide)).2
     have d4 : A.tmps[54]?.getD undef = x 4 := (hd 4 (by decide)).1 54 rfl
     have r4 : gRow 3 [.int .i64 1] W (x 4) := (hd 4 (by decide)).2
     have d6 : A.tmps[56]?.getD undef = x 6 := (hd 6 (by decide)).1 56 rfl
     have r6 : gCls [[62, 1]] W (x 6) := (hd 6 (by decide)).2
     refine wpOp_step rfl (fun K' hK => ?_)
     go_simp
     go_at_call 47
     refine (are_ok [(1, [62, 1])] (x 3) (x 4) (x 6) W r3 r4 r6).mono ?_
     rintro e W' ⟨rfl, hb⟩
     exact hK _ _ ⟨_, rfl, rfl, fun k' _ u h => gAll_below KSS hb k' u h, stay _ hb⟩
    ·have d7 : A.tmps[57]?.getD undef = .bool true := fI hd 7 57
     refine wpOp_step rfl (fun K' hK => ?_)
     go_simp
     exact hK _ _ ⟨_, rfl, rfl, fun _ _ _ h => h, hC⟩
    ·have e1 : A.tmps[1]?.getD undef = .pointer (some ⟨gt, 0, none⟩) := hr 1 (by decide)
     have d8 : A.tmps[58]?.getD undef = .bool true := fI hd 8 58
     refine wpOp_step rfl (fun K' hK => ?_)
     rw [if_pos (wanted_of 8 58 true rfl rfl d8)]
     obtain ⟨t0, t1, t2, t3, t4, t5, t6⟩ := HTC.out W hC
     go_simp
     exact hK _ _ ⟨_, rfl, HTV.out, fun _ _ _ h => h, hC⟩
    ·have e3 : A.tmps[3]?.getD undef = .pointer (some ⟨gy, 0, none⟩) := hr 3 (by decide)
     have d8 : A.tmps[58]?.getD undef = .bool true := fI hd 8 58
     refine wpOp_step rfl (fun K' hK => ?_)
     rw [if_pos (wanted_of 8 58 true rfl rfl d8)]
     obtain ⟨z0, z1, z2⟩ := HYC.out W hC
     go_simp
     exact hK _ _ ⟨_, rfl, HYV.out, fun _ _ _ h => h, hC⟩
    ·have d8 : A.tmps[58]?.getD undef = .bool true := fI hd 8 58
     refine wpOp_step rfl (fun K' hK => ?_)
     rw [if_pos (wanted_of 8 58 true rfl rfl d8)]
     go_simp
     go_at_call 48
     refine (text_lit _ [55, 46] rfl W (by decide)).mono ?_
     rintro e W' ⟨v, rfl, hv, hb⟩
     exact hK _ _ ⟨_, rfl, hv, fun k' _ u h => gAll_below KSS hb k' u h, stay _ hb⟩
    ·have d9 : A.tmps[59]?.getD undef = TV := fI hd 9 59
     have d10 : A.tmps[60]?.getD undef = YV := fI hd 10 60
     have d11 : A.tmps[61]?.getD undef = x 11 := (hd 11 (by decide)).1 61 rfl
     have r11 : gTxt (Tb.sp0 [55, 46]) W (x 11) := (hd 11 (by decide)).2
     have d8 : A.tmps[58]?.getD undef = .bool true := fI hd 8 58
     refine wpOp_step rfl (fun K' hK => ?_)
     rw [if_pos (wanted_of 8 58 true rfl rfl d8)]
     go_simp
     go_at_call 19
     refine (steps_ok TV t w1 W HTA.out (HV1.out.trans (hC.mono HV1.out.size)) HTE.out Tb.numS _ HYS.out _ (x 11) r11 _ [(1, [33])] Tb.ex_SevenDot).mono ?_
     rintro e W' ⟨v, rfl, hv, hb⟩
     exact hK _ _ ⟨_, rfl, hv, fun k' _ u h => gAll_below KSS hb k' u h, stay _ hb⟩
    ·have d8 : A.tmps[58]?.getD undef = .bool true := fI hd 8 58
     refine wpOp_step rfl (fun K' hK => ?_)
     rw [if_pos (wanted_of 8 58 true rfl rfl d8)]
     go_simp
     exact hK _ _ ⟨_, rfl, ⟨W.heap.size, rfl, Blk.new W _ _⟩, fun k' _ u h => gAll_below KSS (below_alloc W _) k' u h, stay _ (below_alloc W _)⟩
    ·have d8 : A.tmps[58]?.getD undef = .bool true := fI hd 8 58
     refine wpOp_step rfl (fun K' hK => ?_)
     rw [if_pos (wanted_of 8 58 true rfl rfl d8)]
     go_simp
     exact hK _ _ ⟨_, rfl, ⟨W.heap.size, rfl, Blk.new W _ _⟩, fun k' _ u h => gAll_below KSS (below_alloc W _) k' u h, stay _ (below_alloc W _)⟩
    ·obtain ⟨g14, hx14, hb14⟩ : gRow 5 [.int .u8 33] W (x 14) := (hd 14 (by decide)).2
     have d14 : A.tmps[64]?.getD undef = .slice (some ⟨g14, 0, none⟩) 1 1 := ((hd 14 (by decide)).1 64 rfl).trans hx14
     have d8 : A.tmps[58]?.getD undef = .bool true := fI hd 8 58
     refine wpOp_step rfl (fun K' hK => ?_)
     rw [if_pos (wanted_of 8 58 true rfl rfl d8)]
     go_simp
     exact hK _ _ ⟨_, rfl, ⟨_, [⟨[33], some ⟨g14, 0, none⟩, 1⟩], rfl, cls_new W [⟨[33], some ⟨g14, 0, none⟩, 1⟩] (by
      intro b hb
      simp only [List.mem_cons, List.not_mem_nil, or_false] at hb
      rcases hb with rfl
      ·exact bs_row W g14 [33] hb14 (by decide)), rfl⟩, fun k' _ u h => gAll_below KSS (below_alloc W _) k' u h, stay _ (below_alloc W _)⟩
    ·have d12 : A.tmps[62]?.getD undef = x 12 := (hd 12 (by decide)).1 62 rfl
     have r12 : gStp [(1, [33])] W (x 12) := (hd 12 (by decide)).2
     have d13 : A.tmps[63]?.getD undef = x 13 := (hd 13 (by decide)).1 63 rfl
     have r13 : gRow 3 [.int .i64 1] W (x 13) := (hd 13 (by decide)).2
     have d15 : A.tmps[65]?.getD undef = x 15 := (hd 15 (by decide)).1 65 rfl
     have r15 : gCls [[33]] W (x 15) := (hd 15 (by decide)).2
     have d8 : A.tmps[58]?.getD undef = .bool true := fI hd 8 58
     refine wpOp_step rfl (fun K' hK => ?_)
     rw [if_pos (wanted_of 8 58 true rfl rfl d8)]
     go_simp
     go_at_call 47
     refine (are_ok [(1, [33])] (x 12) (x 13) (x 15) W r12 r13 r15).mono ?_
     rintro e W' ⟨rfl, hb⟩
     exact hK _ _ ⟨_, rfl, rfl, fun k' _ u h => gAll_below KSS hb k' u h, stay _ hb⟩
    ·have d8 : A.tmps[58]?.getD undef = .bool true := fI hd 8 58
     have d16 : A.tmps[66]?.getD undef = .bool true := fI hd 16 66
     refine wpOp_step rfl (fun K' hK => ?_)
     go_simp
     exact hK _ _ ⟨_, rfl, rfl, fun _ _ _ h => h, hC⟩
   ·intro A x W hC hd hr
    have stay : ∀ W', Below W.heap.size W W' → Below B.heap.size B W' := fun W' hb => hC.trans (hb.mono hC.size)
    have KSS := ks6_stab TV YV
    have e1 : A.tmps[1]?.getD undef = .pointer (some ⟨gt, 0, none⟩) := hr 1 (by decide)
    refine wpOp_step rfl (fun K' hK => ?_)
    obtain ⟨t0, t1, t2, t3, t4, t5, t6⟩ := HTC.out W hC
    go_simp
    exact hK _ _ ⟨_, rfl, HTV.out, fun _ _ _ h => h, hC⟩
   ·intro x W hC hR
    have hxp : x 17 = .bool true := hR 17 (by decide)
    refine wpOp_step rfl (fun K' hK => ?_)
    simp only [putL, Act.put, Nat.zero_add, Nat.reduceAdd, List.setIfInBounds_toArray, List.set_cons_succ, List.set_cons_zero]
    rw [hxp]
    generalize x 0 = y6_0
    generalize x 1 = y6_1
    generalize x 2 = y6_2
    generalize x 3 = y6_3
    generalize x 4 = y6_4
    generalize x 5 = y6_5
    generalize x 6 = y6_6
    generalize x 7 = y6_7
    generalize x 8 = y6_8
    generalize x 9 = y6_9
    generalize x 10 = y6_10
    generalize x 11 = y6_11
    generalize x 12 = y6_12
    generalize x 13 = y6_13
    generalize x 14 = y6_14
    generalize x 15 = y6_15
    generalize x 16 = y6_16
    go_simp
    refine hK _ _ ?_
    clear hK K' hxp hR
    have HB6 := hide hC
    clear hC
    have hTV := HTV.out
    have hZV := HZV.out
    clear HTV HZV
    subst hTV
    subst hZV
    obtain ⟨t0, t1, t2, t3, t4, t5, t6⟩ := HTC.out W HB6.out
    have CV := hide (show Calls Tryd.prog 41 #[.agg #[.slice A0 n0 c0, .slice A1 n1 c1, .slice t.dig.ad n2 t.dig.c, .slice t.cap.ad n3 t.cap.c, .slice t.num.ad n4 t.num.c, .slice t.fin.ad n5 t.fin.c, .slice t.sw.ad n6 t.sw.c]] W fun e w' => e = .returned (.int .i64 0) ∧ Below W.heap.size W w' by
     have h := valid_any _ t W ((HTA.out.below (HV1.out.trans (HB6.out.mono HV1.out.size))).more (Nat.le_trans HV1.out.size HB6.out.size))
     rw [HVA.out] at h
     exact h)
    have h00 : ((0 : Int) == 0) = true := rfl
    go_wp2_with (first
     | (go_at_call 41; refine (unhide CV).mono ?_; rintro e w2 ⟨rfl, hb2⟩; have B2 := hide (HB6.out.trans (hb2.mono HB6.out.size)); clear hb2 t0 t1 t2 t3 t4 t5 t6; obtain ⟨t0, t1, t2, t3, t4, t5, t6⟩ := HTC.out w2 B2.out; obtain ⟨z0, z1, z2⟩ := HZC.out w2 B2.out; have B3 := hide (show Below B.heap.size B (w2.alloc (.cells #[.int .i64 1, .int .u8 97] 83)) from B2.out.trans (below_alloc' w2 _ B2.out.size)); have T3 := hide (show gTxt [(1, 97)] (w2.alloc (.cells #[.int .i64 1, .int .u8 97] 83)) (.slice (some ⟨w2.heap.size, 0, none⟩) 1 1) from txt_one w2 (1, 97)))
     | (go_at_call 19; refine (steps_ok _ t w1 _ HTA.out (HV1.out.trans (B3.out.mono HV1.out.size)) HTE.out Tb.zeroS _ HZS.out [(1, 97)] _ T3.out _ [(0, [63])] Tb.ex_Switch).mono ?_; rintro e w4 ⟨v4, rfl, hst, hb4⟩; have B4 := hide (B3.out.trans (hb4.mono B3.out.size)); have CA := hide (are_last v4 w4 hst); clear hb4 hst)
     | (go_at_call 47; refine (unhide CA).mono ?_; rintro e w5 ⟨rfl, hb5⟩; have B5 := hide (B4.out.trans (hb5.mono B4.out.size)); clear hb5))
    go_ret
    exact ⟨rfl, B1.out.trans ((HV1.out.trans (B5.out.mono HV1.out.size)).mono B1.out.size)⟩
end Go.Proofs.YtjnnohghgkjhcaaDoor
