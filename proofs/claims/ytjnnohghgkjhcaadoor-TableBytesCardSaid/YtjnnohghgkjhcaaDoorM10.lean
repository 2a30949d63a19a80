/-
  Tables: rows of rules of the call's own whose cells may be empty; parts of tables apart from two blocks.
-/
import Derived.Test.YtjnnohghgkjhcaaDoorM9
import Derived.StillTailTactics
import Derived.Deep.CutBlock
namespace Go.Proofs.YtjnnohghgkjhcaaDoor
open Go.RowKit
set_option linter.unusedVariables false
set_option linter.unusedSimpArgs false
def RuleY (w : World) (v : Value) (r : Tb.Rl) : Prop := BsAt w w.heap.size r.cells ∧ r.text.length ≤ 1048576 ∧ Wr.inI r.wh ∧ (0 < r.cells.l.length → ∀ a, r.cells.ad = some a → some a.block ≠ v.ownBlock)
def OwnY (w : World) (b : Nat) (v : Value) (rs : List Tb.Rl) : Prop := w.ownsRow b 45 3 v rs.length (RC rs) ∧ ∀ r ∈ rs, RuleY w v r
theorem OwnY.nil (w : World) (b : Nat) : OwnY w b (.slice none 0 0) [] := ⟨own_nil _ _ _ _, fun r hr => by cases hr⟩
theorem BsAt.grownY {w w' : World} {b : Tb.Bs} {row : Option Nat} (h : BsAt w w.heap.size b) (hg : w.grownBy w' row) (hr : 0 < b.l.length → ∀ a, b.ad = some a → some a.block ≠ row) : BsAt w' w'.heap.size b := by
  by_cases hl : 0 < b.l.length
  · exact h.grown hg (hr hl)
  · exact ⟨⟨h.1.1, fun hn => absurd hn hl⟩, h.2⟩
theorem RuleY.below {w w' : World} {v : Value} {r : Tb.Rl} (h : RuleY w v r) (hb : Below w.heap.size w w') : RuleY w' v r := ⟨h.1.same hb, h.2⟩
theorem OwnY.below {w w' : World} {b : Nat} {v : Value} {rs : List Tb.Rl} (h : OwnY w b v rs) (hb : Below w.heap.size w w') : OwnY w' b v rs := ⟨own_below h.1 hb, fun r hr => (h.2 r hr).below hb⟩
theorem OwnY.app {W : World} {b : Nat} {v : Value} {rs : List Tb.Rl} (ho : OwnY W b v rs) (ys : List Tb.Rl) (A : Option Addr) (c : Nat) (hr : Reads W W.heap.size 3 A ys.length (RC ys)) (hy : ∀ y ∈ ys, RuleY W v y) (hb : b ≤ W.heap.size) (hl : rs.length ≤ 100000) (hl2 : ys.length ≤ 100000) (ty : TypeId) :
    ∃ v' W', (Builtin.append_ #[24, 24] ty #[v, .slice A ys.length c]).run Tryd.prog W = .ok v' W' ∧ OwnY W' b v' (rs ++ ys) ∧ W.grownBy W' v.ownBlock ∧ (v'.ownBlock = v.ownBlock ∨ v'.ownBlock = some W.heap.size) := by
  obtain ⟨j0, hj, hy0, hy1, hy2⟩ := info_parts ruleInfo3'
  obtain ⟨v', w', hrun, hown', hgrow', hat'⟩ := run_append_any (P := Tryd.prog) W b 24 ty 45 j0 (.agg #[.string { data := #[] }, .int .i64 0, .slice none 0 0]) 3 48 Tryd.underlying24 hj hy0 hy1 hy2 rfl (by omega)
    v rs.length (RC rs) ho.1 W.heap.size A ys.length c (RC ys) hr (fun u hu => RC_one ys u hu) (by unfold maxLen; omega) (by omega) hb
  refine ⟨v', w', hrun, ⟨?_, fun r hm => ?_⟩, hgrow', hat'⟩
  · rw [RC_append, List.length_append]
    exact hown'
  · have hq : RuleY W v r := by
      rcases List.mem_append.1 hm with hm | hm
      · exact ho.2 r hm
      · exact hy r hm
    refine ⟨hq.1.grownY hgrow' hq.2.2.2, hq.2.1, hq.2.2.1, fun hn a ha => ?_⟩
    rcases hat' with h1 | h1
    · rw [h1]; exact hq.2.2.2 hn a ha
    · rw [h1]
      obtain ⟨ad, e, hbl, _⟩ := hq.1.1.2 hn
      rw [ha] at e
      injection e with e
      subst e
      intro hc
      injection hc with hc
      omega
theorem OwnY.pre {W : World} {b : Nat} {A : Option Addr} {c : Nat} {rs : List Tb.Rl} (ho : OwnY W b (.slice A rs.length c) rs) (k : Nat) (hk : k ≤ rs.length) (hA : A ≠ none) : OwnY W b (.slice A k c) (rs.take k) := by
  have hkl : (rs.take k).length = k := by rw [List.length_take]; omega
  refine ⟨?_, fun r hr => by
    have h := ho.2 r (List.mem_of_mem_take hr)
    refine ⟨h.1, h.2.1, h.2.2.1, fun hn a ha => ?_⟩
    have h2 := h.2.2.2 hn a ha
    cases A <;> exact h2⟩
  rw [hkl]
  refine ⟨by rw [RC_len, hkl], ?_⟩
  rcases ho.1.2 with ⟨h0, _⟩ | ⟨g, cap, cur, hv, h2, h3, h4, h5, h6, h7⟩
  · injection h0 with h0
    exact absurd h0 hA
  · injection hv with hv1 hv2 hv3
    subst hv1
    subst hv3
    refine .inr ⟨g, c, cur, rfl, h2, h3, by omega, h5, h6, ?_⟩
    have e : (RC rs).take (k * 3) = RC (rs.take k) := by
      clear ho hkl h7 h6 h5 h4 h3 h2 hA hv2
      induction k generalizing rs with
      | zero => simp [RC]
      | succ k ih =>
        cases rs with
        | nil => simp at hk
        | cons r rs =>
          show (ruC r ++ RC rs).take ((k + 1) * 3) = ruC r ++ RC (rs.take k)
          rw [show (k + 1) * 3 = (ruC r).length + k * 3 by show _ = 3 + k * 3; omega, List.take_length_add_append, ih (by simpa using hk)]
    rw [← e, ← h7, List.take_take]
    congr 1
    omega
theorem RC_drop (rs : List Tb.Rl) (a : Nat) : (RC rs).drop (a * 3) = RC (rs.drop a) := by
  induction a generalizing rs with
  | zero => simp
  | succ a ih =>
    cases rs with
    | nil => simp [RC]
    | cons x l =>
      rw [List.drop_succ_cons, ← ih]
      show (ruC x ++ RC l).drop ((a + 1) * 3) = _
      rw [show (a + 1) * 3 = 3 + a * 3 by omega, ← List.drop_drop]
      rfl
theorem reads_rest3 {w : World} {B : Nat} {td : Addr} {rs : List Tb.Rl} (h : Reads w B 3 (some td) rs.length (RC rs)) (a : Nat) (ha : a ≤ rs.length) : Reads w B 3 (some (td.add (a * 3))) (rs.length - a) (RC (rs.drop a)) := by
  refine ⟨by rw [RC_len, List.length_drop], fun hn => ?_⟩
  obtain ⟨ad, e, hbl, hc⟩ := h.2 (by omega)
  injection e with e
  subst e
  refine ⟨_, rfl, by rw [block_of_add]; exact hbl, fun j u hu => ?_⟩
  rw [add_of_add]
  refine hc _ _ ?_
  rw [← RC_drop, List.getElem?_drop] at hu
  exact hu
def BsZ (w : World) (g h : Nat) (m : Value) (n : Nat) : Prop := ∃ A c l, m = .slice A n c ∧ l.length = n ∧ BsAt w w.heap.size ⟨l, A, c⟩ ∧ (0 < n → ∀ a, A = some a → a.block ≠ g ∧ a.block ≠ h)
theorem BsZ.grown {w w' : World} {g h n : Nat} {m : Value} {row : Option Nat} (hz : BsZ w g h m n) (hg : w.grownBy w' row) (hr : row = some g ∨ row = some h ∨ row = none) : BsZ w' g h m n := by
  obtain ⟨A, c, l, h1, h2, h3, h4⟩ := hz
  refine ⟨A, c, l, h1, h2, h3.grownY hg (fun hn a ha hc => ?_), h4⟩
  have hq := h4 (by rw [← h2]; exact hn) a ha
  rcases hr with e | e | e <;> rw [e] at hc
  · injection hc with hc; exact hq.1 hc
  · injection hc with hc; exact hq.2 hc
  · cases hc
def LangZ (w : World) (g h M : Nat) (m : Value) : Prop := ∃ A c rs, m = .slice A rs.length c ∧ rs.length ≤ c ∧ rs.length ≤ M ∧ RulesAt w w.heap.size A rs ∧ (0 < rs.length → ∀ a, A = some a → a.block ≠ g ∧ a.block ≠ h) ∧
  ∀ r ∈ rs, 0 < r.cells.l.length → ∀ a, r.cells.ad = some a → a.block ≠ g ∧ a.block ≠ h
theorem Reads.grownZ {w w' : World} {size n : Nat} {A : Option Addr} {xs : List Value} {row : Option Nat} (h : Reads w w.heap.size size A n xs) (hg : w.grownBy w' row) (ho : 0 < n → ∀ a, A = some a → some a.block ≠ row) : Reads w' w'.heap.size size A n xs :=
  ⟨h.1, fun hn => by
    obtain ⟨ad, e, hb, hc⟩ := h.2 hn
    refine ⟨ad, e, Nat.lt_of_lt_of_le hb hg.size, fun j u hu => ?_⟩
    rw [World.cell?_of_block (hg.block (ad.add j).block (by rw [block_of_add]; exact hb) (by
      rw [block_of_add]
      exact ho hn ad e))]
    exact hc j u hu⟩
theorem LangZ.grown {w w' : World} {g h M : Nat} {m : Value} {row : Option Nat} (hz : LangZ w g h M m) (hg : w.grownBy w' row) (hr : row = some g ∨ row = some h ∨ row = none) : LangZ w' g h M m := by
  obtain ⟨A, c, rs, h1, h2, h3, h4, h5, h6⟩ := hz
  have far : ∀ a : Addr, a.block ≠ g ∧ a.block ≠ h → some a.block ≠ row := fun a hq hc => by
    rcases hr with e | e | e <;> rw [e] at hc
    · injection hc with hc; exact hq.1 hc
    · injection hc with hc; exact hq.2 hc
    · cases hc
  exact ⟨A, c, rs, h1, h2, h3, ⟨h4.1.grownZ hg (fun hn a ha => far a (h5 hn a ha)), fun r hm => ⟨(h4.2.1 r hm).1.grownY hg (fun hn a ha => far a (h6 r hm hn a ha)), (h4.2.1 r hm).2⟩, h4.2.2⟩, h5, h6⟩
theorem tab_Z {w : World} {g h M nd nc nn nf ns : Nat} {m0 m1 d c n f s : Value} (h0 : LangZ w g h M m0) (h1 : LangZ w g h M m1) (hd : BsZ w g h d nd) (hc : BsZ w g h c nc) (hn : BsZ w g h n nn) (hf : BsZ w g h f nf) (hs : BsZ w g h s ns) (hnd : 1 ≤ nd ∧ nd ≤ 100) :
    gTab M w (.agg #[m0, m1, d, c, n, f, s]) := by
  obtain ⟨A0, c0, rs0, rfl, k0, l0, r0, _, _⟩ := h0
  obtain ⟨A1, c1, rs1, rfl, k1, l1, r1, _, _⟩ := h1
  obtain ⟨Ad, cd, ld, rfl, ed, bd, _⟩ := hd
  obtain ⟨Ac, cc, lc, rfl, ec, bc, _⟩ := hc
  obtain ⟨An, cn, ln, rfl, en, bn, _⟩ := hn
  obtain ⟨Af, cf, lf, rfl, ef, bf, _⟩ := hf
  obtain ⟨As, cs, ls, rfl, es, bs, _⟩ := hs
  subst ed ec en ef es
  exact ⟨⟨rs0, rs1, ⟨ld, Ad, cd⟩, ⟨lc, Ac, cc⟩, ⟨ln, An, cn⟩, ⟨lf, Af, cf⟩, ⟨ls, As, cs⟩⟩, ⟨A0, A1, c0, c1, rfl, r0, r1, k0, k1, bd, bc, bn, bf, bs⟩, l0, l1, hnd⟩
theorem OwnY.langZ {w : World} {b g h M : Nat} {v : Value} {rs : List Tb.Rl} (ho : OwnY w b v rs) (hg : g < b) (hh : h < b) (hM : rs.length ≤ M) (hM2 : M ≤ 100000) (hc : ∀ r ∈ rs, 0 < r.cells.l.length → ∀ a, r.cells.ad = some a → a.block ≠ g ∧ a.block ≠ h) : LangZ w g h M v := by
  obtain ⟨A, c, rfl, hnc, _⟩ := own_slice ho.1
  refine ⟨A, c, rs, rfl, hnc, hM, ⟨Reads.of_own ho.1, fun r hr => ⟨(ho.2 r hr).1, (ho.2 r hr).2.1, (ho.2 r hr).2.2.1⟩, by omega⟩, fun hn a ha => ?_, hc⟩
  subst ha
  have := (ho.1.lt a.block rfl).1
  omega
def setRl (r : Tb.Rl) (f : Nat) (u : Value) (r' : Tb.Rl) : Prop := (ruC r).set f u = ruC r'
theorem RC_set (rs : List Tb.Rl) (i f : Nat) (u : Value) (r' : Tb.Rl) (hi : i < rs.length) (hf : f < 3) (h : setRl (rs[i]'hi) f u r') : (RC rs).set (i * 3 + f) u = RC (rs.set i r') := by
  induction rs generalizing i with
  | nil => simp at hi
  | cons r rs ih =>
    cases i with
    | zero =>
      show (ruC r ++ RC rs).set (0 * 3 + f) u = ruC r' ++ RC rs
      rw [List.set_append_left _ _ (by show 0 * 3 + f < 3; omega), show 0 * 3 + f = f by omega]
      congr 1
    | succ i =>
      show (ruC r ++ RC rs).set ((i + 1) * 3 + f) u = ruC r ++ RC (rs.set i r')
      rw [List.set_append_right _ _ (by show 3 ≤ (i + 1) * 3 + f; omega), show (i + 1) * 3 + f - (ruC r).length = i * 3 + f by show (i + 1) * 3 + f - 3 = _; omega]
      rw [ih i (by simpa using hi) h]
theorem OwnY.set {w : World} {b g n c i f : Nat} {rs : List Tb.Rl} {u : Value} {r' : Tb.Rl} (ho : OwnY w b (.slice (some ⟨g, 0, none⟩) n c) rs) (hi : i < rs.length) (hf : f < 3) (hs : setRl (rs[i]'hi) f u r') (hr : RuleY w (.slice (some ⟨g, 0, none⟩) n c) r') :
    OwnY (w.setCell ⟨g, i * 3 + f, none⟩ u) b (.slice (some ⟨g, 0, none⟩) n c) (rs.set i r') := by
  have hg : w.grownBy (w.setCell ⟨g, i * 3 + f, none⟩ u) (some g) := grown_set (World.grownBy.refl w (some g)) _ u
  refine ⟨⟨by rw [RC_len], ?_⟩, fun r hm => ?_⟩
  · rcases ho.1.2 with ⟨h0, _⟩ | ⟨g', cap, cur, hv, h2, h3, h4, h5, h6, h7⟩
    · cases h0
    · injection hv with hv1 hv2 hv3
      injection hv1 with hv1
      injection hv1 with hv1
      subst hv1
      subst hv3
      refine .inr ⟨g, c, cur.setIfInBounds (i * 3 + f) u, by rw [List.length_set, hv2], h2, Blk.set_ (show Blk w g 45 cur from h3) _ u, by rw [List.length_set]; exact h4, h5, by simpa using h6, ?_⟩
      rw [Array.toList_setIfInBounds, List.length_set, List.take_set, h7]
      exact RC_set rs i f u r' hi hf hs
  · have hq : RuleY w (.slice (some ⟨g, 0, none⟩) n c) r := by
      rcases List.mem_or_eq_of_mem_set hm with h | h
      · exact ho.2 r h
      · rw [h]; exact hr
    exact ⟨hq.1.grownY hg (fun hn a ha => hq.2.2.2 hn a ha), hq.2⟩
end Go.Proofs.YtjnnohghgkjhcaaDoor
/-
  Tables: Bent of the reference, by contract: some tables in memory.
-/
namespace Go.Proofs.YtjnnohghgkjhcaaDoor
open Go.RowKit
set_option linter.unusedVariables false
set_option linter.unusedSimpArgs false
theorem langZ_of {w W : World} {A : Option Addr} {c M g h : Nat} {rs : List Tb.Rl} (hr : RulesAt w w.heap.size A rs) (hc : rs.length ≤ c) (hM : rs.length ≤ M) (hb : Below w.heap.size w W) (hg : w.heap.size ≤ g) (hh : w.heap.size ≤ h) : LangZ W g h M (.slice A rs.length c) :=
  ⟨A, c, rs, rfl, hc, hM, (hr.below hb).more hb.size, fun hn a ha => by
    obtain ⟨ad, e, hbl, _⟩ := hr.1.2 hn
    rw [ha] at e
    injection e with e
    subst e
    omega, fun r hm hn a ha => by
    obtain ⟨ad, e, hbl, _⟩ := (hr.2.1 r hm).1.1.2 hn
    rw [ha] at e
    injection e with e
    subst e
    omega⟩
theorem bsZ_of {w W : World} {b : Tb.Bs} {g h : Nat} (hr : BsAt w w.heap.size b) (hb : Below w.heap.size w W) (hg : w.heap.size ≤ g) (hh : w.heap.size ≤ h) : BsZ W g h (.slice b.ad b.l.length b.c) b.l.length :=
  ⟨b.ad, b.c, b.l, rfl, rfl, hr.same hb, fun hn a ha => by
    obtain ⟨ad, e, hbl, _⟩ := hr.1.2 hn
    rw [ha] at e
    injection e with e
    subst e
    omega⟩
theorem addr_add0 (g a j : Nat) : (⟨g, a, none⟩ : Addr).add j = ⟨g, a + j, none⟩ := by
  unfold Addr.add
  split <;> simp_all
theorem bs_pre {w : World} {B c : Nat} {ad : Addr} {l : List UInt8} (h : BsAt w B ⟨l, some ad, c⟩) (a : Nat) (ha : a ≤ l.length) : BsAt w B ⟨l.take a, some ad, c⟩ := by
  have hla : (l.take a).length = a := by rw [List.length_take]; omega
  refine ⟨⟨by rw [BV_len]; simp, fun hn => ?_⟩, by show (l.take a).length ≤ c; have := h.2.1; have h3 : l.length ≤ c := this; omega, by show (l.take a).length ≤ _; have := h.2.2; have h3 : l.length ≤ 1048576 := this; omega⟩
  have hn : 0 < (l.take a).length := hn
  obtain ⟨ad2, e, hb, _⟩ := h.1.2 (by show 0 < l.length; omega)
  exact ⟨ad2, e, hb, by injection e with e; subst e; exact reads_cells h.1 a⟩
theorem strs_at (L : List (List UInt8)) (k : Nat) (hk : k < L.length) : (L.map VS).toArray[k]? = some (.string (S (L.getD k []))) := by
  rw [List.getElem?_toArray, List.getElem?_map, List.getElem?_eq_getElem hk]
  simp [VS, List.getD, hk]
theorem own_pre1 {W : World} {b q k c : Nat} {A : Option Addr} {l : List UInt8} (ho : W.ownsRow b 5 1 (.slice A q c) q (BV l)) (hA : A ≠ none) (hk : k ≤ q) : W.ownsRow b 5 1 (.slice A k c) k (BV (l.take k)) := by
  have hql : q = l.length := by have := ho.1; rw [BV_len] at this; omega
  refine ⟨by rw [BV_len, List.length_take]; omega, ?_⟩
  rcases ho.2 with ⟨h0, _⟩ | ⟨g, cap, cur, hv, h2, h3, h4, h5, h6, h7⟩
  · injection h0 with h0
    exact absurd h0 hA
  · injection hv with hv1 hv2 hv3
    subst hv1
    subst hv3
    refine .inr ⟨g, c, cur, rfl, h2, h3, by omega, h5, h6, ?_⟩
    have e : (BV l).take (k * 1) = BV (l.take k) := by
      unfold BV
      rw [Nat.mul_one, List.map_take]
    rw [← e, ← h7, List.take_take]
    congr 1
    omega
theorem bytes_app (W : World) (base : Nat) (v : Value) (l : List UInt8) (b : Tb.Bs) (hown : W.ownsRow base 5 1 v l.length (BV l)) (hb : BsAt W W.heap.size b) (hbase : base ≤ W.heap.size) (hlen : l.length ≤ 100000) (ty : TypeId) :
    ∃ v' W', (Builtin.append_ #[23, 23] ty #[v, .slice b.ad b.l.length b.c]).run Tryd.prog W = .ok v' W' ∧ W'.ownsRow base 5 1 v' (l ++ b.l).length (BV (l ++ b.l)) ∧ W.grownBy W' v.ownBlock ∧ (v'.ownBlock = v.ownBlock ∨ v'.ownBlock = some W.heap.size) := by
  obtain ⟨j0, hj, hy0, hy1, hy2⟩ := info_parts byteInfo
  have hb3 : b.l.length ≤ 1048576 := hb.2.2
  obtain ⟨v', w', hrun, hown', hgrow', hat'⟩ := run_append_any (P := Tryd.prog) W base 23 ty 5 j0 (.int .u8 0) 1 1 Tryd.underlying23 hj hy0 hy1 hy2 rfl (by omega)
    v l.length (BV l) hown W.heap.size b.ad b.l.length b.c (BV b.l) hb.1 (fun u hu => BV_one b.l u hu) (by unfold maxLen; omega) (by omega) hbase
  refine ⟨v', w', hrun, ?_, hgrow', hat'⟩
  rw [BV_append, List.length_append]
  exact hown'
theorem OwnY.grownOff {w w' : World} {b g : Nat} {v : Value} {rs : List Tb.Rl} (h : OwnY w b v rs) (hg : w.grownBy w' (some g)) (hgb : g < b) (hf : ∀ r ∈ rs, 0 < r.cells.l.length → ∀ a, r.cells.ad = some a → a.block ≠ g) : OwnY w' b v rs :=
  ⟨own_grownOff h.1 hg (fun k hk e => by
    injection hk with hk
    have := (h.1.lt k e).1
    omega), fun r hr => ⟨(h.2 r hr).1.grownY hg (fun hn a ha e => by
      injection e with e
      exact hf r hr hn a ha e), (h.2 r hr).2⟩⟩
theorem push6 (V : World) (b q c6 h6 g6 : Nat) (A6 : Option Addr) (rs : List Tb.Rl) (T : List UInt8) (c : UInt8) (hT : T.length ≤ 1000) (hown : OwnY V b (.slice A6 q c6) rs) (hq : q = rs.length) (hq2 : q ≤ 100000) (hb : b ≤ V.heap.size)
    (hr : Blk V h6 45 #[.string (S T), .int .i64 0, .slice (some ⟨g6, 0, none⟩) 1 1]) (hc : Blk V g6 5 (BV [c]).toArray) (hne : ∀ k, (Value.slice A6 q c6).ownBlock = some k → k ≠ g6) (ty : TypeId) :
    ∃ A5 c5 W5, (Builtin.append_ #[24, 24] ty #[.slice A6 q c6, .slice (some ⟨h6, 0, none⟩) 1 1]).run Tryd.prog V = .ok (.slice A5 (q + 1) c5) W5 ∧ A5 ≠ none ∧ OwnY W5 b (.slice A5 (q + 1) c5) (rs ++ [⟨T, 0, ⟨[c], some ⟨g6, 0, none⟩, 1⟩⟩]) ∧ V.grownBy W5 (Value.slice A6 q c6).ownBlock := by
  subst hq
  obtain ⟨v5, W5, hrun5, ho5, hg5, _⟩ := OwnY.app hown [⟨T, 0, ⟨[c], some ⟨g6, 0, none⟩, 1⟩⟩] (some ⟨h6, 0, none⟩) 1 (⟨rfl, fun _ => ⟨_, rfl, hr.lt, fun j u hu => by
    rw [addr_add0, Nat.zero_add, hr.cell j, ← hu]
    show _ = (ruC _ ++ [])[j]?
    rw [List.append_nil, ← List.getElem?_toArray]
    rfl⟩⟩) (fun y hy => by
    rw [List.mem_singleton] at hy
    subst hy
    refine ⟨bs_of_blk V g6 [c] hc (by simp), by show T.length ≤ _; omega, inI_zero, fun _ a ha => ?_⟩
    injection ha with ha
    subst ha
    intro he
    exact hne _ he.symm rfl) hb hq2 (by simp) ty
  obtain ⟨A5, c5, hv5, _, hA5⟩ := own_slice ho5.1
  subst hv5
  refine ⟨A5, c5, W5, ?_, fun h => ?_, ?_, hg5⟩
  · have h : (Builtin.append_ #[24, 24] ty #[.slice A6 rs.length c6, .slice (some ⟨h6, 0, none⟩) 1 1]).run Tryd.prog V = .ok (.slice A5 (rs ++ [(⟨T, 0, ⟨[c], some ⟨g6, 0, none⟩, 1⟩⟩ : Tb.Rl)]).length c5) W5 := hrun5
    rw [h, List.length_append]
    rfl
  · have := hA5 h
    rw [List.length_append] at this
    simp at this
  · have := ho5
    rw [List.length_append] at this
    exact this
def ksB (base gb gd nd cd q a b0 : Nat) (z : Int) (l : List UInt8) (c : UInt8) (we : World) : List (World → Value → Prop) := [gIs (.pointer (some ⟨gb, 2, none⟩)), gIs (.slice (some ⟨gd, 0, none⟩) nd cd), gIs (.int .i64 z), gIs (.int .i64 (z.tdiv 66)), gIs (.int .i64 (a : Int)), gIs (.pointer (some ⟨gb, 2, none⟩)), gIs (.slice (some ⟨gd, 0, none⟩) nd cd), gIs (.int .i64 (nd : Int)), gIs (.int .i64 (q : Int)), gIs (.slice (some ⟨gd, 0, none⟩) q cd), gIs (.int .u8 (c.toNat : Int)), gNew b0 5 (BV [c]), (fun W v => W.ownsRow base 5 1 v (l ++ [c]).length (BV (l ++ [c])) ∧ we.grownBy W (some gd)), gIs (.pointer (some ⟨gb, 2, none⟩))]
theorem ksB_n (base gb gd nd cd q a b0 : Nat) (z : Int) (l : List UInt8) (c : UInt8) (we : World) : ∀ j, j ≠ 12 → StabN b0 ((ksB base gb gd nd cd q a b0 z l c we).getD j gAny)
  | 0, _ => stabn_is _ _
  | 1, _ => stabn_is _ _
  | 2, _ => stabn_is _ _
  | 3, _ => stabn_is _ _
  | 4, _ => stabn_is _ _
  | 5, _ => stabn_is _ _
  | 6, _ => stabn_is _ _
  | 7, _ => stabn_is _ _
  | 8, _ => stabn_is _ _
  | 9, _ => stabn_is _ _
  | 10, _ => stabn_is _ _
  | 11, _ => stabn_new _ _ _
  | 12, h => absurd rfl h
  | 13, _ => stabn_is _ _
  | _ + 14, _ => stabn_any _
theorem ksB_b (base gb gd nd cd q a b0 : Nat) (z : Int) (l : List UInt8) (c : UInt8) (we : World) (j : Nat) : Stab ((ksB base gb gd nd cd q a b0 z l c we).getD j gAny) := by
  by_cases h : j = 12
  · subst h
    exact fun W W' v hb ⟨h1, h2⟩ => ⟨own_below h1 hb, grown_below h2 hb⟩
  · exact (ksB_n base gb gd nd cd q a b0 z l c we j h).stab
def BentR (w : World) (gb g8 M : Nat) (u0 u1 : Value) (s : Value) (wx : World) : Prop := (∃ A q c, s = .slice A q c) ∧ LangZ wx gb g8 M s ∧ LangZ wx gb g8 M u0 ∧ LangZ wx gb g8 M u1 ∧
  Blk wx g8 29 #[.slice none 0 0, .slice none 0 0, .slice none 0 0, .slice none 0 0, .slice none 0 0, .slice none 0 0, .slice none 0 0] ∧ Below w.heap.size w wx ∧
  ∃ (A2 A3 A4 A5 A6 : Option Addr) (n2 n3 n4 n5 n6 c2 c3 c4 c5 c6 : Nat), Blk wx gb 29 #[u0, u1, .slice A2 n2 c2, .slice A3 n3 c3, .slice A4 n4 c4, .slice A5 n5 c5, .slice A6 n6 c6] ∧
    BsZ wx gb g8 (.slice A2 n2 c2) n2 ∧ BsZ wx gb g8 (.slice A3 n3 c3) n3 ∧ BsZ wx gb g8 (.slice A4 n4 c4) n4 ∧ BsZ wx gb g8 (.slice A5 n5 c5) n5 ∧ BsZ wx gb g8 (.slice A6 n6 c6) n6 ∧ 1 ≤ n2 ∧ n2 ≤ 100
set_option maxHeartbeats 16000000 in
set_option maxRecDepth 100000 in
theorem bent_any : BentC := by
  intro m hm v x y z w hv hx hy hz
  obtain ⟨t, ⟨A0, A1, c0, c1, rfl, hr0, hr1, hc0, hc1, hd, hc, hn, hf, hs⟩, hf0, hf1, hd1, hd2⟩ := hv
  have CX := hide (fun W => around_lit x 2 2 rfl W hx (by omega) (by omega))
  obtain ⟨k, hk⟩ : ∃ k, k = Ce.around x 2 := ⟨_, rfl⟩
  have hk2 : k < 2 := by rw [hk]; exact Ce.around_lt _ _ (by omega)
  rw [← hk] at CX
  clear hk
  go_enter Tryd.func4, Tryd.ntmps4
  go_upto_region 2 with (go_at_call 12; refine (unhide CX _).mono ?_; rintro e w1 ⟨rfl, rfl⟩)
  refine name_world fun B hB => ?_
  obtain ⟨cs, hcs⟩ : ∃ cs : Array Value, cs = #[.slice A0 t.r0.length c0, .slice A1 t.r1.length c1, .slice t.dig.ad t.dig.l.length t.dig.c, .slice t.cap.ad t.cap.l.length t.cap.c, .slice t.num.ad t.num.l.length t.num.c, .slice t.fin.ad t.fin.l.length t.fin.c, .slice t.sw.ad t.sw.l.length t.sw.c] := ⟨_, rfl⟩
  have BX := hide (show Blk B w.heap.size 29 cs by rw [← hB.out, hcs]; exact (Blk.new w _ _).alloc _)
  have B8 := hide (show Blk B (w.heap.size + 1) 29 #[.slice none 0 0, .slice none 0 0, .slice none 0 0, .slice none 0 0, .slice none 0 0, .slice none 0 0, .slice none 0 0] by rw [← hB.out]; exact Blk.new2 w _ _ _)
  have HWB := hide (show Below w.heap.size w B by rw [← hB.out]; exact ((Below.refl _ _).alloc (Nat.le_refl _) _).alloc (by simp) _)
  have hBs : B.heap.size = w.heap.size + 1 + 1 := by rw [← hB.out]; simp
  clear hB CX
  obtain ⟨g8, hg8⟩ : ∃ g8, g8 = w.heap.size + 1 := ⟨_, rfl⟩
  rw [← hg8] at B8 ⊢
  obtain ⟨gb, hgb⟩ : ∃ gb, gb = w.heap.size := ⟨_, rfl⟩
  rw [← hgb] at BX ⊢
  have HG := hide (show w.heap.size ≤ gb ∧ w.heap.size ≤ g8 ∧ gb < B.heap.size ∧ g8 < B.heap.size ∧ gb ≠ g8 by omega)
  clear hg8 hgb hBs
  obtain ⟨Ak, rk, ck, hcell, hrk, hrkc, hrkm⟩ : ∃ Ak rk ck, cs[k]? = some (.slice Ak rk.length ck) ∧ RulesAt w w.heap.size Ak rk ∧ rk.length ≤ ck ∧ rk.length ≤ m := by
    have h01 : k = 0 ∨ k = 1 := by omega
    rcases h01 with h | h
    · subst h; rw [hcs]; exact ⟨A0, t.r0, c0, rfl, hr0, hc0, hf0⟩
    · subst h; rw [hcs]; exact ⟨A1, t.r1, c1, rfl, hr1, hc1, hf1⟩
  obtain ⟨v1, W1, hrun1, ho1, hg1, _⟩ := OwnY.app (OwnY.nil B B.heap.size) rk Ak ck ((hrk.1.below HWB.out).more HWB.out.size) (fun r hr => ⟨(hrk.2.1 r hr).1.same HWB.out, (hrk.2.1 r hr).2.1, (hrk.2.1 r hr).2.2, fun _ a _ h => by cases h⟩) (Nat.le_refl _) (by simp) (by omega) 24
  have HRUN1 := hide hrun1
  have HO1 := hide (show OwnY W1 B.heap.size v1 rk from ho1)
  have HB1 := hide (show Below B.heap.size B W1 from (Below.refl _ _).grown hg1 (Nat.le_refl _) (fun g h => by cases h))
  have bk : B.cell? ⟨gb, k, none⟩ = some (.slice Ak rk.length ck) := (BX.out.cell k).trans hcell
  have hk0 : (0 : Int) ≤ (k : Int) := by omega
  have hk2i : (k : Int) < 2 := by omega
  -- what stays, at W1
  have HW1 := hide (HWB.out.trans (HB1.out.mono HWB.out.size))
  have HP := hide (fun (wx : World) (hb : Below w.heap.size w wx) => And.intro (langZ_of (M := m + 100) hr0 hc0 (by omega) hb HG.out.1 HG.out.2.1) (And.intro (langZ_of (M := m + 100) hr1 hc1 (by omega) hb HG.out.1 HG.out.2.1) (And.intro (bsZ_of hd hb HG.out.1 HG.out.2.1) (And.intro (bsZ_of hc hb HG.out.1 HG.out.2.1) (And.intro (bsZ_of hn hb HG.out.1 HG.out.2.1) (And.intro (bsZ_of hf hb HG.out.1 HG.out.2.1) (bsZ_of hs hb HG.out.1 HG.out.2.1)))))))
  have HBX := hide (fun (wx : World) (hb : Below B.heap.size B wx) => (show Blk wx gb 29 cs from BX.out.below hb HG.out.2.2.1))
  have HB8 := hide (fun (wx : World) (hb : Below B.heap.size B wx) => (show Blk wx g8 29 #[.slice none 0 0, .slice none 0 0, .slice none 0 0, .slice none 0 0, .slice none 0 0, .slice none 0 0, .slice none 0 0] from B8.out.below hb HG.out.2.2.2.1))
  have Z0 := hide (langZ_of (M := m + 100) hr0 hc0 (by omega) HW1.out HG.out.1 HG.out.2.1)
  have Z1 := hide (langZ_of (M := m + 100) hr1 hc1 (by omega) HW1.out HG.out.1 HG.out.2.1)
  have Y2 := hide (bsZ_of hd HW1.out HG.out.1 HG.out.2.1)
  have Y3 := hide (bsZ_of hc HW1.out HG.out.1 HG.out.2.1)
  have Y4 := hide (bsZ_of hn HW1.out HG.out.1 HG.out.2.1)
  have Y5 := hide (bsZ_of hf HW1.out HG.out.1 HG.out.2.1)
  have Y6 := hide (bsZ_of hs HW1.out HG.out.1 HG.out.2.1)
  have X1 := hide (BX.out.below HB1.out HG.out.2.2.1)
  have X8 := hide (B8.out.below HB1.out HG.out.2.2.2.1)
  have HDG := hide (show BsAt W1 W1.heap.size t.dig from hd.same HW1.out)
  have HFAR := hide (show ∀ r ∈ rk, 0 < r.cells.l.length → ∀ a, r.cells.ad = some a → a.block ≠ gb ∧ a.block ≠ g8 from fun r hr hn a ha => by
    obtain ⟨ad, e, hbl, _⟩ := (hrk.2.1 r hr).1.1.2 hn
    rw [ha] at e
    injection e with e
    subst e
    have := HG.out
    omega)
  clear hrun1 ho1 hg1 hcell hrk hrkc hr0 hr1 hd hc hn hf hs BX B8
  obtain ⟨A2, c2, hv1, hc2, hAn⟩ := own_slice HO1.out.1
  subst hv1
  obtain ⟨n, hn⟩ : ∃ n, n = rk.length := ⟨_, rfl⟩
  have HN := hide hn
  simp only [← hn] at bk HRUN1 hc2 hAn hrkm
  rw [← hn] at HO1
  clear hn
  go_upto_region 4 with (at_builtin; refine Lib.wpList_append_run _ rfl _ _ _ _ rfl _ _ rfl rfl _ _ HRUN1.out ?_)
  clear bk HRUN1
  rw [hcs] at X1
  have x0 : W1.cell? ⟨gb, 0, none⟩ = some (.slice A0 t.r0.length c0) := X1.out.cell 0
  have x1 : W1.cell? ⟨gb, 1, none⟩ = some (.slice A1 t.r1.length c1) := X1.out.cell 1
  have x2 : W1.cell? ⟨gb, 2, none⟩ = some (.slice t.dig.ad t.dig.l.length t.dig.c) := X1.out.cell 2
  have x3 : W1.cell? ⟨gb, 3, none⟩ = some (.slice t.cap.ad t.cap.l.length t.cap.c) := X1.out.cell 3
  have x4 : W1.cell? ⟨gb, 4, none⟩ = some (.slice t.num.ad t.num.l.length t.num.c) := X1.out.cell 4
  have x5 : W1.cell? ⟨gb, 5, none⟩ = some (.slice t.fin.ad t.fin.l.length t.fin.c) := X1.out.cell 5
  have x6 : W1.cell? ⟨gb, 6, none⟩ = some (.slice t.sw.ad t.sw.l.length t.sw.c) := X1.out.cell 6
  by_cases hn0 : n = 0
  · have hnb : ((n : Int) == 0) = true := by simp [hn0]
    have hz8 : ∀ (d : Array Value), W1.grownBy (W1.setRow g8 d) (some g8) := fun d => grown_setRow W1 g8 d
    have HT := hide (fun (d : Array Value) => tab_Z (Z0.out.grown (hz8 d) (.inr (.inl rfl))) (Z1.out.grown (hz8 d) (.inr (.inl rfl))) (Y2.out.grown (hz8 d) (.inr (.inl rfl))) (Y3.out.grown (hz8 d) (.inr (.inl rfl))) (Y4.out.grown (hz8 d) (.inr (.inl rfl))) (Y5.out.grown (hz8 d) (.inr (.inl rfl))) (Y6.out.grown (hz8 d) (.inr (.inl rfl))) ⟨hd1, hd2⟩)
    have HFB := hide (fun (d : Array Value) => (show Below w.heap.size w (W1.setRow g8 d) from HW1.out.grown (hz8 d) HW1.out.size (fun g h => by injection h with h; have := HG.out.2.1; omega)))
    clear hn0 Z0 Z1 Y2 Y3 Y4 Y5 Y6
    go_wp2_with (first | (with_reducible refine wpList_store_tab rfl (.tmp 8) (.tmp 26) rfl g8 _ _ _ _ _ _ _ rfl rfl _ X8.out ?s1 ?s2 ?_))
    case s1 => rfl
    case s2 => simp [Value.oneCell']
    exact bodyPost_ret (results_cell0 Tryd.results4 _ _ ⟨g8, 0, none⟩ _ rfl (load_tab W1 g8 _ _ _ _ _ _ _ _ X8.out)) rfl ⟨_, rfl, HT.out _, HFB.out _⟩
  · have hnb : ((n : Int) == 0) = false := by simp [hn0]
    have hnm : n ≤ 600 := by omega
    have hx2 := inI_tdiv x 2 hx (by omega)
    have CA1 := hide (fun W => around_any (x.tdiv 2) n W hx2 (by omega) (by omega))
    obtain ⟨i, hi⟩ : ∃ i, i = Ce.around (x.tdiv 2) n := ⟨_, rfl⟩
    have hin : i < n := by rw [hi]; exact Ce.around_lt _ _ (by omega)
    rw [← hi] at CA1
    have CA2 := hide (fun W => around_lit z 66 66 rfl W hz (by omega) (by omega))
    obtain ⟨bb, hbb⟩ : ∃ bb, bb = Ce.around z 66 := ⟨_, rfl⟩
    have hb66 : bb < 66 := by rw [hbb]; exact Ce.around_lt _ _ (by omega)
    rw [← hbb] at CA2
    have CA3 := hide (fun W => around_lit y 11 11 rfl W hy (by omega) (by omega))
    obtain ⟨hw, hhw⟩ : ∃ hw, hw = Ce.around y 11 := ⟨_, rfl⟩
    have hw11 : hw < 11 := by rw [hhw]; exact Ce.around_lt _ _ (by omega)
    rw [← hhw] at CA3
    clear hi hbb hhw hn0
    have hq2 : wrap64 (x.tdiv 2) = x.tdiv 2 := by
      unfold Wr.inI at hx2
      unfold wrap64
      omega
    go_upto_block 0 with (go_at_call 12; first
      | ((with_reducible refine (unhide CA1 _).mono ?_); rintro e w3 ⟨rfl, rfl⟩)
      | ((with_reducible refine (unhide CA2 _).mono ?_); rintro e w3 ⟨rfl, rfl⟩)
      | ((with_reducible refine (unhide CA3 _).mono ?_); rintro e w3 ⟨rfl, rfl⟩))
    rw [hcs] at HBX
    obtain ⟨u0, hu0⟩ : ∃ u0 : Value, u0 = .slice A0 t.r0.length c0 := ⟨_, rfl⟩
    obtain ⟨u1, hu1⟩ : ∃ u1 : Value, u1 = .slice A1 t.r1.length c1 := ⟨_, rfl⟩
    rw [← hu0, ← hu1] at HBX HP
    have HMK := hide (fun (wx : World) (A : Option Addr) (q c : Nat) (hb : Below B.heap.size B wx) (hl : LangZ wx gb g8 (m + 100) (.slice A q c)) => (show BentR w gb g8 (m + 100) u0 u1 (.slice A q c) wx from by
      have hw := HWB.out.trans (hb.mono HWB.out.size)
      obtain ⟨p0, p1, p2, p3, p4, p5, p6⟩ := HP.out wx hw
      exact ⟨⟨A, q, c, rfl⟩, hl, p0, p1, HB8.out wx hb, hw, _, _, _, _, _, _, _, _, _, _, _, _, _, _, _, HBX.out wx hb, p2, p3, p4, p5, p6, hd1, hd2⟩))
    obtain ⟨g2, hA2, hg2⟩ : ∃ g2, A2 = some ⟨g2, 0, none⟩ ∧ B.heap.size ≤ g2 := by
      rcases HO1.out.1.2 with ⟨h0, _⟩ | ⟨g, cap, cur, hv, h2, _⟩
      · injection h0 with h0
        exact absurd (hAn h0) (by omega)
      · injection hv with hv1 hv2 hv3
        exact ⟨g, hv1, h2⟩
    subst hA2
    have HU0 := hide hu0
    have HU1 := hide hu1
    clear Z0 Z1 Y2 Y3 Y4 Y5 Y6 CA1 CA2 CA3 hq2 X8 hAn hu0 hu1
    clear x0 x1 x2 x3 x4 x5 x6
    go_cut [10, 13] from 37 to 172 (fun s10 s13 wx => BentR w gb g8 (m + 100) u0 u1 s10 wx)
    case first =>
      obtain ⟨ri, hri⟩ : ∃ ri, ri = rk[i]'(by have := HN.out; omega) := ⟨_, rfl⟩
      have hil : i < rk.length := by have := HN.out; omega
      have HOW := hide (show OwnY W1 B.heap.size (.slice (some ⟨g2, 0, none⟩) rk.length c2) rk by rw [← HN.out]; exact HO1.out)
      have HRI := hide (show RuleY W1 (.slice (some ⟨g2, 0, none⟩) n c2) ri by rw [hri]; exact HO1.out.2 _ (List.getElem_mem hil))
      have HFI := hide (show 0 < ri.cells.l.length → ∀ a, ri.cells.ad = some a → a.block ≠ gb ∧ a.block ≠ g8 by rw [hri]; exact HFAR.out _ (List.getElem_mem hil))
      have HSET := hide (fun (W : World) (hb : Below W1.heap.size W1 W) (f : Nat) (hf : f < 3) (u : Value) (r' : Tb.Rl) (hs : setRl ri f u r') (hy : RuleY W (.slice (some ⟨g2, 0, none⟩) n c2) r') (hfar : 0 < r'.cells.l.length → ∀ a, r'.cells.ad = some a → a.block ≠ gb ∧ a.block ≠ g8) => (show BentR w gb g8 (m + 100) u0 u1 (.slice (some ⟨g2, 0, none⟩) n c2) (W.setCell ⟨g2, i * 3 + f, none⟩ u) from by
        have h1 := OwnY.set (HO1.out.below hb) hil hf (by rw [← hri]; exact hs) hy
        refine HMK.out _ _ _ _ ((HB1.out.trans (hb.mono HB1.out.size)).setCell (by show B.heap.size ≤ g2; exact hg2) _) (h1.langZ HG.out.2.2.1 HG.out.2.2.2.1 (by rw [List.length_set]; have := HN.out; omega) (by omega) (fun r hm hn => ?_))
        rcases List.mem_or_eq_of_mem_set hm with h | h
        · exact HFAR.out r h hn
        · rw [h] at hn ⊢; exact hfar hn))
      obtain ⟨cur, HCUR⟩ : ∃ cur, Hid (Blk W1 g2 45 cur) := by
        rcases HO1.out.1.2 with ⟨h0, _⟩ | ⟨g, cap, cur, hv, h2, h3, _⟩
        · cases h0
        · injection hv with hv1 hv2 hv3
          injection hv1 with hv1
          injection hv1 with hv1
          subst hv1
          exact ⟨cur, h3⟩
      obtain ⟨f0, f1, f2⟩ : W1.cell? ⟨g2, i * 3, none⟩ = some (.string (S ri.text)) ∧ W1.cell? ⟨g2, i * 3 + 1, none⟩ = some (.int .i64 ri.wh) ∧ W1.cell? ⟨g2, i * 3 + 2, none⟩ = some (.slice ri.cells.ad ri.cells.l.length ri.cells.c) := by
        have hR : RulesAt W1 W1.heap.size (some ⟨g2, 0, none⟩) rk := ⟨Reads.of_own HOW.out.1, fun r hr => ⟨(HOW.out.2 r hr).1, (HOW.out.2 r hr).2.1, (HOW.out.2 r hr).2.2.1⟩, by have := HN.out; omega⟩
        obtain ⟨ad, he, _, hc⟩ := reads_rule hR i hil
        injection he with he
        subst he
        rw [← hri] at hc
        have ha : ∀ j, (Addr.add (Addr.add ⟨g2, 0, none⟩ (i * 3)) j) = ⟨g2, i * 3 + j, none⟩ := fun j => by rw [addr_add0, addr_add0, Nat.zero_add]
        have h0 := hc 0 _ rfl
        have h1 := hc 1 _ rfl
        have h2 := hc 2 _ rfl
        rw [ha] at h0 h1 h2
        exact ⟨h0, h1, h2⟩
      have hii : (i : Int) < (n : Int) := by omega
      have hi0 : (0 : Int) ≤ (i : Int) := by omega
      have CZ := hide (fun (k : Nat) (y : Int) (hk : y = (k : Int)) (hk0 : 0 < k) (hk1 : k ≤ 100) W => around_lit z k y hk W hz hk0 (by omega))
      have hz66 := inI_tdiv z 66 hz (by omega)
      have hq66 : wrap64 (z.tdiv 66) = z.tdiv 66 := by
        unfold Wr.inI at hz66
        unfold wrap64
        omega
      have HZ66 := hide hz66
      have CZ6 := hide (fun (k : Nat) (y : Int) (hk : y = (k : Int)) (hk0 : 0 < k) (hk1 : k ≤ 100) W => around_lit (z.tdiv 66) k y hk W HZ66.out hk0 (by omega))
      have HFLD := hide (fun (W : World) (hb : Below W1.heap.size W1 W) (f : Nat) (g : Nat) (l : List UInt8) (c : Nat) (hf : (f = 2 ∧ 1 ≤ l.length ∧ l.length ≤ 100) ∨ f = 3 ∨ f = 6) (hbs : BsAt W W.heap.size ⟨l, some ⟨g, 0, none⟩, c⟩) (hx : True) (hne : g ≠ gb ∧ g ≠ g8) => (show BentR w gb g8 (m + 100) u0 u1 (.slice (some ⟨g2, 0, none⟩) n c2) (W.setCell ⟨gb, f, none⟩ (.slice (some ⟨g, 0, none⟩) l.length c)) from by
        have hbB := HB1.out.trans (hb.mono HB1.out.size)
        have hgk : W.grownBy (W.setCell ⟨gb, f, none⟩ (.slice (some ⟨g, 0, none⟩) l.length c)) (some gb) := grown_set (World.grownBy.refl W (some gb)) f _
        obtain ⟨p0, p1, p2, p3, p4, p5, p6⟩ := HP.out W (HWB.out.trans (hbB.mono HWB.out.size))
        have hl := (HO1.out.below hb).langZ (M := m + 100) HG.out.2.2.1 HG.out.2.2.2.1 (by have := HN.out; omega) (by omega) HFAR.out
        have hu : BsZ W gb g8 (.slice (some ⟨g, 0, none⟩) l.length c) l.length := ⟨_, _, l, rfl, rfl, hbs, fun _ a ha => by injection ha with ha; subst ha; exact hne⟩
        have hbx := (HBX.out W hbB).set_ f (.slice (some ⟨g, 0, none⟩) l.length c)
        have G : ∀ {v q}, BsZ W gb g8 v q → BsZ _ gb g8 v q := fun h => h.grown hgk (.inl rfl)
        have hw := (HWB.out.trans (hbB.mono HWB.out.size)).grown hgk (HWB.out.trans (hbB.mono HWB.out.size)).size (fun g h => by injection h with h; have := HG.out.1; omega)
        have h8 := (HB8.out W hbB).far (show g8 ≠ gb from fun e => HG.out.2.2.2.2 e.symm) (p := ⟨gb, f, none⟩) (.slice (some ⟨g, 0, none⟩) l.length c)
        rcases hf with ⟨rfl, h1, h2⟩ | rfl | rfl
        · have hb2 : Blk (W.setCell ⟨gb, 2, none⟩ (.slice (some ⟨g, 0, none⟩) l.length c)) gb 29 #[u0, u1, .slice (some ⟨g, 0, none⟩) l.length c, .slice t.cap.ad t.cap.l.length t.cap.c, .slice t.num.ad t.num.l.length t.num.c, .slice t.fin.ad t.fin.l.length t.fin.c, .slice t.sw.ad t.sw.l.length t.sw.c] := hbx
          exact ⟨⟨_, _, _, rfl⟩, hl.grown hgk (.inl rfl), p0.grown hgk (.inl rfl), p1.grown hgk (.inl rfl), h8, hw, some ⟨g, 0, none⟩, t.cap.ad, t.num.ad, t.fin.ad, t.sw.ad, l.length, t.cap.l.length, t.num.l.length, t.fin.l.length, t.sw.l.length, c, t.cap.c, t.num.c, t.fin.c, t.sw.c, hb2, G hu, G p3, G p4, G p5, G p6, h1, h2⟩
        · have hb2 : Blk (W.setCell ⟨gb, 3, none⟩ (.slice (some ⟨g, 0, none⟩) l.length c)) gb 29 #[u0, u1, .slice t.dig.ad t.dig.l.length t.dig.c, .slice (some ⟨g, 0, none⟩) l.length c, .slice t.num.ad t.num.l.length t.num.c, .slice t.fin.ad t.fin.l.length t.fin.c, .slice t.sw.ad t.sw.l.length t.sw.c] := hbx
          exact ⟨⟨_, _, _, rfl⟩, hl.grown hgk (.inl rfl), p0.grown hgk (.inl rfl), p1.grown hgk (.inl rfl), h8, hw, t.dig.ad, some ⟨g, 0, none⟩, t.num.ad, t.fin.ad, t.sw.ad, t.dig.l.length, l.length, t.num.l.length, t.fin.l.length, t.sw.l.length, t.dig.c, c, t.num.c, t.fin.c, t.sw.c, hb2, G p2, G hu, G p4, G p5, G p6, hd1, hd2⟩
        · have hb2 : Blk (W.setCell ⟨gb, 6, none⟩ (.slice (some ⟨g, 0, none⟩) l.length c)) gb 29 #[u0, u1, .slice t.dig.ad t.dig.l.length t.dig.c, .slice t.cap.ad t.cap.l.length t.cap.c, .slice t.num.ad t.num.l.length t.num.c, .slice t.fin.ad t.fin.l.length t.fin.c, .slice (some ⟨g, 0, none⟩) l.length c] := hbx
          exact ⟨⟨_, _, _, rfl⟩, hl.grown hgk (.inl rfl), p0.grown hgk (.inl rfl), p1.grown hgk (.inl rfl), h8, hw, t.dig.ad, t.cap.ad, t.num.ad, t.fin.ad, some ⟨g, 0, none⟩, t.dig.l.length, t.cap.l.length, t.num.l.length, t.fin.l.length, l.length, t.dig.c, t.cap.c, t.num.c, t.fin.c, c, hb2, G p2, G p3, G p4, G p5, G hu, hd1, hd2⟩))
      clear hz66 hri
      by_cases hc0 : hw = 0
      · have t0 : ((hw : Int) == 0) = true := by rw [hc0]; rfl
        clear hc0
        have C6 := hide (CZ.out 6 6 rfl (by omega) (by omega))
        obtain ⟨a6, ha6⟩ : ∃ a6, a6 = Ce.around z 6 := ⟨_, rfl⟩
        have ha6l : a6 < 6 := by rw [ha6]; exact Ce.around_lt _ _ (by omega)
        rw [← ha6] at C6
        clear ha6
        have fz := HCUR.out.frozen (i * 3 + 1)
        go_wp2_with (go_at_call 12; refine (unhide C6 _).mono ?_; rintro e w9 ⟨rfl, rfl⟩)
        go_meet
        exact HSET.out W1 (Below.refl _ _) 1 (by omega) _ ⟨ri.text, (a6 : Int) - 1, ri.cells⟩ rfl ⟨HRI.out.1, HRI.out.2.1, by show Wr.inI ((a6 : Int) - 1); unfold Wr.inI; omega, HRI.out.2.2.2⟩ HFI.out
      · have t0 : ((hw : Int) == 0) = false := by rw [beq_eq_false_iff_ne]; omega
        by_cases hc1 : hw = 1
        · have t1 : ((hw : Int) == 1) = true := by rw [hc1]; rfl
          clear hc1
          have hB8n : ((UInt8.ofNat bb).toNat : Int) = (bb : Int) := by simp only [UInt8.toNat_ofNat']; omega
          have fz := fun o => (HCUR.out.alloc o).frozen (i * 3 + 2)
          have fc : ∀ o, (W1.alloc o).cell? ⟨g2, i * 3 + 2, none⟩ = some (.slice ri.cells.ad ri.cells.l.length ri.cells.c) := fun o => (World.cell?_alloc_lt W1 o _ (by show g2 < W1.heap.size; exact HCUR.out.lt)).trans f2
          have hnb := HCUR.out.lt
          have hnew := Blk.new W1 5 #[.int .u8 (bb : Int)]
          go_wp2
          go_meet
          first
            | exact HSET.out _ (below_alloc W1 _) 2 (by omega) _ ⟨ri.text, ri.wh, ⟨[UInt8.ofNat bb], some ⟨W1.heap.size, 0, none⟩, 1⟩⟩ rfl ⟨bs_of_blk _ W1.heap.size [UInt8.ofNat bb] (by show Blk _ _ _ #[Value.int .u8 ((UInt8.ofNat bb).toNat : Int)]; rw [hB8n]; exact hnew) (by simp), HRI.out.2.1, HRI.out.2.2.1, fun _ a ha => by
                injection ha with ha
                subst ha
                intro he
                injection he with he
                have he : W1.heap.size = g2 := he
                omega⟩ (fun _ a ha => by
                injection ha with ha
                subst ha
                have h1 := HB1.out.size
                have h2 := HG.out
                exact ⟨by show W1.heap.size ≠ gb; omega, by show W1.heap.size ≠ g8; omega⟩)
            | (rw [← World.setCell_alloc_past _ _ _ _ hnb]
               exact HSET.out _ (below_alloc W1 _) 2 (by omega) _ ⟨ri.text, ri.wh, ⟨[UInt8.ofNat bb], some ⟨W1.heap.size, 0, none⟩, 1⟩⟩ rfl ⟨bs_of_blk _ W1.heap.size [UInt8.ofNat bb] (by show Blk _ _ _ #[Value.int .u8 ((UInt8.ofNat bb).toNat : Int)]; rw [hB8n]; exact hnew) (by simp), HRI.out.2.1, HRI.out.2.2.1, fun _ a ha => by
                 injection ha with ha
                 subst ha
                 intro he
                 injection he with he
                 have he : W1.heap.size = g2 := he
                 omega⟩ (fun _ a ha => by
                 injection ha with ha
                 subst ha
                 have h1 := HB1.out.size
                 have h2 := HG.out
                 exact ⟨by show W1.heap.size ≠ gb; omega, by show W1.heap.size ≠ g8; omega⟩))
        · have t1 : ((hw : Int) == 1) = false := by rw [beq_eq_false_iff_ne]; omega
          by_cases hc2 : hw = 2
          · have t2 : ((hw : Int) == 2) = true := by rw [hc2]; rfl
            clear hc2
            have hB8n : ((UInt8.ofNat bb).toNat : Int) = (bb : Int) := by simp only [UInt8.toNat_ofNat']; omega
            have C6 := hide (CZ6.out 6 6 rfl (by omega) (by omega))
            obtain ⟨a6, ha6⟩ : ∃ a6, a6 = Ce.around (z.tdiv 66) 6 := ⟨_, rfl⟩
            have ha6l : a6 < 6 := by rw [ha6]; exact Ce.around_lt _ _ (by omega)
            rw [← ha6] at C6
            clear ha6
            have fz := fun o => (HCUR.out.alloc o).frozen (i * 3 + 2)
            have fc : ∀ o, (W1.alloc o).cell? ⟨g2, i * 3 + 2, none⟩ = some (.slice ri.cells.ad ri.cells.l.length ri.cells.c) := fun o => (World.cell?_alloc_lt W1 o _ (by show g2 < W1.heap.size; exact HCUR.out.lt)).trans f2
            have hnb := HCUR.out.lt
            have hnew := Blk.new W1 5 #[.int .u8 (bb : Int), .int .u8 (bb : Int), .int .u8 1, .int .u8 2, .int .u8 3]
            have e2 : ([UInt8.ofNat bb, UInt8.ofNat bb, 1, 2, 3].take a6).length = a6 := by rw [List.length_take]; exact Nat.min_eq_left (by show a6 ≤ 5; omega)
            go_wp2_with (go_at_call 12; refine (unhide C6 _).mono ?_; rintro e w9 ⟨rfl, rfl⟩)
            go_meet
            first
              | exact HSET.out _ (below_alloc W1 _) 2 (by omega) (.slice (some ⟨W1.heap.size, 0, none⟩) a6 5) ⟨ri.text, ri.wh, ⟨[UInt8.ofNat bb, UInt8.ofNat bb, 1, 2, 3].take a6, some ⟨W1.heap.size, 0, none⟩, 5⟩⟩ (by show (ruC ri).set 2 (.slice (some ⟨W1.heap.size, 0, none⟩) a6 5) = [.string (S ri.text), .int .i64 ri.wh, .slice (some ⟨W1.heap.size, 0, none⟩) ([UInt8.ofNat bb, UInt8.ofNat bb, 1, 2, 3].take a6).length 5]; rw [e2]; rfl) ⟨bs_pre (bs_of_blk _ W1.heap.size [UInt8.ofNat bb, UInt8.ofNat bb, 1, 2, 3] (by show Blk _ _ _ #[Value.int .u8 ((UInt8.ofNat bb).toNat : Int), Value.int .u8 ((UInt8.ofNat bb).toNat : Int), .int .u8 1, .int .u8 2, .int .u8 3]; rw [hB8n]; exact hnew) (by simp)) a6 (by simp; omega), HRI.out.2.1, HRI.out.2.2.1, fun _ a ha => by
                  injection ha with ha
                  subst ha
                  intro he
                  injection he with he
                  have he : W1.heap.size = g2 := he
                  omega⟩ (fun _ a ha => by
                  injection ha with ha
                  subst ha
                  have h1 := HB1.out.size
                  have h2 := HG.out
                  exact ⟨by show W1.heap.size ≠ gb; omega, by show W1.heap.size ≠ g8; omega⟩)
              | (rw [← World.setCell_alloc_past _ _ _ _ hnb]
                 exact HSET.out _ (below_alloc W1 _) 2 (by omega) (.slice (some ⟨W1.heap.size, 0, none⟩) a6 5) ⟨ri.text, ri.wh, ⟨[UInt8.ofNat bb, UInt8.ofNat bb, 1, 2, 3].take a6, some ⟨W1.heap.size, 0, none⟩, 5⟩⟩ (by show (ruC ri).set 2 (.slice (some ⟨W1.heap.size, 0, none⟩) a6 5) = [.string (S ri.text), .int .i64 ri.wh, .slice (some ⟨W1.heap.size, 0, none⟩) ([UInt8.ofNat bb, UInt8.ofNat bb, 1, 2, 3].take a6).length 5]; rw [e2]; rfl) ⟨bs_pre (bs_of_blk _ W1.heap.size [UInt8.ofNat bb, UInt8.ofNat bb, 1, 2, 3] (by show Blk _ _ _ #[Value.int .u8 ((UInt8.ofNat bb).toNat : Int), Value.int .u8 ((UInt8.ofNat bb).toNat : Int), .int .u8 1, .int .u8 2, .int .u8 3]; rw [hB8n]; exact hnew) (by simp)) a6 (by simp; omega), HRI.out.2.1, HRI.out.2.2.1, fun _ a ha => by
                   injection ha with ha
                   subst ha
                   intro he
                   injection he with he
                   have he : W1.heap.size = g2 := he
                   omega⟩ (fun _ a ha => by
                   injection ha with ha
                   subst ha
                   have h1 := HB1.out.size
                   have h2 := HG.out
                   exact ⟨by show W1.heap.size ≠ gb; omega, by show W1.heap.size ≠ g8; omega⟩))
          · have t2 : ((hw : Int) == 2) = false := by rw [beq_eq_false_iff_ne]; omega
            by_cases hc3 : hw = 3
            · have t3 : ((hw : Int) == 3) = true := by rw [hc3]; rfl
              clear hc3
              have CN := hide (CZ.out 9 9 rfl (by omega) (by omega))
              obtain ⟨a9, ha9⟩ : ∃ a9, a9 = Ce.around z 9 := ⟨_, rfl⟩
              have ha9l : a9 < 9 := by rw [ha9]; exact Ce.around_lt _ _ (by omega)
              rw [← ha9] at CN
              clear ha9
              obtain ⟨LS, hLS⟩ : ∃ LS : List (List UInt8), LS = [[], [65], [55], [97, 46], [46, 46], [97, 98, 99, 100, 101, 102, 103, 104], [97, 98, 99, 100, 101, 102, 103, 104, 105], [33], [97]] := ⟨_, rfl⟩
              have hnew := Blk.new W1 9 (LS.map VS).toArray
              have hlc : (W1.alloc (.cells (LS.map VS).toArray 9)).cell? ⟨W1.heap.size, a9, none⟩ = some (.string (S (LS.getD a9 []))) := by rw [hnew.cell a9]; exact strs_at LS a9 (by rw [hLS]; exact ha9l)
              have htl : (LS.getD a9 []).length ≤ 1000 := by
                have H : ∀ j : Fin 9, ([[], [65], [55], [97, 46], [46, 46], [97, 98, 99, 100, 101, 102, 103, 104], [97, 98, 99, 100, 101, 102, 103, 104, 105], [33], [97]].getD j.val ([] : List UInt8)).length ≤ 1000 := by decide
                rw [hLS]
                exact H ⟨a9, ha9l⟩
              generalize LS.getD a9 [] = tx at hlc htl
              rw [hLS] at hlc
              change (W1.alloc (.cells #[.string { data := #[] }, .string { data := #[65] }, .string { data := #[55] }, .string { data := #[97, 46] }, .string { data := #[46, 46] }, .string { data := #[97, 98, 99, 100, 101, 102, 103, 104] }, .string { data := #[97, 98, 99, 100, 101, 102, 103, 104, 105] }, .string { data := #[33] }, .string { data := #[97] }] 9)).cell? _ = _ at hlc
              clear hnew hLS
              have fz := fun o => (HCUR.out.alloc o).frozen (i * 3)
              have fc : ∀ o, (W1.alloc o).cell? ⟨g2, i * 3, none⟩ = some (.string (S ri.text)) := fun o => (World.cell?_alloc_lt W1 o _ (by show g2 < W1.heap.size; exact HCUR.out.lt)).trans f0
              have hnb := HCUR.out.lt
              have h9i : (a9 : Int) < 9 := by omega
              have h90 : (0 : Int) ≤ (a9 : Int) := by omega
              go_wp2_with (go_at_call 12; refine (unhide CN _).mono ?_; rintro e w9 ⟨rfl, rfl⟩)
              go_meet
              first
                | exact HSET.out _ (below_alloc W1 _) 0 (by omega) _ ⟨tx, ri.wh, ri.cells⟩ rfl ⟨HRI.out.1.same (below_alloc W1 _), by show tx.length ≤ _; omega, HRI.out.2.2.1, HRI.out.2.2.2⟩ HFI.out
                | (rw [← World.setCell_alloc_past _ _ _ _ hnb]
                   exact HSET.out _ (below_alloc W1 _) 0 (by omega) _ ⟨tx, ri.wh, ri.cells⟩ rfl ⟨HRI.out.1.same (below_alloc W1 _), by show tx.length ≤ _; omega, HRI.out.2.2.1, HRI.out.2.2.2⟩ HFI.out)
            · have t3 : ((hw : Int) == 3) = false := by rw [beq_eq_false_iff_ne]; omega
              by_cases hc4 : hw = 4
              · have t4 : ((hw : Int) == 4) = true := by rw [hc4]; rfl
                clear hc4
                obtain ⟨X, hX⟩ : ∃ X, X = W1.drew := ⟨_, rfl⟩
                have hXB : Below W1.heap.size W1 X := by rw [hX]; exact (Below.refl _ _).drew
                have hBX := HB1.out.trans (hXB.mono HB1.out.size)
                have hOX := HOW.out.below hXB
                have HAPP := hide (fun (A9 : Option Addr) (hA9 : A9 = some ((⟨g2, 0, none⟩ : Addr).add ((i + 1) * 3)) ∨ n - (i + 1) = 0) => (show ∃ A4 q4 c4 W4, (Builtin.append_ #[24, 24] 24 #[.slice (some ⟨g2, 0, none⟩) i c2, .slice A9 (n - (i + 1)) (c2 - (i + 1))]).run Tryd.prog X = .ok (.slice A4 q4 c4) W4 ∧ BentR w gb g8 (m + 100) u0 u1 (.slice A4 q4 c4) W4 from by
                  obtain ⟨v4, W4, hrun4, ho4, hg4, _⟩ := OwnY.app (hOX.pre i (by omega) (fun h => by cases h)) (rk.drop (i + 1)) A9 (c2 - (i + 1)) (by
                    rw [List.length_drop]
                    rcases hA9 with h9 | h9
                    · rw [h9]
                      exact reads_rest3 (Reads.of_own hOX.1) (i + 1) (by omega)
                    · rw [HN.out] at h9
                      exact ⟨by rw [RC_len, List.length_drop], fun hn => by omega⟩) (fun y hy => hOX.2 y (List.mem_of_mem_drop hy)) (by have := hBX.size; omega) (by have := HN.out; rw [List.length_take]; omega) (by have := HN.out; rw [List.length_drop]; omega) 24
                  rw [List.length_drop, ← HN.out] at hrun4
                  obtain ⟨A4, c4, hv4, _⟩ := own_slice ho4.1
                  subst hv4
                  have hb4 : Below B.heap.size B W4 := hBX.grown hg4 hBX.size (fun g h => by injection h with h; have h : g2 = g := h; omega)
                  exact ⟨A4, _, c4, W4, hrun4, HMK.out W4 _ _ _ hb4 (ho4.langZ HG.out.2.2.1 HG.out.2.2.2.1 (by have := HN.out; rw [List.length_append, List.length_take, List.length_drop]; omega) (by omega) (fun r hm hn => by
                    rcases List.mem_append.1 hm with h | h
                    · exact HFAR.out r (List.mem_of_mem_take h) hn
                    · exact HFAR.out r (List.mem_of_mem_drop h) hn))⟩))
                clear hBX hOX hXB HSET HFLD HMK HBX HB8 HOW HRI HFI HCUR
                have hw4 : IntKind.i64.wrap ((i : Int) + 1) = (i : Int) + 1 := by rw [IntKind.wrap_i64]; omega
                have htn : ((i : Int) + 1).toNat = i + 1 := by omega
                have hic : (i : Int) ≤ (c2 : Int) := by omega
                have hin1 : (i : Int) + 1 ≤ (n : Int) := by omega
                have hnc : (n : Int) ≤ (c2 : Int) := by omega
                have hi10 : (0 : Int) ≤ (i : Int) + 1 := by omega
                have hi1c : (i : Int) + 1 ≤ (c2 : Int) := by omega
                obtain ⟨A4, q4, c4, W4, hrun4, hfin⟩ := HAPP.out (if c2 = i + 1 then some ⟨g2, 0, none⟩ else some ⟨g2, (i + 1) * 3, none⟩) (by
                  split
                  · exact .inr (by omega)
                  · exact .inl (by rw [addr_add0, Nat.zero_add]))
                have HRUN4 := hide hrun4
                have HFIN := hide hfin
                clear hfin HAPP hrun4
                go_wp2_with fail
                go_still_tail 7, (by kernel_rfl)
                change wpList _ _ _ _ _ W1.drew
                rw [← hX]
                clear hX
                obtain ⟨A9, hA9⟩ : ∃ A9, A9 = (if c2 = i + 1 then (some ⟨g2, 0, none⟩ : Option Addr) else some ⟨g2, (i + 1) * 3, none⟩) := ⟨_, rfl⟩
                rw [← hA9] at HRUN4 ⊢
                clear hA9
                refine Lib.wpList_append_run _ rfl _ _ _ _ rfl _ _ rfl rfl _ _ HRUN4.out ?_
                go_wp2
                go_meet
                exact HFIN.out
              · have t4 : ((hw : Int) == 4) = false := by rw [beq_eq_false_iff_ne]; omega
                by_cases hc5 : hw = 5
                · have t5 : ((hw : Int) == 5) = true := by rw [hc5]; rfl
                  clear hc5
                  obtain ⟨v5, W5, hrun5, ho5, hg5, _⟩ := OwnY.app (HO1.out.below (below_alloc W1 (.cells (ruC ri).toArray 45))) [ri] (some ⟨W1.heap.size, 0, none⟩) 1 (by
                    have hb := Blk.new W1 45 (ruC ri).toArray
                    exact ⟨rfl, fun _ => ⟨_, rfl, hb.lt, fun j u hu => by
                      rw [addr_add0, Nat.zero_add, hb.cell j, ← hu]
                      show (ruC ri).toArray[j]? = (ruC ri ++ [])[j]?
                      rw [List.append_nil, List.getElem?_toArray]⟩⟩) (fun y hy => by
                    rw [List.mem_singleton] at hy
                    subst hy
                    exact HRI.out.below (below_alloc W1 _)) (by have := HB1.out.size; simp; omega) (by have := HN.out; omega) (by simp) 24
                  have HRUN5 := hide hrun5
                  obtain ⟨A5, c5, hv5, _⟩ := own_slice ho5.1
                  subst hv5
                  have hb5 : Below B.heap.size B W5 := (HB1.out.trans (below_alloc' W1 _ HB1.out.size)).grown hg5 (by have := HB1.out.size; simp; omega) (fun g h => by injection h with h; have h : g2 = g := h; omega)
                  have HFIN := hide (HMK.out W5 _ _ _ hb5 (ho5.langZ HG.out.2.2.1 HG.out.2.2.2.1 (by have := HN.out; simp; omega) (by omega) (fun r hm hn => by
                    rcases List.mem_append.1 hm with h | h
                    · exact HFAR.out r h hn
                    · rw [List.mem_singleton] at h
                      subst h
                      exact HFI.out hn)))
                  clear hrun5 ho5 hg5 hb5
                  go_wp2_with (at_builtin; refine Lib.wpList_append_run _ rfl _ _ _ _ rfl _ _ rfl rfl _ _ HRUN5.out ?_)
                  go_meet
                  have hX := HFIN.out
                  rw [List.length_append, List.length_singleton] at hX
                  exact hX
                · have t5 : ((hw : Int) == 5) = false := by rw [beq_eq_false_iff_ne]; omega
                  by_cases hc6 : hw = 6
                  · have t6 : ((hw : Int) == 6) = true := by rw [hc6]; rfl
                    clear hc6
                    obtain ⟨a4, ha4⟩ : ∃ a4, a4 = Ce.around z 4 := ⟨_, rfl⟩
                    have ha4l : a4 < 4 := by rw [ha4]; exact Ce.around_lt _ _ (by omega)
                    have C4 := hide (CZ.out 4 4 rfl (by omega) (by omega))
                    rw [← ha4] at C4
                    have HO6 := hide (show OwnY W1 B.heap.size (.slice (some ⟨g2, 0, none⟩) n c2) rk from HO1.out)
                    clear ha4 HSET HFLD HCUR f0 f1 f2 HBX HB8 CZ CZ6 HRI HFI HOW HZ66 hq66 HP
                    have hnm3 : n ≤ m := by omega
                    go_wp2
                    go_loopw [10, 13] (fun s10 s wr => ∃ (j q c6 : Nat) (A6 : Option Addr) (rs : List Tb.Rl), j ≤ 97 ∧ s = .int .i64 (j : Int) ∧ Value.slice A6 q c6 = s10 ∧ Hid (q = rs.length ∧ A6 ≠ none ∧ 1 ≤ q) ∧ q ≤ n + j ∧ Hid (OwnY wr B.heap.size (.slice A6 q c6) rs) ∧ Hid (∀ r ∈ rs, 0 < r.cells.l.length → ∀ a, r.cells.ad = some a → a.block ≠ gb ∧ a.block ≠ g8) ∧ Hid (Below B.heap.size B wr)) (fun _ s _ => 97 - (intOf s).toNat)
                    case atStart => exact ⟨0, n, c2, _, rk, by omega, rfl, rfl, hide ⟨HN.out, by simp, by omega⟩, by omega, HO6, HFAR, HB1⟩
                    case round =>
                      obtain ⟨j, q, c6, A6, rs, hj, rfl, rfl, HQ, hqn, HOQ, HFQ, HBQ⟩ := hrel
                      obtain ⟨we, rfl⟩ : ∃ we, we = wr := ⟨wr, rfl⟩
                      clear HO6 HO1 HB1 HFAR HN hii
                      have hj0 : (0 : Int) ≤ (j : Int) := by omega
                      by_cases hj97 : (j : Int) < 97
                      · go_upto_region 26 with fail
                        obtain ⟨b1, hb1⟩ : ∃ b1 : UInt8, (b1.toNat : Int) = 97 + (j : Int) % 26 := ⟨UInt8.ofNat (97 + j % 26), by simp only [UInt8.toNat_ofNat']; omega⟩
                        obtain ⟨b2, hb2⟩ : ∃ b2 : UInt8, (b2.toNat : Int) = 97 + (j : Int) / 26 := ⟨UInt8.ofNat (97 + j / 26), by simp only [UInt8.toNat_ofNat']; omega⟩
                        have hcv : (convert 23 9 (.slice (some ⟨we.heap.size, 0, none⟩) 3 3)).run Tryd.prog (we.alloc (.cells #[.int .u8 (b1.toNat : Int), .int .u8 (b2.toNat : Int), .int .u8 113] 5)) = .ok (.string (S [b1, b2, 113])) (we.alloc (.cells #[.int .u8 (b1.toNat : Int), .int .u8 (b2.toNat : Int), .int .u8 113] 5)) :=
                          run_conv_reads (P := Tryd.prog) (reads_bytes _ we.heap.size [b1, b2, 113] (Blk.new we 5 _)) _ _ _ _ Tryd.underlying23 Tryd.underlying5 Tryd.underlying9
                        have HV := hide (show Below we.heap.size we (((we.alloc (.cells #[.int .u8 (b1.toNat : Int), .int .u8 (b2.toNat : Int), .int .u8 113] 5)).alloc (.cells #[.int .u8 7] 5)).alloc (.cells #[.string (S [b1, b2, 113]), .int .i64 0, .slice (some ⟨we.heap.size + 1, 0, none⟩) 1 1] 45)) from (((Below.refl _ _).alloc (Nat.le_refl _) _).alloc (by simp) _).alloc (by simp; omega) _)
                        have hs2 : (we.alloc (.cells #[.int .u8 (b1.toNat : Int), .int .u8 (b2.toNat : Int), .int .u8 113] 5)).heap.size = we.heap.size + 1 := by simp
                        have hs3 : ((we.alloc (.cells #[.int .u8 (b1.toNat : Int), .int .u8 (b2.toNat : Int), .int .u8 113] 5)).alloc (.cells #[.int .u8 7] 5)).heap.size = we.heap.size + 1 + 1 := by simp
                        have hHR := alloc_at ((we.alloc (.cells #[.int .u8 (b1.toNat : Int), .int .u8 (b2.toNat : Int), .int .u8 113] 5)).alloc (.cells #[.int .u8 7] 5)) 45 #[.string (S [b1, b2, 113]), .int .i64 0, .slice (some ⟨we.heap.size + 1, 0, none⟩) 1 1] (we.heap.size + 1 + 1) hs3.symm
                        have hHC := (alloc_at (we.alloc (.cells #[.int .u8 (b1.toNat : Int), .int .u8 (b2.toNat : Int), .int .u8 113] 5)) 5 (BV [7]).toArray (we.heap.size + 1) hs2.symm).alloc (.cells #[.string (S [b1, b2, 113]), .int .i64 0, .slice (some ⟨we.heap.size + 1, 0, none⟩) 1 1] 45)
                        have hBs := HBQ.out.size
                        have HOV := HOQ.out.below HV.out
                        obtain ⟨A5, c5, W5, hrun6, hA5, ho6, hg6⟩ := push6 _ B.heap.size q c6 (we.heap.size + 1 + 1) (we.heap.size + 1) A6 rs [b1, b2, 113] 7 (by simp) HOV HQ.out.1 (by omega) (by have := HV.out.size; omega) hHR hHC (fun k hk e => by have := (HOQ.out.1.lt k hk).2; omega) 24
                        rw [hb1, hb2] at hrun6 hcv
                        have HRUN6 := hide hrun6
                        have HNX := hide (show OwnY W5 B.heap.size (.slice A5 (q + 1) c5) (rs ++ [(⟨[b1, b2, 113], 0, ⟨[7], some ⟨we.heap.size + 1, 0, none⟩, 1⟩⟩ : Tb.Rl)]) from ho6)
                        have HNL := hide (show q + 1 = (rs ++ [(⟨[b1, b2, 113], 0, ⟨[7], some ⟨we.heap.size + 1, 0, none⟩, 1⟩⟩ : Tb.Rl)]).length ∧ A5 ≠ none ∧ 1 ≤ q + 1 from ⟨by rw [List.length_append, ← HQ.out.1]; rfl, hA5, by omega⟩)
                        have HNF := hide (show ∀ r ∈ rs ++ [(⟨[b1, b2, 113], 0, ⟨[7], some ⟨we.heap.size + 1, 0, none⟩, 1⟩⟩ : Tb.Rl)], 0 < r.cells.l.length → ∀ a, r.cells.ad = some a → a.block ≠ gb ∧ a.block ≠ g8 from fun r hm hn a ha => by
                          rcases List.mem_append.1 hm with h | h
                          · exact HFQ.out r h hn a ha
                          · rw [List.mem_singleton] at h
                            subst h
                            injection ha with ha
                            subst ha
                            have := HG.out
                            exact ⟨by show we.heap.size + 1 ≠ gb; omega, by show we.heap.size + 1 ≠ g8; omega⟩)
                        have HNB := hide (show Below B.heap.size B W5 from (HBQ.out.trans (HV.out.mono hBs)).grown hg6 (HBQ.out.trans (HV.out.mono hBs)).size (fun g h => (HOQ.out.1.lt g h).1))
                        generalize rs ++ [(⟨[b1, b2, 113], 0, ⟨[7], some ⟨we.heap.size + 1, 0, none⟩, 1⟩⟩ : Tb.Rl)] = rs5 at *
                        clear hrun6 ho6 hg6 hA5 hHR hHC HOV HV hs2 hs3 hBs HOQ HFQ HQ HBQ
                        clear hb1 hb2
                        go_wp2_with (at_builtin; refine Lib.wpList_append_run _ rfl _ _ _ _ rfl _ _ rfl rfl _ _ HRUN6.out ?_)
                        exact ⟨⟨j + 1, q + 1, c5, A5, rs5, by omega, by go_num, rfl, HNL, by omega, HNX, HNF, HNB⟩, by simp [intOf]; omega⟩
                      · have hq1 := HQ.out.2.2
                        have hlq : rs.length = q := HQ.out.1.symm
                        have HCUT := hide (fun (k : Nat) (hk : k ≤ q) => (show BentR w gb g8 (m + 100) u0 u1 (.slice A6 k c6) we from by
                          have ho : OwnY we B.heap.size (.slice A6 rs.length c6) rs := by rw [hlq]; exact HOQ.out
                          have h2 := ho.pre k (by omega) HQ.out.2.1
                          exact HMK.out we A6 k c6 HBQ.out (h2.langZ HG.out.2.2.1 HG.out.2.2.2.1 (by rw [List.length_take]; omega) (by omega) (fun r hm hn => HFQ.out r (List.mem_of_mem_take hm) hn))))
                        have hqc : q ≤ c6 := by
                          obtain ⟨A9, c9, e9, h9, _⟩ := own_slice HOQ.out.1
                          injection e9 with _ _ e9
                          omega
                        have hqci : (q : Int) ≤ (c6 : Int) := by omega
                        clear hlq HOQ HFQ HQ HBQ HMK
                        go_wp2_with (go_at_call 12; refine (unhide C4 _).mono ?_; rintro e w9 ⟨rfl, rfl⟩)
                        all_goals go_meet
                        all_goals first
                          | exact HCUT.out q (Nat.le_refl _)
                          | (rw [show ((95 : Int) + (a4 : Int)).toNat = 95 + a4 by omega]; exact HCUT.out _ (by omega))
                  · have t6 : ((hw : Int) == 6) = false := by rw [beq_eq_false_iff_ne]; omega
                    by_cases hc7 : hw = 7
                    · have t7 : ((hw : Int) == 7) = true := by rw [hc7]; rfl
                      clear hc7
                      obtain ⟨c, hc8⟩ : ∃ c : UInt8, (bb : Int) = (c.toNat : Int) := ⟨UInt8.ofNat bb, by simp only [UInt8.toNat_ofNat']; omega⟩
                      rw [hc8]
                      have HC8 := hide hc8
                      obtain ⟨v3, W3, hrun3, ho3, hg3, _⟩ := bytes_app (W1.alloc (.cells #[] 5)) W1.heap.size (.slice (some ⟨W1.heap.size, 0, none⟩) 0 0) [] t.dig (own_empty W1) (HDG.out.same (below_alloc W1 _)) (by simp) (by simp) 23
                      rw [List.nil_append] at ho3
                      obtain ⟨nd, hnd⟩ : ∃ nd, nd = t.dig.l.length := ⟨_, rfl⟩
                      rw [← hnd] at hd1 hd2 hrun3 ho3
                      obtain ⟨gd, cd, hv3, hgd1, hndc⟩ : ∃ gd cd, v3 = .slice (some ⟨gd, 0, none⟩) nd cd ∧ W1.heap.size ≤ gd ∧ nd ≤ cd := by
                        rcases ho3.2 with ⟨_, h0⟩ | ⟨g, cap, cur, hv, h2, h3, h4, _⟩
                        · omega
                        · exact ⟨g, cap, hv, h2, h4⟩
                      subst hv3
                      have HRUN3 := hide hrun3
                      have hb3 : Below W1.heap.size W1 W3 := (below_alloc W1 (.cells #[] 5)).grown hg3 (by simp) (fun g h => by injection h with h; have h : W1.heap.size = g := h; omega)
                      have HBX3 := HBX.out W3 (HB1.out.trans (hb3.mono HB1.out.size))
                      have hgdl : gd < W3.heap.size := (ho3.lt gd rfl).2
                      have hgb1 : gb < W1.heap.size := by have h1 := HB1.out.size; have h2 := HG.out; omega
                      have hg81 : g8 < W1.heap.size := by have h1 := HB1.out.size; have h2 := HG.out; omega
                      have HGV := hide (show W1.grownBy (W3.setCell ⟨gb, 2, none⟩ (.slice (some ⟨gd, 0, none⟩) nd cd)) (some gb) from grown_set (only_of_below hb3 (some gb)) 2 _)
                      have HBV := hide (HBX3.set_ 2 (.slice (some ⟨gd, 0, none⟩) nd cd))
                      have HO3 := hide (show (W3.setCell ⟨gb, 2, none⟩ (.slice (some ⟨gd, 0, none⟩) nd cd)).ownsRow W1.heap.size 5 1 (.slice (some ⟨gd, 0, none⟩) nd cd) nd (BV t.dig.l) from own_grownOff ho3 (grown_set (World.grownBy.refl W3 (some gb)) 2 _) (fun g h e => by injection h with h; injection e with e; have e : gd = g := e; omega))
                      have hcl0 : (W1.alloc (.cells #[] 5)).cell? ⟨gb, 2, none⟩ = some (.slice t.dig.ad nd t.dig.c) := by
                        rw [hnd]
                        exact ((HBX.out W1 HB1.out).alloc _).cell 2
                      have hfz3 := HBX3.frozen 2
                      have hcl3 : W3.cell? ⟨gb, 2, none⟩ = some (.slice t.dig.ad t.dig.l.length t.dig.c) := HBX3.cell 2
                      have HND := hide (show nd = t.dig.l.length from hnd)
                      clear hrun3 ho3 hg3 hnd HSET HFLD HCUR f0 f1 f2
                      have hb3' := hide hb3
                      clear hb3 HBX3
                      go_upto_region 30 with (at_builtin; refine Lib.wpList_append_run _ rfl _ _ _ _ rfl _ _ rfl rfl _ _ HRUN3.out ?_)
                      refine name_world fun V hV => ?_
                      rw [hV.out] at HGV HBV HO3
                      have CB := hide HBV.out
                      clear hcl0 hfz3 hcl3 HRUN3
                      have hVs : V.heap.size = W3.heap.size := by rw [← hV.out]; simp
                      clear hV
                      obtain ⟨a, ha⟩ : ∃ a, a = Ce.around (z.tdiv 66) 11 := ⟨_, rfl⟩
                      have hal : a < 11 := by rw [ha]; exact Ce.around_lt _ _ (by omega)
                      have CAN := hide (CZ6.out 11 11 rfl (by omega) (by omega))
                      rw [← ha] at CAN
                      clear ha
                      obtain ⟨q, hq⟩ : ∃ q, q = a % nd := ⟨_, rfl⟩
                      have hqn : q < nd := by rw [hq]; exact Nat.mod_lt _ (by omega)
                      have hqa : q < 11 := by rw [hq]; exact Nat.lt_of_le_of_lt (Nat.mod_le _ _) hal
                      have hqm : (a : Int).tmod (nd : Int) = (q : Int) := by rw [hq, Int.tmod_eq_emod_of_nonneg (by omega)]; simp
                      have hqw : IntKind.i64.wrap (q : Int) = (q : Int) := by rw [IntKind.wrap_i64]; omega
                      have hzw : IntKind.i64.wrap (z.tdiv 66) = z.tdiv 66 := by rw [IntKind.wrap_i64]; have := HZ66.out; unfold Wr.inI at this; omega
                      obtain ⟨l, hl⟩ : ∃ l, l = t.dig.l.take q := ⟨_, rfl⟩
                      have hlq : l.length = q := by rw [hl, List.length_take]; have := HND.out; omega
                      have HL := hide (show l.length ≤ 11 by omega)
                      have HO := hide (show V.ownsRow W1.heap.size 5 1 (.slice (some ⟨gd, 0, none⟩) q cd) l.length (BV l) by rw [hlq, hl]; exact own_pre1 HO3.out (by simp) (by omega))
                      have HGD := hide (show gd < V.heap.size by omega)
                      have hgdb : (some gb : Option Nat) ≠ some gd := fun h => by injection h with h; omega
                      have hl1 : (l ++ [c]).length = q + 1 := by rw [List.length_append, hlq]; rfl
                      have HL1 := hide hl1
                      have HF7 := hide (fun (W : World) (hg : V.grownBy W (some gd)) (A6 : Option Addr) (c6 : Nat) (ho : W.ownsRow W1.heap.size 5 1 (.slice A6 (l ++ [c]).length c6) (l ++ [c]).length (BV (l ++ [c]))) => (show BentR w gb g8 (m + 100) u0 u1 (.slice (some ⟨g2, 0, none⟩) n c2) (W.setCell ⟨gb, 2, none⟩ (.slice A6 (l ++ [c]).length c6)) from by
                        have hWg : W1.grownBy W (some gb) := grown_own HGV.out hg (fun i hi => by injection hi with hi; omega)
                        have h9 : W1.grownBy (W.setCell ⟨gb, 2, none⟩ (.slice A6 (l ++ [c]).length c6)) (some gb) := grown_set hWg 2 _
                        have hW := (HWB.out.trans (HB1.out.mono HWB.out.size)).grown h9 (HWB.out.trans (HB1.out.mono HWB.out.size)).size (fun g h => by injection h with h; have := HG.out.1; omega)
                        obtain ⟨p0, p1, p2, p3, p4, p5, p6⟩ := HP.out _ hW
                        have hla := (HO1.out.grownOff h9 HG.out.2.2.1 (fun r hr hn a ha => (HFAR.out r hr hn a ha).1)).langZ (M := m + 100) HG.out.2.2.1 HG.out.2.2.2.1 (by have := HN.out; omega) (by omega) HFAR.out
                        have h8 := (HB8.out W1 HB1.out).grown h9 (fun e => by injection e with e; exact HG.out.2.2.2.2 e.symm)
                        have hbx := (CB.out.grown hg hgdb).set_ 2 (.slice A6 (l ++ [c]).length c6)
                        have ho' := own_grownOff ho (grown_set (World.grownBy.refl W (some gb)) 2 (.slice A6 (l ++ [c]).length c6)) (fun g h e => by injection h with h; have := (ho.lt g e).1; omega)
                        obtain ⟨A7, c7, e7, hc7, _⟩ := own_slice ho
                        injection e7 with _ _ e7
                        have hu : BsZ _ gb g8 (.slice A6 (l ++ [c]).length c6) (l ++ [c]).length := ⟨A6, c6, l ++ [c], rfl, rfl, ⟨Reads.of_own ho', by show (l ++ [c]).length ≤ c6; omega, by show (l ++ [c]).length ≤ _; omega⟩, fun _ a ha => by
                          subst ha
                          have := (ho.lt a.block rfl).1
                          omega⟩
                        exact ⟨⟨_, _, _, rfl⟩, hla, p0, p1, h8, hW, A6, t.cap.ad, t.num.ad, t.fin.ad, t.sw.ad, _, _, _, _, _, c6, t.cap.c, t.num.c, t.fin.c, t.sw.c, hbx, hu, p3, p4, p5, p6, by omega, by omega⟩))
                      obtain ⟨b0, hb0⟩ : ∃ b0, b0 = V.heap.size := ⟨_, rfl⟩
                      have hq0 : (0 : Int) ≤ (q : Int) := by omega
                      have hqc : (q : Int) ≤ (cd : Int) := by omega
                      have hnd0 : ((nd : Int) == 0) = false := by rw [beq_eq_false_iff_ne]; omega
                      have hnd1 : ¬ (nd : Int) = 0 := by omega
                      have hnd2 : ¬ nd = 0 := by omega
                      have hqt : ((q : Int)).toNat = q := by omega
                      clear hlq hl1 hl hq HGV HO3 HBV HND hb3' CZ CZ6 HP HO1 HFAR HN HDG HMK HBX HB8 HRI HFI HOW hc8 t7
                      refine wp_region_threeT 12 14 [some 142, some 143, some 144, some 145, some 146, some 147, some 148, some 149, some 150, some 151, some 152, some 153, some 154, some 155] (gAll (ksB W1.heap.size gb gd nd cd q a b0 z l c V))
                        (fun b W => (b = false → Below V.heap.size V W) ∧ V.grownBy W (some gd) ∧ b0 ≤ W.heap.size) (by decide) (by kernel_rfl) (by kernel_rfl) (by kernel_rfl) (by rfl) (by decide) (by rfl) ⟨fun _ => (Below.refl _ _).drew, only_drew (World.grownBy.refl _ _), by rw [hb0]; exact Nat.le_refl _⟩ ?_ ?_ ?_
                      · intro j hj hjm b A x W hC hd hr
                        have stay : ∀ W', Below W.heap.size W W' → (b = false → Below V.heap.size V W') ∧ V.grownBy W' (some gd) ∧ b0 ≤ W'.heap.size := fun W' hb => ⟨fun h => (hC.1 h).trans (hb.mono (hC.1 h).size), grown_below hC.2.1 hb, Nat.le_trans hC.2.2 hb.size⟩
                        have KSB : ∀ k' u {W'}, Below W.heap.size W W' → gAll (ksB W1.heap.size gb gd nd cd q a b0 z l c V) k' u W → gAll (ksB W1.heap.size gb gd nd cd q a b0 z l c V) k' u W' := fun k' u W' hb h => ksB_b W1.heap.size gb gd nd cd q a b0 z l c V k' W W' u hb h
                        have KSN : ∀ k', k' ≠ 12 → ∀ u {W' row}, W.grownBy W' row → (∀ g, row = some g → g < b0) → gAll (ksB W1.heap.size gb gd nd cd q a b0 z l c V) k' u W → gAll (ksB W1.heap.size gb gd nd cd q a b0 z l c V) k' u W' := fun k' hk u W' row hg hr h => ksB_n W1.heap.size gb gd nd cd q a b0 z l c V k' hk W W' row u hg hr h
                        have hj' : j = 0 ∨ j = 1 ∨ j = 2 ∨ j = 3 ∨ j = 4 ∨ j = 5 ∨ j = 6 ∨ j = 7 ∨ j = 8 ∨ j = 9 ∨ j = 10 ∨ j = 11 ∨ j = 13 := by omega
                        rcases hj' with rfl | rfl | rfl | rfl | rfl | rfl | rfl | rfl | rfl | rfl | rfl | rfl | rfl
                        · have e4 : A.tmps[4]?.getD undef = .pointer (some ⟨gb, 0, none⟩) := hr 4 (by decide)
                          refine wpOp_step rfl (fun K' hK => ?_)
                          go_simp
                          exact hK _ _ ⟨_, rfl, rfl, fun _ _ _ h => h, hC⟩
                        · have d0 : A.tmps[142]?.getD undef = .pointer (some ⟨gb, 2, none⟩) := fI hd 0 142
                          refine wpOp_step rfl (fun K' hK => ?_)
                          have hcl : W.cell? ⟨gb, 2, none⟩ = some (.slice (some ⟨gd, 0, none⟩) nd cd) := (CB.out.grown hC.2.1 hgdb).cell 2
                          go_simp
                          exact hK _ _ ⟨_, rfl, rfl, fun _ _ _ h => h, hC⟩
                        · have e3 : A.tmps[3]?.getD undef = .int .i64 z := hr 3 (by decide)
                          refine wpOp_step rfl (fun K' hK => ?_)
                          go_simp
                          exact hK _ _ ⟨_, rfl, rfl, fun _ _ _ h => h, hC⟩
                        · have d2 : A.tmps[144]?.getD undef = .int .i64 z := fI hd 2 144
                          refine wpOp_step rfl (fun K' hK => ?_)
                          go_simp
                          exact hK _ _ ⟨_, rfl, rfl, fun _ _ _ h => h, hC⟩
                        · have d3 : A.tmps[145]?.getD undef = .int .i64 (z.tdiv 66) := fI hd 3 145
                          refine wpOp_step rfl (fun K' hK => ?_)
                          go_simp
                          go_at_call 12
                          refine (unhide CAN W).mono ?_
                          rintro e W' ⟨rfl, rfl⟩
                          exact hK _ _ ⟨_, rfl, rfl, fun _ _ _ h => h, hC⟩
                        · have e4 : A.tmps[4]?.getD undef = .pointer (some ⟨gb, 0, none⟩) := hr 4 (by decide)
                          refine wpOp_step rfl (fun K' hK => ?_)
                          go_simp
                          exact hK _ _ ⟨_, rfl, rfl, fun _ _ _ h => h, hC⟩
                        · have d5 : A.tmps[147]?.getD undef = .pointer (some ⟨gb, 2, none⟩) := fI hd 5 147
                          refine wpOp_step rfl (fun K' hK => ?_)
                          have hcl : W.cell? ⟨gb, 2, none⟩ = some (.slice (some ⟨gd, 0, none⟩) nd cd) := (CB.out.grown hC.2.1 hgdb).cell 2
                          go_simp
                          exact hK _ _ ⟨_, rfl, rfl, fun _ _ _ h => h, hC⟩
                        · have d6 : A.tmps[148]?.getD undef = .slice (some ⟨gd, 0, none⟩) nd cd := fI hd 6 148
                          refine wpOp_step rfl (fun K' hK => ?_)
                          go_simp
                          exact hK _ _ ⟨_, rfl, rfl, fun _ _ _ h => h, hC⟩
                        · have d4 : A.tmps[146]?.getD undef = .int .i64 (a : Int) := fI hd 4 146
                          have d7 : A.tmps[149]?.getD undef = .int .i64 (nd : Int) := fI hd 7 149
                          refine wpOp_step rfl (fun K' hK => ?_)
                          go_simp
                          exact hK _ _ ⟨_, rfl, rfl, fun _ _ _ h => h, hC⟩
                        · have d1 : A.tmps[143]?.getD undef = .slice (some ⟨gd, 0, none⟩) nd cd := fI hd 1 143
                          have d8 : A.tmps[150]?.getD undef = .int .i64 (q : Int) := fI hd 8 150
                          refine wpOp_step rfl (fun K' hK => ?_)
                          go_simp
                          exact hK _ _ ⟨_, rfl, rfl, fun _ _ _ h => h, hC⟩
                        · have e12 : A.tmps[12]?.getD undef = .int .u8 (c.toNat : Int) := hr 12 (by decide)
                          refine wpOp_step rfl (fun K' hK => ?_)
                          go_simp
                          exact hK _ _ ⟨_, rfl, rfl, fun _ _ _ h => h, hC⟩
                        · have d10 : A.tmps[152]?.getD undef = .int .u8 (c.toNat : Int) := fI hd 10 152
                          refine wpOp_step rfl (fun K' hK => ?_)
                          go_simp
                          exact hK _ _ ⟨_, rfl, ⟨W.heap.size, rfl, hC.2.2, Blk.new W _ _⟩, fun k' _ u h => KSB k' u (below_alloc W _) h, stay _ (below_alloc W _)⟩
                        · have e4 : A.tmps[4]?.getD undef = .pointer (some ⟨gb, 0, none⟩) := hr 4 (by decide)
                          refine wpOp_step rfl (fun K' hK => ?_)
                          go_simp
                          exact hK _ _ ⟨_, rfl, rfl, fun _ _ _ h => h, hC⟩
                      · intro A x W hC hd hr
                        have stay : ∀ W', Below W.heap.size W W' → (false = false → Below V.heap.size V W') ∧ V.grownBy W' (some gd) ∧ b0 ≤ W'.heap.size := fun W' hb => ⟨fun h => (hC.1 h).trans (hb.mono (hC.1 h).size), grown_below hC.2.1 hb, Nat.le_trans hC.2.2 hb.size⟩
                        have KSB : ∀ k' u {W'}, Below W.heap.size W W' → gAll (ksB W1.heap.size gb gd nd cd q a b0 z l c V) k' u W → gAll (ksB W1.heap.size gb gd nd cd q a b0 z l c V) k' u W' := fun k' u W' hb h => ksB_b W1.heap.size gb gd nd cd q a b0 z l c V k' W W' u hb h
                        have KSN : ∀ k', k' ≠ 12 → ∀ u {W' row}, W.grownBy W' row → (∀ g, row = some g → g < b0) → gAll (ksB W1.heap.size gb gd nd cd q a b0 z l c V) k' u W → gAll (ksB W1.heap.size gb gd nd cd q a b0 z l c V) k' u W' := fun k' hk u W' row hg hr h => ksB_n W1.heap.size gb gd nd cd q a b0 z l c V k' hk W W' row u hg hr h
                        obtain ⟨g, hx, hg0, hgb⟩ : gNew b0 5 (BV [c]) W (x 11) := (hd 11 (by decide)).2
                        have dr : A.tmps[153]?.getD undef = .slice (some ⟨g, 0, none⟩) 1 1 := ((hd 11 (by decide)).1 153 rfl).trans hx
                        have dy : A.tmps[151]?.getD undef = .slice (some ⟨gd, 0, none⟩) q cd := fI hd 9 151
                        have hbw := hC.1 rfl
                        obtain ⟨v', W', hrun, hown', hgrow', hat'⟩ := bytes_push W W1.heap.size g (.slice (some ⟨gd, 0, none⟩) q cd) l c (own_below HO.out hbw) hgb (by have := hC.2.2; omega) (by have := HL.out; omega) 23
                        refine wpOp_step rfl (fun K' hK => ?_)
                        refine step_run_append (by rfl) (.tmp 151) (.tmp 153) 23 rfl (.slice (some ⟨gd, 0, none⟩) q cd) (.slice (some ⟨g, 0, none⟩) 1 1) (by show A.tmps.getD 151 undef = _; simpa using dy) (by show A.tmps.getD 153 undef = _; simpa using dr) v' W' hrun ?_
                        refine hK _ _ ⟨v', rfl, ⟨hown', grown_tr hC.2.1 hgrow'⟩, fun k' hk' u h => KSN k' hk' u hgrow' (fun g' hg' => by injection hg' with hg'; rw [hb0]; have := HGD.out; have : gd = g' := hg'; omega) h, ⟨fun h => (by cases h), grown_tr hC.2.1 hgrow', Nat.le_trans hC.2.2 hgrow'.size⟩⟩
                      · intro x W hC hR
                        obtain ⟨hown', hgr'⟩ : W.ownsRow W1.heap.size 5 1 (x 12) (l ++ [c]).length (BV (l ++ [c])) ∧ V.grownBy W (some gd) := hR 12 (by decide)
                        obtain ⟨A6, c6, hx6, _⟩ := own_slice hown'
                        rw [hx6] at hown'
                        have hx7 : x 13 = .pointer (some ⟨gb, 2, none⟩) := hR 13 (by decide)
                        have hCB := (CB.out).grown hgr' hgdb
                        have HFIN := hide (HF7.out W hgr' A6 c6 hown')
                        refine wpOp_step rfl (fun K' hK => ?_)
                        simp only [putL, Act.put, Nat.zero_add, Nat.reduceAdd, List.setIfInBounds_toArray, List.set_cons_succ, List.set_cons_zero]
                        rw [hx7, hx6]
                        have hfz := hCB.frozen 2
                        have hcl : W.cell? ⟨gb, 2, none⟩ = some (.slice (some ⟨gd, 0, none⟩) nd cd) := hCB.cell 2
                        clear hown' hgr' hx6 hx7 hR hC hCB
                        generalize (l ++ [c]).length = nl at *
                        generalize x 0 = x0
                        generalize x 1 = x1
                        generalize x 2 = x2
                        generalize x 3 = x3
                        generalize x 4 = x4
                        generalize x 5 = x5
                        generalize x 6 = x6
                        generalize x 7 = x7
                        generalize x 8 = x8
                        generalize x 9 = x9
                        generalize x 10 = x10
                        generalize x 11 = x11
                        go_simp
                        refine hK _ _ ?_
                        clear hK K'
                        rw [← HC8.out]
                        go_wp2
                        go_meet
                        exact HFIN.out
                    · have t7 : ((hw : Int) == 7) = false := by rw [beq_eq_false_iff_ne]; omega
                      by_cases hc8 : hw = 8
                      · have t8 : ((hw : Int) == 8) = true := by rw [hc8]; rfl
                        clear hc8
                        have hB8n : ((UInt8.ofNat bb).toNat : Int) = (bb : Int) := by simp only [UInt8.toNat_ofNat']; omega
                        have CN := hide (CZ6.out 3 3 rfl (by omega) (by omega))
                        obtain ⟨a9, ha9⟩ : ∃ a9, a9 = Ce.around (z.tdiv 66) 3 := ⟨_, rfl⟩
                        have ha9l : a9 < 3 := by rw [ha9]; exact Ce.around_lt _ _ (by omega)
                        rw [← ha9] at CN
                        clear ha9
                        have X1 := HBX.out W1 HB1.out
                        have fz := fun o => (X1.alloc o).frozen 3
                        have fc : ∀ o, (W1.alloc o).cell? ⟨gb, 3, none⟩ = some (.slice t.cap.ad t.cap.l.length t.cap.c) := fun o => (X1.alloc o).cell 3
                        have hnew := Blk.new W1 5 #[.int .u8 (bb : Int), .int .u8 (bb : Int)]
                        go_wp2_with (go_at_call 12; refine (unhide CN _).mono ?_; rintro e w9 ⟨rfl, rfl⟩)
                        go_meet
                        have hX := HFLD.out _ (below_alloc W1 _) 3 _ ([UInt8.ofNat bb, UInt8.ofNat bb].take a9) 2 (.inr (.inl rfl)) (bs_pre (bs_of_blk _ W1.heap.size [UInt8.ofNat bb, UInt8.ofNat bb] (by show Blk _ _ _ #[Value.int .u8 ((UInt8.ofNat bb).toNat : Int), Value.int .u8 ((UInt8.ofNat bb).toNat : Int)]; rw [hB8n]; exact hnew) (by simp)) a9 (by simp; omega)) trivial (by have h1 := HB1.out.size; have h2 := HG.out; show W1.heap.size ≠ gb ∧ W1.heap.size ≠ g8; exact ⟨by omega, by omega⟩)
                        rw [List.length_take, Nat.min_eq_left (show a9 ≤ _ by simp; omega)] at hX
                        exact hX
                      · have t8 : ((hw : Int) == 8) = false := by rw [beq_eq_false_iff_ne]; omega
                        by_cases hc9 : hw = 9
                        · have t9 : ((hw : Int) == 9) = true := by rw [hc9]; rfl
                          clear hc9
                          have CN := hide (CZ.out 6 6 rfl (by omega) (by omega))
                          obtain ⟨a9, ha9⟩ : ∃ a9, a9 = Ce.around z 6 := ⟨_, rfl⟩
                          have ha9l : a9 < 6 := by rw [ha9]; exact Ce.around_lt _ _ (by omega)
                          rw [← ha9] at CN
                          clear ha9
                          have X1 := HBX.out W1 HB1.out
                          have fz := fun o => (X1.alloc o).frozen 6
                          have fc : ∀ o, (W1.alloc o).cell? ⟨gb, 6, none⟩ = some (.slice t.sw.ad t.sw.l.length t.sw.c) := fun o => (X1.alloc o).cell 6
                          have hnew := Blk.new W1 5 #[.int .u8 1, .int .u8 2, .int .u8 3, .int .u8 4, .int .u8 5]
                          go_wp2_with (go_at_call 12; refine (unhide CN _).mono ?_; rintro e w9 ⟨rfl, rfl⟩)
                          go_meet
                          have hX := HFLD.out _ (below_alloc W1 _) 6 _ ([1, 2, 3, 4, 5].take a9) 5 (.inr (.inr rfl)) (bs_pre (bs_of_blk _ W1.heap.size [1, 2, 3, 4, 5] (by exact hnew) (by simp)) a9 (by simp; omega)) trivial (by have h1 := HB1.out.size; have h2 := HG.out; show W1.heap.size ≠ gb ∧ W1.heap.size ≠ g8; exact ⟨by omega, by omega⟩)
                          rw [List.length_take, Nat.min_eq_left (show a9 ≤ _ by simp; omega)] at hX
                          exact hX
                        · have t9 : ((hw : Int) == 9) = false := by rw [beq_eq_false_iff_ne]; omega
                          have CN := hide (CZ.out 4 4 rfl (by omega) (by omega))
                          obtain ⟨a9, ha9⟩ : ∃ a9, a9 = Ce.around z 4 := ⟨_, rfl⟩
                          have ha9l : a9 < 4 := by rw [ha9]; exact Ce.around_lt _ _ (by omega)
                          rw [← ha9] at CN
                          clear ha9
                          obtain ⟨LS, hLS⟩ : ∃ LS : List (List UInt8), LS = [[116, 104], [101, 114], [97], [46]] := ⟨_, rfl⟩
                          have hnew := Blk.new W1 9 (LS.map VS).toArray
                          have hlc : (W1.alloc (.cells (LS.map VS).toArray 9)).cell? ⟨W1.heap.size, a9, none⟩ = some (.string (S (LS.getD a9 []))) := by rw [hnew.cell a9]; exact strs_at LS a9 (by rw [hLS]; exact ha9l)
                          have htl : (LS.getD a9 []).length ≤ 1000 := by
                            have H : ∀ j : Fin 4, ([[116, 104], [101, 114], [97], [46]].getD j.val ([] : List UInt8)).length ≤ 1000 := by decide
                            rw [hLS]
                            exact H ⟨a9, ha9l⟩
                          generalize LS.getD a9 [] = tx at hlc htl
                          rw [hLS] at hlc
                          change (W1.alloc (.cells #[.string { data := #[116, 104] }, .string { data := #[101, 114] }, .string { data := #[97] }, .string { data := #[46] }] 9)).cell? _ = _ at hlc
                          clear hnew hLS
                          have fz := fun o => (HCUR.out.alloc o).frozen (i * 3)
                          have fc : ∀ o, (W1.alloc o).cell? ⟨g2, i * 3, none⟩ = some (.string (S ri.text)) := fun o => (World.cell?_alloc_lt W1 o _ (by show g2 < W1.heap.size; exact HCUR.out.lt)).trans f0
                          have hnb := HCUR.out.lt
                          have h9i : (a9 : Int) < 4 := by omega
                          have h90 : (0 : Int) ≤ (a9 : Int) := by omega
                          go_wp2_with (go_at_call 12; refine (unhide CN _).mono ?_; rintro e w9 ⟨rfl, rfl⟩)
                          go_meet
                          first
                            | exact HSET.out _ (below_alloc W1 _) 0 (by omega) _ ⟨tx, ri.wh, ri.cells⟩ rfl ⟨HRI.out.1.same (below_alloc W1 _), by show tx.length ≤ _; omega, HRI.out.2.2.1, HRI.out.2.2.2⟩ HFI.out
                            | (rw [← World.setCell_alloc_past _ _ _ _ hnb]
                               exact HSET.out _ (below_alloc W1 _) 0 (by omega) _ ⟨tx, ri.wh, ri.cells⟩ rfl ⟨HRI.out.1.same (below_alloc W1 _), by show tx.length ≤ _; omega, HRI.out.2.2.1, HRI.out.2.2.2⟩ HFI.out)
    case rest =>
      obtain ⟨⟨As, qs, cs', hs10⟩, hl, hl0, hl1, h8, hbel, B2, B3, B4, B5, B6, n2, n3, n4, n5, n6, d2, d3, d4, d5, d6, hbx, e2, e3, e4, e5, e6, hn1, hn2⟩ := hcut
      subst hs10
      obtain ⟨U, rfl⟩ : ∃ U, U = wc := ⟨wc, rfl⟩
      have HBX2 := hide hbx
      have H8 := hide h8
      have HWU := hide hbel
      obtain ⟨ar, har⟩ : ∃ ar : Array Value, ar = #[u0, u1, .slice B2 n2 d2, .slice B3 n3 d3, .slice B4 n4 d4, .slice B5 n5 d5, .slice B6 n6 d6] := ⟨_, rfl⟩
      have hk7 : k < ar.size := by rw [har]; show k < 7; omega
      rw [← har] at HBX2
      have bk : U.cell? ⟨gb, k, none⟩ = some (ar[k]'hk7) := (HBX2.out.cell k).trans (Array.getElem?_eq_getElem hk7)
      have bf := HBX2.out.frozen k
      have hgk : U.grownBy (U.setCell ⟨gb, k, none⟩ (.slice As qs cs')) (some gb) := grown_set (World.grownBy.refl U (some gb)) k _
      have hgs : ∀ d, (U.setCell ⟨gb, k, none⟩ (.slice As qs cs')).grownBy ((U.setCell ⟨gb, k, none⟩ (.slice As qs cs')).setRow g8 d) (some g8) := fun d => grown_setRow _ g8 d
      have HXT := hide (show ∃ m0 m1, Blk (U.setCell ⟨gb, k, none⟩ (.slice As qs cs')) gb 29 #[m0, m1, .slice B2 n2 d2, .slice B3 n3 d3, .slice B4 n4 d4, .slice B5 n5 d5, .slice B6 n6 d6] ∧ m0.oneCell' = true ∧ m1.oneCell' = true ∧
          ∀ d, gTab (m + 100) ((U.setCell ⟨gb, k, none⟩ (.slice As qs cs')).setRow g8 d) (.agg #[m0, m1, .slice B2 n2 d2, .slice B3 n3 d3, .slice B4 n4 d4, .slice B5 n5 d5, .slice B6 n6 d6]) by
        have hb := HBX2.out.set_ k (.slice As qs cs')
        have h01 : k = 0 ∨ k = 1 := by omega
        rcases h01 with h | h
        · subst h
          rw [har] at hb
          exact ⟨_, u1, hb, rfl, by rw [HU1.out]; rfl, fun d => tab_Z ((hl.grown hgk (.inl rfl)).grown (hgs d) (.inr (.inl rfl))) ((hl1.grown hgk (.inl rfl)).grown (hgs d) (.inr (.inl rfl))) ((e2.grown hgk (.inl rfl)).grown (hgs d) (.inr (.inl rfl))) ((e3.grown hgk (.inl rfl)).grown (hgs d) (.inr (.inl rfl))) ((e4.grown hgk (.inl rfl)).grown (hgs d) (.inr (.inl rfl))) ((e5.grown hgk (.inl rfl)).grown (hgs d) (.inr (.inl rfl))) ((e6.grown hgk (.inl rfl)).grown (hgs d) (.inr (.inl rfl))) ⟨hn1, hn2⟩⟩
        · subst h
          rw [har] at hb
          exact ⟨u0, _, hb, by rw [HU0.out]; rfl, rfl, fun d => tab_Z ((hl0.grown hgk (.inl rfl)).grown (hgs d) (.inr (.inl rfl))) ((hl.grown hgk (.inl rfl)).grown (hgs d) (.inr (.inl rfl))) ((e2.grown hgk (.inl rfl)).grown (hgs d) (.inr (.inl rfl))) ((e3.grown hgk (.inl rfl)).grown (hgs d) (.inr (.inl rfl))) ((e4.grown hgk (.inl rfl)).grown (hgs d) (.inr (.inl rfl))) ((e5.grown hgk (.inl rfl)).grown (hgs d) (.inr (.inl rfl))) ((e6.grown hgk (.inl rfl)).grown (hgs d) (.inr (.inl rfl))) ⟨hn1, hn2⟩⟩)
      have H8S := hide (h8.far (show g8 ≠ gb from fun e => HG.out.2.2.2.2 e.symm) (p := ⟨gb, k, none⟩) (.slice As qs cs'))
      have HFB := hide (fun d => (show Below w.heap.size w ((U.setCell ⟨gb, k, none⟩ (.slice As qs cs')).setRow g8 d) from (HWU.out.grown hgk HWU.out.size (fun g h => by injection h with h; have := HG.out.1; omega)).grown (hgs d) (HWU.out.grown hgk HWU.out.size (fun g h => by injection h with h; have := HG.out.1; omega)).size (fun g h => by injection h with h; have := HG.out.2.1; omega)))
      clear hl hl0 hl1 h8 hbel hbx e2 e3 e4 e5 e6 hgk hgs HMK HP HBX HB8
      go_upto_region 36 with fail
      obtain ⟨Z, hZ⟩ : ∃ Z, Z = U.setCell ⟨gb, k, none⟩ (.slice As qs cs') := ⟨_, rfl⟩
      obtain ⟨m0, m1, q0, o0, o1, q2⟩ := HXT.out
      rw [← hZ] at q0 q2 H8S HFB ⊢
      have QB := hide q0
      have QT := hide q2
      clear hZ q0 q2 bk bf HXT
      have z0 : Z.cell? ⟨gb, 0, none⟩ = some m0 := QB.out.cell 0
      have z1 : Z.cell? ⟨gb, 1, none⟩ = some m1 := QB.out.cell 1
      have z2 : Z.cell? ⟨gb, 2, none⟩ = some (.slice B2 n2 d2) := QB.out.cell 2
      have z3 : Z.cell? ⟨gb, 3, none⟩ = some (.slice B3 n3 d3) := QB.out.cell 3
      have z4 : Z.cell? ⟨gb, 4, none⟩ = some (.slice B4 n4 d4) := QB.out.cell 4
      have z5 : Z.cell? ⟨gb, 5, none⟩ = some (.slice B5 n5 d5) := QB.out.cell 5
      have z6 : Z.cell? ⟨gb, 6, none⟩ = some (.slice B6 n6 d6) := QB.out.cell 6
      go_wp2_with (first | (with_reducible refine wpList_store_tab rfl (.tmp 8) (.tmp 178) rfl g8 _ _ _ _ _ _ _ rfl rfl _ H8S.out ?s1 ?s2 ?_))
      case s1 => rfl
      case s2 =>
        simp [o0, o1, show ∀ A n c, Value.oneCell' (.slice A n c) = true from fun _ _ _ => rfl]
      exact bodyPost_ret (results_cell0 Tryd.results4 _ _ ⟨g8, 0, none⟩ _ rfl (load_tab Z g8 _ _ _ _ _ _ _ _ H8S.out)) rfl ⟨_, rfl, QT.out _, HFB.out _⟩
end Go.Proofs.YtjnnohghgkjhcaaDoor
