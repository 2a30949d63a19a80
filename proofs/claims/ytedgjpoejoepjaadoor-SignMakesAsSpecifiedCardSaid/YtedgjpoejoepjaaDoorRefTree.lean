/-
  The reference's levels, Public, by contract. By program (gen_levels.py).
-/
import Derived.Test.YtedgjpoejoepjaaDoorRefLeaf
import Derived.Laws.OwnMore
import Derived.Great.BuildSlice
namespace Go.Proofs.YtedgjpoejoepjaaDoor
open Go.RowKit
set_option linter.unusedVariables false
set_option linter.unusedSimpArgs false

theorem foldl_put (l : List Value) : ∀ (k : Nat) (A : Array Value), k + l.length ≤ A.size → ∀ i : Nat,
    ((l.zipIdx k).foldl (fun cs (x : Value × Nat) => cs.setIfInBounds (0 + x.2) x.1) A)[i]? = if k ≤ i ∧ i < k + l.length then l[i - k]? else A[i]? := by
  induction l with
  | nil => intro k A _ i; rw [if_neg (by simp)]; rfl
  | cons v r ih =>
    intro k A h i
    rw [List.length_cons] at h
    rw [List.zipIdx_cons, List.foldl_cons, ih (k + 1) _ (by simp; omega) i, List.length_cons]
    by_cases h1 : k + 1 ≤ i ∧ i < k + 1 + r.length
    · rw [if_pos h1, if_pos (by omega), show i - k = (i - (k + 1)) + 1 by omega, List.getElem?_cons_succ]
    · rw [if_neg h1]
      simp only [Nat.zero_add]
      rw [Array.getElem?_setIfInBounds]
      by_cases h2 : k = i
      · subst h2
        rw [if_pos rfl, if_pos (by omega), if_pos (by omega), Nat.sub_self]
        rfl
      · rw [if_neg h2, if_neg (by omega)]
theorem fill_one (cs : List Value) (Z : Array Value) (n : Nat) (h : cs.length = n) (hZ : Z.size = n) : Instr.fill (fun i => some (i * n, n)) Z [(0, .agg cs.toArray)] = some cs.toArray := by
  unfold Instr.fill
  simp only [Nat.zero_mul, Value.cells]
  rw [if_neg (by simp [h, hZ])]
  unfold Instr.fill
  congr 1
  apply Array.ext_getElem?
  intro i
  have := foldl_put cs 0 Z (by omega) i
  rw [← Array.foldl_toList, Array.toList_zipIdx]
  refine this.trans ?_
  by_cases hi : i < cs.length
  · rw [if_pos (by omega), Nat.sub_zero, List.getElem?_toArray]
  · rw [if_neg (by omega), Array.getElem?_eq_none (by omega), Array.getElem?_eq_none (by simp; omega)]

theorem wpList_buildOne {P : Program} {ops : Array Oper} {rest : List Oper} {o : Oper} {a : Act} {w : World} {Q : Exit → Act → World → Prop} (hg : o.guard = none) (t e : TypeId) (x : Operand) (ho : o.op = .buildSlice t 1 #[(0, x)])
    (cs : List Value) (n : Nat) (hx : a.eval x = .agg cs.toArray) (hl : cs.length = n) (hn : 0 < n) (hn2 : n ≤ 1000) (ie : TypeInfo) (z : Value)
    (hu : P.underlying t = some (.slice e)) (hie : P.info? e = some ie) (hz : ie.zero = some z) (hsz : ie.size = n)
    (h : wpList P ops Q rest (a.put o.dst (.slice (some ⟨w.heap.size, 0, none⟩) 1 1)) (w.alloc (.cells cs.toArray e))) : wpList P ops Q (o :: rest) a w := by
  refine wpList_buildSlice hg t e 1 #[(0, x)] ho cs.toArray ie z hu hie hz (by rw [hsz]; omega) (by rw [hsz]; omega) ?_ h
  rw [hsz]
  have : ((#[(0, x)] : Array (Nat × Operand)).map fun (i, x) => (i, a.eval x)).toList = [(0, .agg cs.toArray)] := by simp [hx]
  rw [this]
  exact fill_one cs _ n hl (by simp)
theorem reads_newN (w : World) (cs : List Value) (t : TypeId) (n : Nat) (h : cs.length = n) : Reads (w.alloc (.cells cs.toArray t)) (w.alloc (.cells cs.toArray t)).heap.size n (some ⟨w.heap.size, 0, none⟩) 1 cs := by
  refine ⟨by omega, fun _ => ⟨_, rfl, by simp, fun j u hj => ?_⟩⟩
  rw [show ((⟨w.heap.size, 0, none⟩ : Addr).add j) = ⟨w.heap.size, j, none⟩ by simp [Addr.add]; intro h; omega]
  rw [(Blk.new w t cs.toArray).cell]
  simpa using hj
theorem wp_buildOne {P : Program} {o : Oper} {a : Act} {w : World} {K : Act → World → Prop} {Q : Exit → Act → World → Prop} (t e : TypeId) (x : Operand) (ho : o.op = .buildSlice t 1 #[(0, x)])
    (cs : List Value) (n : Nat) (hx : a.eval x = .agg cs.toArray) (hl : cs.length = n) (hn : 0 < n) (hn2 : n ≤ 1000) (ie : TypeInfo) (z : Value)
    (hu : P.underlying t = some (.slice e)) (hie : P.info? e = some ie) (hz : ie.zero = some z) (hsz : ie.size = n)
    (h : K (a.put o.dst (.slice (some ⟨w.heap.size, 0, none⟩) 1 1)) (w.alloc (.cells cs.toArray e))) : o.wp P a w K Q := by
  refine wp_buildSlice t e 1 #[(0, x)] ho cs.toArray ie z hu hie hz (by rw [hsz]; omega) (by rw [hsz]; omega) ?_ h
  rw [hsz]
  have : ((#[(0, x)] : Array (Nat × Operand)).map fun (i, x) => (i, a.eval x)).toList = [(0, .agg cs.toArray)] := by simp [hx]
  rw [this]
  exact fill_one cs _ n hl (by simp)
theorem own_own_ne {w : World} {b1 b2 size1 size2 n1 n2 : Nat} {e1 e2 : TypeId} {v1 v2 : Value} {xs1 xs2 : List Value} (h1 : w.ownsRow b1 e1 size1 v1 n1 xs1) (h2 : w.ownsRow b2 e2 size2 v2 n2 xs2) (hne : e1 ≠ e2) : v1.ownBlock = none ∨ v1.ownBlock ≠ v2.ownBlock := by
  rcases h1.2 with ⟨rfl, _⟩ | ⟨g1, c1, cur1, rfl, _, hh1, _⟩
  · exact .inl rfl
  · refine .inr fun he => ?_
    rcases h2.2 with ⟨rfl, _⟩ | ⟨g2, c2, cur2, rfl, _, hh2, _⟩
    · simp [Value.ownBlock] at he
    · have hg : g1 = g2 := by simpa [Value.ownBlock] using he
      subst hg
      rw [hh1] at hh2
      injection hh2 with hh2
      injection hh2 with _ ht
      exact hne ht
theorem own_range {w : World} {b g n c : Nat} {f : Nat → List UInt8} (h : w.ownsRow b 23 16 (.slice (some ⟨g, 0, none⟩) n c) n (BV (Sg.cat n f))) (hl : ∀ k, (f k).length = 16) (k : Nat) (hk : k < n) : w.rangeAt g (k * 16) (BV (f k)) := fun j v hj => by
  have hj16 : j < 16 := by
    rcases Nat.lt_or_ge j 16 with h | h
    · exact h
    · rw [List.getElem?_eq_none (by rw [BV_len, hl]; exact h)] at hj; cases hj
  rw [h.cellAt (k * 16 + j) (by omega), ← hj]
  obtain ⟨m, rfl⟩ := Nat.le.dest hk
  have hc := Sg.cat_len f k (fun k _ => hl k)
  rw [show k.succ + m = k + 1 + m from rfl, Sg.cat_add, Sg.cat_succ, BV_append, BV_append, List.append_assoc, List.getElem?_append_right (by rw [BV_len, hc]; omega), BV_len, hc, List.getElem?_append_left (by rw [BV_len, hl]; omega)]
  congr 1
  omega
/-- the levels of a tree up to one of them -/
structure TreeAt (w : World) (base : Nat) (v : Value) (l h : Nat) (s : List UInt8) (R : Nat → Value) : Prop where
  out : w.ownsRow base 45 1 v (l + 1) ((List.range (l + 1)).map R)
  row : ∀ j, j ≤ l → w.ownsRow base 23 16 (R j) (2 ^ (h - j)) (BV (Sg.cat (2 ^ (h - j)) fun k => Sg.node s j k))
section
variable {w w' : World} {base l h : Nat} {v : Value} {s : List UInt8} {R : Nat → Value}
theorem TreeAt.below (t : TreeAt w base v l h s R) (hb : Below w.heap.size w w') : TreeAt w' base v l h s R := ⟨own_below t.out hb, fun j hj => own_below (t.row j hj) hb⟩
theorem TreeAt.form (t : TreeAt w base v l h s R) : ∃ ob cap, v = .slice (some ⟨ob, 0, none⟩) (l + 1) cap ∧ ob < w.heap.size ∧ ∀ j, j ≤ l → w.cell? ⟨ob, j, none⟩ = some (R j) := by
  have t0 := t.out
  rcases t0.2 with ⟨_, h0⟩ | ⟨g, cap, cur, rfl, hb, hg, _⟩
  · omega
  · refine ⟨g, cap, rfl, (Array.getElem?_eq_some_iff.1 hg).1, fun j hj => ?_⟩
    rw [t0.cellAt j (by omega), List.getElem?_map, List.getElem?_range (by omega)]
    rfl
theorem TreeAt.rowForm (t : TreeAt w base v l h s R) (j : Nat) (hj : j ≤ l) : ∃ g c, R j = .slice (some ⟨g, 0, none⟩) (2 ^ (h - j)) c ∧ g < w.heap.size ∧ ∀ k, k < 2 ^ (h - j) → w.rangeAt g (k * 16) (BV (Sg.node s j k)) := by
  have t0 := t.row j hj
  have hp : 1 ≤ 2 ^ (h - j) := Nat.one_le_two_pow
  generalize hR : R j = r at *
  rcases t0.2 with ⟨_, h0⟩ | ⟨g, cap, cur, rfl, hb, hg, _⟩
  · omega
  · exact ⟨g, cap, rfl, (Array.getElem?_eq_some_iff.1 hg).1, fun k hk => own_range t0 (fun k => Sg.node_len s j k) k hk⟩
theorem TreeAt.push (t : TreeAt w base v l h s R) (nx : Value) (hn : w.ownsRow base 23 16 nx (2 ^ (h - (l + 1))) (BV (Sg.cat (2 ^ (h - (l + 1))) fun k => Sg.node s (l + 1) k))) {v' : Value}
    (ho : w'.ownsRow base 45 1 v' (l + 1 + 1) ((List.range (l + 1)).map R ++ [nx])) (hg : w.grownBy w' v.ownBlock) : TreeAt w' base v' (l + 1) h s (fun j => if j = l + 1 then nx else R j) := by
  refine ⟨?_, fun j hj => ?_⟩
  · rw [List.range_succ, List.map_append]
    have e : (List.range (l + 1)).map (fun j => if j = l + 1 then nx else R j) = (List.range (l + 1)).map R := by
      apply List.map_congr_left
      intro a ha
      rw [if_neg (by have := List.mem_range.1 ha; omega)]
    rw [e]
    simpa using ho
  · by_cases hjl : j = l + 1
    · subst hjl
      simp only [if_true]
      exact hn.kept hg (own_own_ne hn t.out (by decide))
    · simp only [if_neg hjl]
      exact (t.row j (by omega)).kept hg (own_own_ne (t.row j (by omega)) t.out (by decide))
end
theorem rowInfo : (Tryd.prog.info? 45).map (fun i => (i.zero, i.size, i.bytes)) = some (some (.slice none 0 0), 1, 24) := by kernel_rfl

set_option maxHeartbeats 1000000 in
set_option maxRecDepth 100000 in
theorem refLevels_any (s : List UInt8) (h : Nat) (w : World) (hs : s.length = 32) (hh : h ≤ 6) (hK : RKLaid w) :
    Calls Tryd.prog 24 #[.string (S s), .int .i64 (h : Int)] w fun e w' => ∃ v R, e = .returned v ∧ TreeAt w' w.heap.size v h h s R ∧ Below w.heap.size w w' := by
  obtain ⟨i0, hi, hz0, hz1, hz2⟩ := info_parts DigInfo
  obtain ⟨i1, hi1, hy0, hy1, hy2⟩ := info_parts rowInfo
  have HI := hide hi
  have HZ0 := hide hz0
  have HZ1 := hide hz1
  have HZ2 := hide hz2
  have HI1 := hide hi1
  have HY0 := hide hy0
  have HY1 := hide hy1
  have HY2 := hide hy2
  have HS := hide hs
  have HH := hide hh
  have HK := hide hK
  have hw : wrap64 (2 ^ h) = ((2 ^ h : Nat) : Int) := by
    have H : ∀ h : Fin 7, wrap64 (2 ^ h.val) = ((2 ^ h.val : Nat) : Int) := by decide +kernel
    exact H ⟨h, by omega⟩
  obtain ⟨P, hP⟩ : ∃ P : Nat, P = 2 ^ h := ⟨_, rfl⟩
  have hP64 : P ≤ 64 := by rw [hP]; exact show 2 ^ h ≤ 2 ^ 6 from Nat.pow_le_pow_right (by omega) hh
  have HP := hide hP
  rw [← hP] at hw
  have hh0 : (0 : Int) ≤ (h : Int) := by omega
  have hh6 : (h : Int) ≤ 6 := by omega
  clear hi hz0 hz1 hz2 hi1 hy0 hy1 hy2 hs hK hP
  go_enter Tryd.func24, Tryd.ntmps24
  go_upto_region 3 with fail
  go_loopw [5, 6] (fun s5 s6 wr => ∃ k : Nat, k ≤ P ∧ s6 = .int .i64 (k : Int) ∧ wr.ownsRow w.heap.size 23 16 s5 k (BV (Sg.cat k fun k => Sg.node s 0 k)) ∧ Below w.heap.size w wr) (fun _ s6 _ => P - (intOf s6).toNat)
  case atStart => exact ⟨0, by omega, rfl, World.ownsRow_nil _ _ _ _, Below.refl _ _⟩
  case round =>
    obtain ⟨k, hk, rfl, hown, hbel⟩ := hrel
    obtain ⟨wd, rfl⟩ : ∃ wd, wd = wr := ⟨wr, rfl⟩
    have HB := hide hbel
    have HO := hide hown
    have hsz := hbel.size
    by_cases hlt : k < P
    · have CL := hide (fun (W : World) hK => refLeaf_any s k W HS.out (by omega) hK)
      have hnl : (Sg.node s 0 k).length = 16 := Sg.node_len s 0 k
      have hcat2 : Sg.cat (k + 1) (fun k => Sg.node s 0 k) = Sg.cat k (fun k => Sg.node s 0 k) ++ Sg.node s 0 k := Sg.cat_succ k fun k => Sg.node s 0 k
      have hcl : (BV (Sg.node s 0 k)).length = 16 := by rw [BV_len, hnl]
      have hone := BV_one (Sg.node s 0 k)
      generalize hvj : Sg.node s 0 k = vj at *
      have HCAT := hide hcat2
      have HCL := hide hcl
      have H1 := hide hone
      have HLT := hide hlt
      have htest : (k : Int) < (P : Int) := by omega
      clear hcat2 hvj hcl hone hlt hown hbel
      generalize Sg.cat k (fun k => Sg.node s 0 k) = cur at *
      go_wp2_with (first
        | (go_at_call 46; (with_reducible refine (unhide CL wd (HK.out.below HB.out (Nat.le_refl _))).mono ?_); rintro e x1 ⟨rfl, hb1⟩; have X1 := hide hb1; have HO1 := hide (own_below HO.out hb1); have hx1 := hb1.size; clear hb1)
        | (with_reducible refine wpList_buildOne rfl 45 23 (.tmp 20) rfl (BV vj) 16 rfl HCL.out (by omega) (by omega) i0 _ Tryd.underlying45 HI.out HZ0.out HZ1.out ?_)
        | (at_builtin; refine wpList_append_any _ rfl (.tmp 17) (.tmp 21) 45 rfl w.heap.size 23 i0 _ 16 16 Tryd.underlying45 HI.out HZ0.out HZ1.out HZ2.out rfl (by omega) _ k (BV cur) rfl (HO1.out.alloc _) _ (some ⟨x1.heap.size, 0, none⟩) 1 1 (BV vj) rfl (reads_newN x1 (BV vj) 23 16 HCL.out) H1.out (by unfold maxLen; omega) (by omega) (by simp; omega) ?_; intro v6 w6 hown6 hgrow6 hat6; have HO6 := hide hown6; have HB6 := hide ((HB.out.trans ((below_alloc' x1 _ (Nat.le_refl _)).mono (Nat.le_trans hsz hx1) |> (X1.out.mono hsz).trans)).trans (below_grown hgrow6 (HO1.out.alloc _) (by simp; omega))); clear hown6 hgrow6 hat6))
      exact ⟨⟨k + 1, HLT.out, by go_num, by rw [HCAT.out, BV_append]; exact HO6.out, HB6.out⟩, by have := HLT.out; simp [intOf]; omega⟩
    · obtain rfl : k = P := by omega
      obtain ⟨A5, c5, rfl, _, _⟩ := own_slice hown
      clear hown hbel hlt
      go_upto_region 7 with fail
      refine name_world fun V hV => ?_
      have TV := hide (show TreeAt V w.heap.size (.slice (some ⟨wd.heap.size, 0, none⟩) 1 1) 0 h s (fun _ => .slice A5 k c5) from by
        rw [← hV.out]
        refine ⟨World.ownsRow_lit wd #[.slice A5 k c5] 1 hsz (by unfold maxLen; omega) rfl, fun j hj => ?_⟩
        obtain rfl : j = 0 := by omega
        rw [Nat.sub_zero, ← HP.out]
        exact HO.out.alloc _)
      have BV0 := hide (show Below w.heap.size w V by rw [← hV.out]; exact HB.out.alloc hsz _)
      clear hV HO HB hw
      go_upto_region 8 with fail
      go_loopw [7, 8] (fun s7 s8 wr => ∃ l : Nat, l ≤ h ∧ s8 = .int .i64 (l : Int) ∧ (∃ R, TreeAt wr w.heap.size s7 l h s R) ∧ Below w.heap.size w wr) (fun _ s8 _ => h - (intOf s8).toNat)
      case atStart => exact ⟨0, by omega, rfl, ⟨_, TV.out⟩, BV0.out⟩
      case round =>
        obtain ⟨l, hl, rfl, ⟨R, htr⟩, hbel⟩ := hrel
        obtain ⟨we, rfl⟩ : ∃ we, we = wr := ⟨wr, rfl⟩
        have T0 := hide htr
        have BE := hide hbel
        by_cases hlt : l < h
        · obtain ⟨ob, cap, rfl, hob, hcells⟩ := htr.form
          obtain ⟨g, c, hR, hg, hrange⟩ := htr.rowForm l (Nat.le_refl _)
          have hcell := hcells l (Nat.le_refl _)
          rw [hR] at hcell
          obtain ⟨q, hq⟩ : ∃ q : Nat, q = 2 ^ (h - (l + 1)) := ⟨_, rfl⟩
          have hpq : 2 ^ (h - l) = 2 * q := by rw [hq, show h - l = h - (l + 1) + 1 by omega, Nat.pow_succ, Nat.mul_comm]
          have hq64 : q ≤ 64 := by rw [hq]; exact show 2 ^ (h - (l + 1)) ≤ 2 ^ 6 from Nat.pow_le_pow_right (by omega) (by have := HH.out; omega)
          rw [hpq] at hcell hrange
          have HCELL := hide hcell
          have HRANGE := hide hrange
          have HQ := hide hq
          have HLT := hide hlt
          have htest : (l : Int) < (h : Int) := by omega
          have hes := hbel.size
          have hl16 : l + 1 ≤ 6 := by have := HH.out; omega
          have hl2 : l ≤ 6 := by omega
          have hl0 : (0 : Int) ≤ (l : Int) := by omega
          have hl1 : (l : Int) < ((l + 1 : Nat) : Int) := by omega
          generalize hpp : 2 * q = p at *
          have HPP := hide hpp
          generalize hlll : l + 1 = l1 at *
          have HL1 := hide hlll
          clear htr hbel hcells hR hcell hrange hq hlt hpq TV BV0 hpp hlll
          go_upto_region 12 with fail
          go_loopw [9, 10] (fun s9 s10 wr => ∃ k : Nat, k ≤ q ∧ s10 = .int .i64 ((2 * k : Nat) : Int) ∧ wr.ownsRow we.heap.size 23 16 s9 k (BV (Sg.cat k fun k => Sg.node s l1 k)) ∧ Below we.heap.size we wr) (fun _ s10 _ => p + 1 - (intOf s10).toNat)
          case atStart => exact ⟨0, by omega, rfl, World.ownsRow_nil _ _ _ _, Below.refl _ _⟩
          case round =>
            obtain ⟨k, hk, rfl, hown, hbel⟩ := hrel
            obtain ⟨wf, rfl⟩ : ∃ wf, wf = wr := ⟨wr, rfl⟩
            have BF := hide hbel
            have HO := hide hown
            have hfs := hbel.size
            have hcell : wf.cell? ⟨ob, l, none⟩ = some (.slice (some ⟨g, 0, none⟩) p c) := by rw [hbel.cell hob]; exact HCELL.out
            by_cases hlk : k < q
            · have hk2 : 2 * k + 1 < p := by rw [← HPP.out]; omega
              generalize ha : 2 * k = a at *
              obtain ⟨b, hb⟩ : ∃ b : Nat, a + 1 = b := ⟨_, rfl⟩
              have hbp : b < p := by omega
              have hp128 : p ≤ 128 := by have := HPP.out; omega
              have hra : we.rangeAt g (a * 16) (BV (Sg.node s l a)) := HRANGE.out a (by omega)
              have hrb : we.rangeAt g (b * 16) (BV (Sg.node s l b)) := HRANGE.out b hbp
              have hla : (Sg.node s l a).length = 16 := Sg.node_len _ _ _
              have hlb : (Sg.node s l b).length = 16 := Sg.node_len _ _ _
              have hjo : Sg.join (Sg.node s l a) (Sg.node s l b) = Sg.node s l1 k := by rw [← HL1.out, ← hb, ← ha]; rfl
              have CN := hide (fun (W : World) hK => refNode_any (Sg.node s l a) (Sg.node s l b) W hla hlb hK)
              rw [hjo] at CN
              have hnl : (Sg.node s l1 k).length = 16 := Sg.node_len _ _ _
              have hcat2 : Sg.cat (k + 1) (fun k => Sg.node s l1 k) = Sg.cat k (fun k => Sg.node s l1 k) ++ Sg.node s l1 k := Sg.cat_succ k fun k => Sg.node s l1 k
              have hcl : (BV (Sg.node s l1 k)).length = 16 := by rw [BV_len, hnl]
              have hone := BV_one (Sg.node s l1 k)
              generalize hvj : Sg.node s l1 k = vj at *
              have HCAT := hide hcat2
              have HCL := hide hcl
              have H1 := hide hone
              generalize Sg.node s l a = na at *
              generalize Sg.node s l b = nb at *
              have hwb : IntKind.i64.wrap ((a : Int) + 1) = (b : Int) := by rw [IntWalk.i64_in _ (by omega)]; omega
              have ha0 : (0 : Int) ≤ (a : Int) := by omega
              have hap : (a : Int) < (p : Int) := by omega
              have hb0 : (0 : Int) ≤ (b : Int) := by omega
              have hbp2 : (b : Int) < (p : Int) := by omega
              have HLK := hide hlk
              have HA := hide ha
              have hsa : Option.map (fun x => x.size) (Tryd.prog.info? 23) = some (BV na).length := by rw [BV_len, hla]; exact size16
              have hsb : Option.map (fun x => x.size) (Tryd.prog.info? 23) = some (BV nb).length := by rw [BV_len, hlb]; exact size16
              have hund := Tryd.underlying23
              have HT := hide (fun (W' : World) (hb : Below wf.heap.size wf W') => (show W'.cell? ⟨ob, l, none⟩ = some (.slice (some ⟨g, 0, none⟩) p c) ∧ W'.rangeAt g (a * 16) (BV na) ∧ W'.rangeAt g (b * 16) (BV nb) from
                have hb2 := BF.out.trans (hb.mono hfs)
                ⟨(hb2.cell hob).trans HCELL.out, fun j v hj => (hb2.cell (show (⟨g, a * 16 + j, none⟩ : Addr).block < we.heap.size from hg)).trans (hra j v hj), fun j v hj => (hb2.cell (show (⟨g, b * 16 + j, none⟩ : Addr).block < we.heap.size from hg)).trans (hrb j v hj)⟩))
              have HT2 := hide (fun (W' : World) (hb : Below we.heap.size we W') => (show W'.cell? ⟨ob, l, none⟩ = some (.slice (some ⟨g, 0, none⟩) p c) ∧ W'.rangeAt g (a * 16) (BV na) ∧ W'.rangeAt g (b * 16) (BV nb) from
                ⟨(hb.cell hob).trans HCELL.out, fun j v hj => (hb.cell (show (⟨g, a * 16 + j, none⟩ : Addr).block < we.heap.size from hg)).trans (hra j v hj), fun j v hj => (hb.cell (show (⟨g, b * 16 + j, none⟩ : Addr).block < we.heap.size from hg)).trans (hrb j v hj)⟩))
              have B0 := Below.refl wf.heap.size wf
              clear hlk hk2 ha hb hra hrb hcat2 hvj hcl hone hown hbel hjo hnl
              generalize Sg.cat k (fun k => Sg.node s l1 k) = cur at *
              go_upto_region 14 with fail
              refine wp_region_held_drew (S := fun w' => w'.cell? ⟨ob, l, none⟩ = some (.slice (some ⟨g, 0, none⟩) p c) ∧ w'.rangeAt g (a * 16) (BV na) ∧ w'.rangeAt g (b * 16) (BV nb)) (by kernel_rfl) (unhide HT _ B0.drew) (fun hHeld => ?_)
              refine wpAnyH_take (i := 0) (oi := { dst := some 40, op := _, type := _, pos := _, after := _, guard := _ }) (v := ?_) rfl (by kernel_rfl) (by kernel_rfl) (by kernel_rfl) (fun _ _ _ h => h) (Or.inl ⟨by rfl, ?_⟩) hHeld ?_
              rotate_left
              · intro w hSw
                (try dsimp only at hSw)
                go_simp
                try with_reducible rfl
              simp only [Act.put, List.setIfInBounds_toArray, List.set_cons_zero, List.set_cons_succ]
              refine wpAnyH_take (i := 1) (oi := { dst := some 41, op := _, type := _, pos := _, after := _, guard := _ }) (v := ?_) rfl (by kernel_rfl) (by kernel_rfl) (by kernel_rfl) (fun _ _ _ h => h) (Or.inl ⟨by rfl, ?_⟩) hHeld ?_
              rotate_left
              · intro w hSw
                (try dsimp only at hSw)
                go_simp
                try with_reducible rfl
              simp only [Act.put, List.setIfInBounds_toArray, List.set_cons_zero, List.set_cons_succ]
              refine wpAnyH_take (i := 2) (oi := { dst := some 42, op := _, type := _, pos := _, after := _, guard := _ }) (v := ?_) rfl (by kernel_rfl) (by kernel_rfl) (by kernel_rfl) (fun _ _ _ h => h) (Or.inl ⟨by rfl, ?_⟩) hHeld ?_
              rotate_left
              · intro w hSw
                (try dsimp only at hSw)
                go_simp
                try with_reducible rfl
              simp only [Act.put, List.setIfInBounds_toArray, List.set_cons_zero, List.set_cons_succ]
              refine wpAnyH_take (i := 3) (oi := { dst := some 43, op := _, type := _, pos := _, after := _, guard := _ }) (v := ?_) rfl (by kernel_rfl) (by kernel_rfl) (by kernel_rfl) (fun _ _ _ h => h) (Or.inl ⟨by rfl, ?_⟩) hHeld ?_
              rotate_left
              · intro w hSw
                (try dsimp only at hSw)
                go_simp
                try with_reducible rfl
              simp only [Act.put, List.setIfInBounds_toArray, List.set_cons_zero, List.set_cons_succ]
              refine wpAnyH_take (i := 4) (oi := { dst := some 44, op := _, type := _, pos := _, after := _, guard := _ }) (v := ?_) rfl (by kernel_rfl) (by kernel_rfl) (by kernel_rfl) (fun _ _ _ h => h) (Or.inl ⟨by rfl, ?_⟩) hHeld ?_
              rotate_left
              · intro w hSw
                (try dsimp only at hSw)
                go_simp
                try with_reducible rfl
              simp only [Act.put, List.setIfInBounds_toArray, List.set_cons_zero, List.set_cons_succ]
              refine wpAnyH_take (i := 5) (oi := { dst := some 45, op := _, type := _, pos := _, after := _, guard := _ }) (v := ?_) rfl (by kernel_rfl) (by kernel_rfl) (by kernel_rfl) (fun _ _ _ h => h) (Or.inl ⟨by rfl, ?_⟩) hHeld ?_
              rotate_left
              · intro w hSw
                (try dsimp only at hSw)
                go_simp
                try with_reducible rfl
              simp only [Act.put, List.setIfInBounds_toArray, List.set_cons_zero, List.set_cons_succ]
              refine wpAnyH_take (i := 6) (oi := { dst := some 46, op := _, type := _, pos := _, after := _, guard := _ }) (v := ?_) rfl (by kernel_rfl) (by kernel_rfl) (by kernel_rfl) (fun _ _ _ h => h) (Or.inl ⟨by rfl, ?_⟩) hHeld ?_
              rotate_left
              · intro w hSw
                (try dsimp only at hSw)
                go_simp
                try with_reducible rfl
              simp only [Act.put, List.setIfInBounds_toArray, List.set_cons_zero, List.set_cons_succ]
              refine wpAnyH_take (i := 7) (oi := { dst := some 47, op := .load 23 (.tmp 46), type := 23, pos := _, after := _, guard := none }) rfl (by kernel_rfl) (by kernel_rfl) (by kernel_rfl) (fun _ _ _ h => h) (yieldsIf_load_mid (by rfl) _ _ rfl _ _ rfl (BV na) _ (fun w hw => hw.2.1) hund rfl hsa) hHeld ?_
              simp only [Act.put, List.setIfInBounds_toArray, List.set_cons_zero, List.set_cons_succ]
              refine wpAnyH_take (i := 8) (oi := { dst := some 48, op := _, type := _, pos := _, after := _, guard := _ }) (v := ?_) rfl (by kernel_rfl) (by kernel_rfl) (by kernel_rfl) (fun _ _ _ h => h) (Or.inl ⟨by rfl, ?_⟩) hHeld ?_
              rotate_left
              · intro w hSw
                (try dsimp only at hSw)
                go_simp
                try with_reducible rfl
              simp only [Act.put, List.setIfInBounds_toArray, List.set_cons_zero, List.set_cons_succ]
              refine wpAnyH_take (i := 9) (oi := { dst := some 49, op := _, type := _, pos := _, after := _, guard := _ }) (v := ?_) rfl (by kernel_rfl) (by kernel_rfl) (by kernel_rfl) (fun _ _ _ h => h) (Or.inl ⟨by rfl, ?_⟩) hHeld ?_
              rotate_left
              · intro w hSw
                (try dsimp only at hSw)
                go_simp
                try with_reducible rfl
              simp only [Act.put, List.setIfInBounds_toArray, List.set_cons_zero, List.set_cons_succ]
              refine wpAnyH_take (i := 10) (oi := { dst := some 50, op := _, type := _, pos := _, after := _, guard := _ }) (v := ?_) rfl (by kernel_rfl) (by kernel_rfl) (by kernel_rfl) (fun _ _ _ h => h) (Or.inl ⟨by rfl, ?_⟩) hHeld ?_
              rotate_left
              · intro w hSw
                (try dsimp only at hSw)
                go_simp
                try with_reducible rfl
              simp only [Act.put, List.setIfInBounds_toArray, List.set_cons_zero, List.set_cons_succ]
              refine wpAnyH_take (i := 11) (oi := { dst := some 51, op := _, type := _, pos := _, after := _, guard := _ }) (v := ?_) rfl (by kernel_rfl) (by kernel_rfl) (by kernel_rfl) (fun _ _ _ h => h) (Or.inl ⟨by rfl, ?_⟩) hHeld ?_
              rotate_left
              · intro w hSw
                (try dsimp only at hSw)
                go_simp
                try with_reducible rfl
              simp only [Act.put, List.setIfInBounds_toArray, List.set_cons_zero, List.set_cons_succ]
              refine wpAnyH_take (i := 12) (oi := { dst := some 52, op := _, type := _, pos := _, after := _, guard := _ }) (v := ?_) rfl (by kernel_rfl) (by kernel_rfl) (by kernel_rfl) (fun _ _ _ h => h) (Or.inl ⟨by rfl, ?_⟩) hHeld ?_
              rotate_left
              · intro w hSw
                (try dsimp only at hSw)
                go_simp
                try with_reducible rfl
              simp only [Act.put, List.setIfInBounds_toArray, List.set_cons_zero, List.set_cons_succ]
              refine wpAnyH_take (i := 13) (oi := { dst := some 53, op := _, type := _, pos := _, after := _, guard := _ }) (v := ?_) rfl (by kernel_rfl) (by kernel_rfl) (by kernel_rfl) (fun _ _ _ h => h) (Or.inl ⟨by rfl, ?_⟩) hHeld ?_
              rotate_left
              · intro w hSw
                (try dsimp only at hSw)
                go_simp
                try with_reducible rfl
              simp only [Act.put, List.setIfInBounds_toArray, List.set_cons_zero, List.set_cons_succ]
              refine wpAnyH_take (i := 14) (oi := { dst := some 54, op := _, type := _, pos := _, after := _, guard := _ }) (v := ?_) rfl (by kernel_rfl) (by kernel_rfl) (by kernel_rfl) (fun _ _ _ h => h) (Or.inl ⟨by rfl, ?_⟩) hHeld ?_
              rotate_left
              · intro w hSw
                (try dsimp only at hSw)
                go_simp
                try with_reducible rfl
              simp only [Act.put, List.setIfInBounds_toArray, List.set_cons_zero, List.set_cons_succ]
              refine wpAnyH_take (i := 15) (oi := { dst := some 55, op := .load 23 (.tmp 54), type := 23, pos := _, after := _, guard := none }) rfl (by kernel_rfl) (by kernel_rfl) (by kernel_rfl) (fun _ _ _ h => h) (yieldsIf_load_mid (by rfl) _ _ rfl _ _ rfl (BV nb) _ (fun w hw => hw.2.2) hund rfl hsb) hHeld ?_
              simp only [Act.put, List.setIfInBounds_toArray, List.set_cons_zero, List.set_cons_succ]
              refine wpAnyH_ready (rs := [16]) (by kernel_rfl) (by simp) ?_
              refine AllReadyH.cons (o := { dst := some 56, op := _, type := _, pos := _, after := _, guard := _ }) rfl (fun K hK => ?_) AllReadyH.nil
              go_simp
              go_wp2_with (go_at_call 43; (with_reducible refine (unhide CN wf.drew (HK.out.below (BE.out.trans ((BF.out.drew).mono hes)) (Nat.le_refl _))).mono ?_); rintro e x1 ⟨rfl, hb1⟩; have hX1 : Below wf.heap.size wf x1 := from_here B0.drew hb1)
              refine hK.out _ _ (unhide HT _ hX1) (fun hHeld2 => ?_)
              clear hK K hHeld
              have hHeld := hHeld2
              clear hHeld2
              refine wpAnyH_ready (rs := [17]) (by kernel_rfl) (by simp) ?_
              refine AllReadyH.cons (o := { dst := some 57, op := _, type := _, pos := _, after := _, guard := _ }) rfl (fun K hK => ?_) AllReadyH.nil
              rw [if_pos (by rfl)]
              refine wp_buildOne 45 23 (.tmp 56) rfl (BV vj) 16 rfl HCL.out (by omega) (by omega) i0 _ Tryd.underlying45 HI.out HZ0.out HZ1.out ?_
              simp only [Act.put, List.setIfInBounds_toArray, List.set_cons_zero, List.set_cons_succ]
              refine hK.out _ _ (unhide HT _ (hX1.alloc hX1.size _)) (fun hHeld2 => ?_)
              clear hK K hHeld
              have hHeld := hHeld2
              clear hHeld2
              have HO1 := hide (own_below HO.out hX1)
              refine wpAnyH_ready (rs := [18]) (by kernel_rfl) (by simp) ?_
              refine AllReadyH.cons (o := { dst := some 58, op := _, type := _, pos := _, after := _, guard := _ }) rfl (fun K hK => ?_) AllReadyH.nil
              refine step_append_any _ rfl (.tmp 40) (.tmp 57) 45 rfl we.heap.size 23 i0 _ 16 16 Tryd.underlying45 HI.out HZ0.out HZ1.out HZ2.out rfl (by omega) _ k (BV cur) rfl (HO1.out.alloc _) _ (some ⟨x1.heap.size, 0, none⟩) 1 1 (BV vj) rfl (reads_newN x1 (BV vj) 23 16 HCL.out) H1.out (by unfold maxLen; omega) (by omega) (by have := hX1.size; simp; omega) ?_
              intro v6 w6 hown6 hgrow6 hat6
              have hX6 := hide (show Below we.heap.size we w6 from (BF.out.trans ((hX1.alloc hX1.size _).mono hfs)).trans (below_grown hgrow6 (HO1.out.alloc _) (by have := hX1.size; simp; omega)))
              have HO6 := hide hown6
              simp only [Act.put, List.setIfInBounds_toArray, List.set_cons_zero, List.set_cons_succ]
              refine hK.out _ _ (unhide HT2 _ hX6.out) (fun hHeld2 => ?_)
              clear hK K hHeld
              have hHeld := hHeld2
              clear hHeld2
              refine wpAnyH_ready (rs := [19]) (by kernel_rfl) (by simp) ?_
              refine AllReadyH.cons (o := { dst := some 9, op := _, type := _, pos := _, after := _, guard := _ }) rfl (fun K hK => ?_) AllReadyH.nil
              go_simp
              refine hK.out _ _ (unhide HT2 _ hX6.out) (fun hHeld2 => ?_)
              clear hK K hHeld hHeld2
              refine wpAnyH_done (by kernel_rfl) ?_ _
              clear hown6 hgrow6 hat6 hund hsa hsb
              go_wp2
              exact ⟨⟨k + 1, by have := HLK.out; omega, by rw [← HA.out]; go_num, by rw [HCAT.out, BV_append]; exact HO6.out, hX6.out⟩, by have := HLK.out; have := HA.out; have := HPP.out; simp [intOf]; omega⟩
            · obtain rfl : k = q := by omega
              have hnt : ¬ (2 * k + 1 < p) := by rw [← HPP.out]; omega
              have hnt3 : ¬ (2 * (k : Int) + 1 < (p : Int)) := by omega
              obtain ⟨A9, c9, rfl, _, _⟩ := own_slice hown
              have TF := hide (T0.out.below BF.out)
              have HN := hide (own_lower HO.out hes)
              have BW := hide (BE.out.trans (BF.out.mono hes))
              have HOUT := hide (show wf.ownsRow w.heap.size 45 1 (.slice (some ⟨ob, 0, none⟩) l1 cap) l1 ((List.range l1).map R) by have := TF.out.out; rw [HL1.out] at this; exact this)
              clear hnt hown hbel hlk
              go_wp2_with (at_builtin; refine wpList_append_any _ rfl (.tmp 59) (.tmp 61) 48 rfl w.heap.size 45 i1 (.slice none 0 0) 1 24 Tryd.underlying48 HI1.out HY0.out HY1.out HY2.out rfl (by omega) _ l1 ((List.range l1).map R) rfl (HOUT.out.alloc _) _ (some ⟨wf.heap.size, 0, none⟩) 1 1 [.slice A9 k c9] rfl (reads_new wf _ _) (by simp [Value.oneCell']) (by unfold maxLen; omega) (by omega) (by simp; omega) ?_; intro v6 w6 hown6 hgrow6 hat6)
              have TP := hide (show TreeAt w6 w.heap.size v6 l1 h s (fun j => if j = l1 then .slice A9 k c9 else R j) from by
                have t1 := TF.out.below (below_alloc wf (.cells #[.slice A9 k c9] 45))
                have n1 : (wf.alloc (.cells #[.slice A9 k c9] 45)).ownsRow w.heap.size 23 16 (.slice A9 k c9) (2 ^ (h - (l + 1))) (BV (Sg.cat (2 ^ (h - (l + 1))) fun k => Sg.node s (l + 1) k)) := by
                  rw [HL1.out, ← HQ.out]
                  exact HN.out.alloc _
                have h1 := hown6
                rw [← HL1.out] at h1
                have t2 := t1.push _ n1 h1 hgrow6
                rw [HL1.out] at t2
                exact t2)
              have HB6 := hide (show Below w.heap.size w w6 from (below_alloc' wf _ BW.out.size |> BW.out.trans).trans (below_grown hgrow6 (HOUT.out.alloc _) (by have := BW.out.size; simp; omega)))
              clear hown6 hgrow6 hat6
              go_wp2
              exact ⟨⟨l1, by have := HL1.out; have := HLT.out; omega, by rw [← HL1.out]; go_num, ⟨_, TP.out⟩, HB6.out⟩, by have := HL1.out; have := HLT.out; simp [intOf]; omega⟩
        · obtain rfl : l = h := by omega
          have hnt : ¬ ((l : Int) < (l : Int)) := by omega
          clear htr hbel hlt TV BV0
          go_wp2
          go_ret
          exact ⟨_, rfl, ⟨R, T0.out⟩, BE.out⟩
end Go.Proofs.YtedgjpoejoepjaaDoor
