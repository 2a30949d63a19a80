/-
  The recursive function literal of tree, by contract.
-/
import Derived.Test.YtedgjpoejoepjaaDoorLeaf
namespace Go.Proofs.YtedgjpoejoepjaaDoor
open Go.RowKit
set_option linter.unusedVariables false
set_option linter.unusedSimpArgs false

namespace Sg
theorem cat_add (f : Nat → List UInt8) (a : Nat) : ∀ m, cat (a + m) f = cat a f ++ cat m (fun j => f (a + j))
  | 0 => by simp [cat_zero]
  | m + 1 => by rw [show a + (m + 1) = (a + m) + 1 by omega, cat_succ, cat_add f a m, cat_succ, List.append_assoc]
def upd (f : Nat → List UInt8) (l : Nat) (d : List UInt8) : Nat → List UInt8 := fun j => if j = l then d else f j
def put (s : List UInt8) (idx l i : Nat) (f : Nat → List UInt8) : Nat → List UInt8 := if i = sib (idx / 2 ^ l) then upd f l (node s l i) else f
def markIn (g : Nat → (Nat → List UInt8) → Nat → List UInt8) (i : Nat) (f : Nat → List UInt8) : Nat → List UInt8 := g (2 * i + 1) (g (2 * i) f)
def mark (s : List UInt8) (idx : Nat) : Nat → Nat → (Nat → List UInt8) → Nat → List UInt8
  | 0, i, f => put s idx 0 i f
  | l + 1, i, f => put s idx (l + 1) i (mark s idx l (2 * i + 1) (mark s idx l (2 * i) f))
theorem mark_is (s : List UInt8) (idx : Nat) : ∀ l i f j, mark s idx l i f j = if j ≤ l ∧ sib (idx / 2 ^ j) / 2 ^ (l - j) = i then node s j (sib (idx / 2 ^ j)) else f j
  | 0, i, f, j => by
    unfold mark put
    by_cases hj : j = 0
    · subst hj
      by_cases hi : i = sib (idx / 2 ^ 0)
      · rw [if_pos hi, if_pos (by simp; simpa using hi.symm)]
        unfold upd
        rw [if_pos rfl, hi]
      · rw [if_neg hi, if_neg (by simp; intro h; exact hi (by simpa using h.symm))]
    · have hn : ¬ (j ≤ 0 ∧ sib (idx / 2 ^ j) / 2 ^ (0 - j) = i) := fun h => hj (by omega)
      rw [if_neg hn]
      split
      · unfold upd; rw [if_neg hj]
      · rfl
  | l + 1, i, f, j => by
    have ih := mark_is s idx l
    unfold mark put
    by_cases hj : j = l + 1
    · subst hj
      by_cases hi : i = sib (idx / 2 ^ (l + 1))
      · rw [if_pos hi, if_pos ⟨Nat.le_refl _, by rw [Nat.sub_self, Nat.pow_zero, Nat.div_one]; exact hi.symm⟩]
        unfold upd
        rw [if_pos rfl, hi]
      · rw [if_neg hi, if_neg (by rw [Nat.sub_self, Nat.pow_zero, Nat.div_one]; intro h; exact hi h.2.symm), ih, if_neg (by omega), ih, if_neg (by omega)]
    · have hin : ∀ g : Nat → List UInt8, (if i = sib (idx / 2 ^ (l + 1)) then upd g (l + 1) (node s (l + 1) i) else g) j = g j := by
        intro g
        split
        · unfold upd; rw [if_neg hj]
        · rfl
      rw [hin, ih, ih]
      rcases Nat.lt_or_ge l j with hlj | hlj
      · have h1 : ¬ j ≤ l := by omega
        have h2 : ¬ j ≤ l + 1 := by omega
        simp only [h1, h2, false_and, if_false]
      · have e : sib (idx / 2 ^ j) / 2 ^ (l + 1 - j) = sib (idx / 2 ^ j) / 2 ^ (l - j) / 2 := by
          rw [show l + 1 - j = (l - j) + 1 by omega, Nat.pow_succ, Nat.div_div_eq_div_mul]
        rw [e]
        generalize sib (idx / 2 ^ j) / 2 ^ (l - j) = x
        by_cases h1 : x = 2 * i + 1
        · rw [if_pos ⟨hlj, h1⟩, if_pos ⟨by omega, by omega⟩]
        · rw [if_neg (fun h => h1 h.2)]
          by_cases h2 : x = 2 * i
          · rw [if_pos ⟨hlj, h2⟩, if_pos ⟨by omega, by omega⟩]
          · rw [if_neg (fun h => h2 h.2), if_neg (by omega)]
theorem mark_all (s : List UInt8) (idx h : Nat) (f : Nat → List UInt8) (hx : idx < 2 ^ h) (j : Nat) (hj : j < h) : mark s idx h 0 f j = node s j (sib (idx / 2 ^ j)) := by
  have h1 : idx / 2 ^ j < 2 ^ (h - j) := by
    rw [Nat.div_lt_iff_lt_mul (Nat.pow_pos (by omega)), ← Nat.pow_add, show h - j + j = h by omega]
    exact hx
  have h2 : 2 ^ (h - j) = 2 * 2 ^ (h - j - 1) := by rw [← Nat.pow_succ', show (h - j - 1).succ = h - j by omega]
  have h3 : sib (idx / 2 ^ j) < 2 ^ (h - j) := by
    generalize 2 ^ (h - j) = P at *
    generalize 2 ^ (h - j - 1) = Q at *
    generalize idx / 2 ^ j = x at *
    unfold sib
    split <;> omega
  rw [mark_is, if_pos ⟨by omega, Nat.div_eq_of_lt h3⟩]
theorem mark_len (s : List UInt8) (idx l i : Nat) (f : Nat → List UInt8) (hf : ∀ j, (f j).length = 16) (j : Nat) : (mark s idx l i f j).length = 16 := by
  rw [mark_is]
  split
  · exact node_len _ _ _
  · exact hf j
theorem put_len (s : List UInt8) (idx l i : Nat) (f : Nat → List UInt8) (hf : ∀ j, (f j).length = 16) (j : Nat) : (put s idx l i f j).length = 16 := by
  unfold put
  split
  · unfold upd; split; exact node_len _ _ _; exact hf j
  · exact hf j
end Sg

theorem xor_one (x : Nat) (hx : x < 64) : bits .xor .i64 (x : Int) 1 = ((Sg.sib x : Nat) : Int) := by
  have H : ∀ x : Fin 64, bits .xor .i64 ((x.val : Nat) : Int) 1 = ((Sg.sib x.val : Nat) : Int) := by decide +kernel
  exact H ⟨x, hx⟩
theorem node_test (i idx l : Nat) (hx : idx < 64) : ((i : Int) == bits .xor .i64 ((idx : Int) / 2 ^ l) 1) = decide (i = Sg.sib (idx / 2 ^ l)) := by
  have hq : (idx : Int) / 2 ^ l = ((idx / 2 ^ l : Nat) : Int) := by rw [Int.natCast_ediv, Int.natCast_pow]; rfl
  rw [hq, xor_one _ (Nat.lt_of_le_of_lt (Nat.div_le_self _ _) hx)]
  by_cases h : i = Sg.sib (idx / 2 ^ l)
  · rw [← h]; simp
  · rw [decide_eq_false h, beq_eq_false_iff_ne]; omega

/-- nothing but new blocks and the one block has changed -/
def Fr (g0 : Nat) (a w : World) : Prop := a.grownBy w (some g0)
section
variable {g0 : Nat} {a b c : World}
theorem Fr.refl (g0 : Nat) (a : World) : Fr g0 a a := World.grownBy.refl a _
theorem Fr.of_below (h : Below a.heap.size a b) : Fr g0 a b := only_of_below h _
theorem Fr.trans (h : Fr g0 a b) (k : Fr g0 b c) : Fr g0 a c := ⟨k.os.trans h.os, k.tape.trans h.tape, k.output.trans h.output, Nat.le_trans h.size k.size, fun i hi hne => (k.block i (Nat.lt_of_lt_of_le hi h.size) hne).trans (h.block i hi hne)⟩
theorem Fr.then_ (h : Fr g0 a b) (k : Below b.heap.size b c) : Fr g0 a c := h.trans (Fr.of_below k)
theorem Fr.dig {g : Nat} {d : List UInt8} (h : Fr g0 a b) (hd : Dig a g d) (hne : g ≠ g0) : Dig b g d := ⟨hd.1, hd.2.grown h (by simpa using hne)⟩
theorem Fr.blk {g : Nat} {t : TypeId} {cs : Array Value} (h : Fr g0 a b) (hd : Blk a g t cs) (hne : g ≠ g0) : Blk b g t cs := hd.grown h (by simpa using hne)
theorem Fr.below {B : Nat} {z : World} (h : Fr g0 a b) (hz : Below B z a) (hB : B ≤ a.heap.size) (hg : B ≤ g0) : Below B z b := hz.grown h hB (fun g hgg => by injection hgg with e; omega)
end

/-- the function value of the recursion -/
def nodeF (gs gn gi gb : Nat) : Value := .func (.func 44) #[] #[.pointer (some ⟨gs, 0, none⟩), .pointer (some ⟨gn, 0, none⟩), .pointer (some ⟨gi, 0, none⟩), .pointer (some ⟨gb, 0, none⟩)]
/-- the variables that the function literal captures -/
structure Env (w : World) (gs gn gi gb g0 idx h : Nat) (s : List UInt8) : Prop where
  seed : Blk w gs 9 #[.string (S s)]
  self : Blk w gn 70 #[nodeF gs gn gi gb]
  index : Blk w gi 3 #[.int .i64 (idx : Int)]
  beside : Blk w gb 45 #[.slice (some ⟨g0, 0, none⟩) h h]
  n1 : gs ≠ g0
  n2 : gn ≠ g0
  n3 : gi ≠ g0
  n4 : gb ≠ g0
theorem Env.fr {a b : World} {gs gn gi gb g0 idx h : Nat} {s : List UInt8} (e : Env a gs gn gi gb g0 idx h s) (k : Fr g0 a b) : Env b gs gn gi gb g0 idx h s :=
  ⟨k.blk e.seed e.n1, k.blk e.self e.n2, k.blk e.index e.n3, k.blk e.beside e.n4, e.n1, e.n2, e.n3, e.n4⟩
/-- the digests beside the way -/
def Bes (w : World) (g0 h : Nat) (f : Nat → List UInt8) : Prop := (∀ j, (f j).length = 16) ∧ Blk w g0 23 (BV (Sg.cat h f)).toArray
theorem Bes.below {a b : World} {g0 h B : Nat} {f : Nat → List UInt8} (e : Bes a g0 h f) (k : Below B a b) (hg : g0 < B) : Bes b g0 h f := ⟨e.1, e.2.below k hg⟩
theorem Bes.there {w : World} {g0 h : Nat} {f : Nat → List UInt8} (e : Bes w g0 h f) (l : Nat) (hl : l < h) : w.there g0 (l * 16) 16 := by
  have hc := Sg.cat_len f h (fun k _ => e.1 k)
  exact e.2.there_ (l * 16) 16 (by rw [BV_len]; omega)
theorem Bes.put {w : World} {g0 h : Nat} {f : Nat → List UInt8} (e : Bes w g0 h f) (l : Nat) (hl : l < h) (d : List UInt8) (hd : d.length = 16) : Bes (w.setCells g0 (l * 16) (BV d)) g0 h (Sg.upd f l d) := by
  refine ⟨fun j => by unfold Sg.upd; split; exact hd; exact e.1 j, ?_⟩
  obtain ⟨m, rfl⟩ := Nat.le.dest hl
  have h2 := e.2
  have hc := Sg.cat_len f l (fun k _ => e.1 k)
  rw [Sg.cat_add, Sg.cat_succ] at h2 ⊢
  have e1 : Sg.cat l (Sg.upd f l d) = Sg.cat l f := Sg.cat_congr _ _ _ (fun k hk => by unfold Sg.upd; rw [if_neg (by omega)])
  have e2 : Sg.cat m (fun j => Sg.upd f l d (l + 1 + j)) = Sg.cat m (fun j => f (l + 1 + j)) := Sg.cat_congr _ _ _ (fun k hk => by unfold Sg.upd; rw [if_neg (by omega)])
  have e3 : Sg.upd f l d l = d := by unfold Sg.upd; rw [if_pos rfl]
  rw [e1, e2, e3]
  rw [BV_append, BV_append, List.append_assoc] at h2
  have := Blk.part (BV (Sg.cat l f)) (BV (f l)) (BV (Sg.cat m fun j => f (l + 1 + j))) (BV d) h2 (l * 16) (by rw [BV_len, hc]; omega) (by rw [BV_len, BV_len, hd, e.1 l])
  rw [BV_append, BV_append, List.append_assoc]
  exact this
theorem wpList_store_bes {w : World} {ops : Array Oper} {rest : List Oper} {o : Oper} {a : Act} {Q : Exit → Act → World → Prop} (hgd : o.guard = none) (x y : Operand) (ho : o.op = .store 23 x y)
    (g n : Nat) (e : List UInt8) (hx : a.eval x = .pointer (some ⟨g, n, none⟩)) (hy : a.eval y = .agg (BV e).toArray) (ht : w.there g n 16) (he : e.length = 16)
    (h : ∀ w', Hid (w.setCells g n (BV e) = w') → wpList Tryd.prog ops Q rest (a.put o.dst undef) w') : wpList Tryd.prog ops Q (o :: rest) a w :=
  wpList_store_mid hgd 23 x y ho g n _ hx hy (by rw [List.size_toArray, BV_len, he]; exact ht) (dig_size he) (all_oneCell_toArray (BV_one e)) (h _ rfl)
theorem only_setCells {a w : World} {g : Nat} (h : a.grownBy w (some g)) (cs : List Value) (o : Nat) : a.grownBy (w.setCells g o cs) (some g) := by
  induction cs generalizing o w with
  | nil => exact h
  | cons v cs ih => exact ih (only_setCell (p := ⟨g, o, none⟩) h (.inl rfl) v) (o + 1)

set_option maxHeartbeats 4000000 in
set_option maxRecDepth 100000 in
theorem node_step (gs gn gi gb g0 h idx l i : Nat) (s : List UInt8) (f : Nat → List UInt8) (z w : World) (hs : s.length = 32) (hl : l ≤ h) (hh : h ≤ 6) (hi : (i + 1) * 2 ^ l ≤ 64) (hx : idx < 64)
    (hsib : l = h → i ≠ Sg.sib (idx / 2 ^ l)) (hK : KLaid z) (hz : Below z.heap.size z w) (hg0 : z.heap.size ≤ g0) (henv : Env w gs gn gi gb g0 idx h s) (hbes : Bes w g0 h f)
    (hrec : ∀ l' : Nat, l = l' + 1 → ∀ (j : Nat) (f : Nat → List UInt8) (W : World), (j + 1) * 2 ^ l' ≤ 64 → Below z.heap.size z W → Env W gs gn gi gb g0 idx h s → Bes W g0 h f →
      Calls Tryd.prog 44 #[.int .i64 (l' : Int), .int .i64 (j : Int), .pointer (some ⟨gs, 0, none⟩), .pointer (some ⟨gn, 0, none⟩), .pointer (some ⟨gi, 0, none⟩), .pointer (some ⟨gb, 0, none⟩)] W fun e w' =>
        e = .returned (.agg (BV (Sg.node s l' j)).toArray) ∧ Fr g0 W w' ∧ Bes w' g0 h (Sg.mark s idx l' j f)) :
    Calls Tryd.prog 44 #[.int .i64 (l : Int), .int .i64 (i : Int), .pointer (some ⟨gs, 0, none⟩), .pointer (some ⟨gn, 0, none⟩), .pointer (some ⟨gi, 0, none⟩), .pointer (some ⟨gb, 0, none⟩)] w fun e w' =>
      e = .returned (.agg (BV (Sg.node s l i)).toArray) ∧ Fr g0 w w' ∧ Bes w' g0 h (Sg.mark s idx l i f) := by
  have hzs := zero16
  have hmf : ∀ (fn : Fn) (first cap : Array Value) (w : World), (Instr.makeFunc fn first cap).run Tryd.prog w = .ok (.func fn first cap) w := fun _ _ _ _ => rfl
  have HENV := hide henv
  have HBES := hide hbes
  have HK := hide hK
  have HZ := hide hz
  have HREC := hide hrec
  have hi64 : i < 64 := by have := Nat.one_le_two_pow (n := l); have h2 : (i + 1) * 1 ≤ (i + 1) * 2 ^ l := Nat.mul_le_mul_left _ this; omega
  have hlg : g0 < w.heap.size := hbes.2.lt
  clear henv hbes hK hz hrec
  go_enter Tryd.func44, Tryd.ntmps44
  go_upto_region 2 with fail
  refine name_world fun V hV => ?_
  have C7 := hide (show Blk V w.heap.size 3 #[.int .i64 (i : Int)] by rw [← hV.out]; exact ((Blk.new w _ _).alloc _).alloc _)
  have D8 := hide (show Dig V (w.heap.size + 1) Z16 by
    rw [← hV.out]
    have := (Dig.new (w.alloc (.cells #[.int .i64 (i : Int)] 3)) Z16 rfl).alloc (.cells (BV Z16).toArray 23)
    rwa [show (w.alloc (.cells #[.int .i64 (i : Int)] 3)).heap.size = w.heap.size + 1 by simp] at this)
  have D9 := hide (show Dig V (w.heap.size + 1 + 1) Z16 by
    rw [← hV.out]
    have := Dig.new ((w.alloc (.cells #[.int .i64 (i : Int)] 3)).alloc (.cells (BV Z16).toArray 23)) Z16 rfl
    rwa [show ((w.alloc (.cells #[.int .i64 (i : Int)] 3)).alloc (.cells (BV Z16).toArray 23)).heap.size = w.heap.size + 1 + 1 by simp] at this)
  have HV := hide (show Below w.heap.size w V by rw [← hV.out]; exact (((Below.refl _ _).alloc (Nat.le_refl _) _).alloc (by simp) _).alloc (by simp; omega) _)
  have hV7 := C7.out.lt
  have hV9 := D9.out.2.lt
  clear hV
  have EV := hide (HENV.out.fr (Fr.of_below HV.out))
  have BV1 := hide (HBES.out.below HV.out hlg)
  have ZV := hide (HZ.out.trans (HV.out.mono HZ.out.size))
  go_upto_if 13 with fail
  go_cut [] from 10 to 31 (fun wx => Dig wx (w.heap.size + 1 + 1) (Sg.node s l i) ∧ Dig wx (w.heap.size + 1) Z16 ∧ Blk wx w.heap.size 3 #[.int .i64 (i : Int)] ∧ Fr g0 w wx ∧ ∃ fm, (∀ l', l = l' + 1 → fm = Sg.mark s idx l' (2 * i + 1) (Sg.mark s idx l' (2 * i) f)) ∧ (l = 0 → fm = f) ∧ Bes wx g0 h fm)
  case first =>
    rcases Nat.eq_zero_or_pos l with h0 | hpos
    · subst h0
      rw [show ((0 : Nat) : Int) = 0 from rfl]
      have CL := hide (leaf_tree_any w.heap.size gs (fun c => Sg.top s i c) V (fun c _ => Sg.top_len s i c) (HK.out.below ZV.out (Nat.le_refl _)) (fun c W hc hW => keyval_any w.heap.size gs s i c W (C7.out.below hW hV7) (EV.out.seed.below hW EV.out.seed.lt) hs (by unfold Wr.inI; omega) (by unfold Wr.inI; omega) (HK.out.below (ZV.out.trans (hW.mono ZV.out.size)) (Nat.le_refl _))))
      have hnl : (Sg.node s 0 i).length = 16 := Sg.node_len s 0 i
      have hno : Sg.leafOf (fun c => Sg.top s i c) = Sg.node s 0 i := rfl
      rw [hno] at CL
      go_wp2_with (first
        | (go_at_call 37; refine (unhide CL).mono ?_; rintro e x1 ⟨rfl, hb1⟩; have HX1 := hide hb1; clear hb1)
        | (with_reducible refine wpList_store_dig rfl (.tmp 9) (.tmp 15) rfl (w.heap.size + 1 + 1) Z16 (Sg.node s 0 i) rfl rfl (D9.out.below HX1.out hV9) hnl ?_; intro U hU))
      have R9 := hide ((D9.out.below HX1.out hV9).put hnl hU)
      have R8 := hide ((D8.out.below HX1.out (by omega)).far (by omega) hU)
      have R7 := hide ((C7.out.below HX1.out hV7).farRow (by omega) hU)
      have RU := hide (show Fr g0 w U by rw [← hU.out]; exact only_setRow (Fr.of_below (HV.out.trans (HX1.out.mono HV.out.size))) (by omega) _)
      have RB := hide (show Bes U g0 h f from ⟨BV1.out.1, (BV1.out.below HX1.out (by omega)).2.farRow (by omega) hU⟩)
      go_meet
      exact ⟨R9.out, R8.out, R7.out, RU.out, f, fun _ h => by omega, fun _ => rfl, RB.out⟩
    · obtain ⟨l', rfl⟩ : ∃ l', l = l' + 1 := ⟨l - 1, by omega⟩
      have CR := HREC.out l' rfl
      have hp : (i + 1) * 2 ^ (l' + 1) = 2 * ((i + 1) * 2 ^ l') := by rw [Nat.pow_succ]; rw [← Nat.mul_assoc, Nat.mul_comm]
      have hb1 : (2 * i + 1) * 2 ^ l' ≤ 64 := Nat.le_trans (Nat.mul_le_mul_right _ (show 2 * i + 1 ≤ 2 * (i + 1) by omega)) (by rw [Nat.mul_assoc, ← hp]; exact hi)
      have hb2 : (2 * i + 1 + 1) * 2 ^ l' ≤ 64 := Nat.le_trans (Nat.mul_le_mul_right _ (show 2 * i + 1 + 1 ≤ 2 * (i + 1) by omega)) (by rw [Nat.mul_assoc, ← hp]; exact hi)
      have hn1 := Sg.node_len s l' (2 * i)
      have hn2 := Sg.node_len s l' (2 * i + 1)
      have hn3 := Sg.node_len s (l' + 1) i
      have CRa := hide (CR (2 * i) f V hb1 ZV.out EV.out BV1.out)
      have CRb := hide (fun (W : World) f' hz he hb => CR (2 * i + 1) f' W hb2 hz he hb)
      have CJ := hide (fun (W : World) hK => join_any (Sg.node s l' (2 * i)) (Sg.node s l' (2 * i + 1)) W hn1 hn2 hK)
      have hno : Sg.join (Sg.node s l' (2 * i)) (Sg.node s l' (2 * i + 1)) = Sg.node s (l' + 1) i := rfl
      rw [hno] at CJ
      have hself : V.cell? ⟨gn, 0, none⟩ = some (.func (.func 44) #[] #[.pointer (some ⟨gs, 0, none⟩), .pointer (some ⟨gn, 0, none⟩), .pointer (some ⟨gi, 0, none⟩), .pointer (some ⟨gb, 0, none⟩)]) := EV.out.self.cell 0
      have hbox : V.cell? ⟨w.heap.size, 0, none⟩ = some (.int .i64 (i : Int)) := C7.out.cell 0
      have hne : ¬ (((l' + 1 : Nat) : Int) = 0) := by omega
      have hw1 : IntKind.i64.wrap (((l' + 1 : Nat) : Int) - 1) = (l' : Int) := by rw [IntWalk.i64_in _ (by omega)]; omega
      have hw2 : IntKind.i64.wrap (2 * (i : Int)) = ((2 * i : Nat) : Int) := by rw [IntWalk.i64_in _ (by omega)]; omega
      have hw3 : IntKind.i64.wrap (((2 * i : Nat) : Int) + 1) = ((2 * i + 1 : Nat) : Int) := by rw [IntWalk.i64_in _ (by omega)]; omega
      have HNO := hide hno
      have HMK := hide (show Sg.mark s idx l' (2 * i + 1) (Sg.mark s idx l' (2 * i) f) = Sg.mark s idx l' (2 * i + 1) (Sg.mark s idx l' (2 * i) f) from rfl)
      generalize ((2 * i : Nat) : Int) = ia at *
      generalize ((2 * i + 1 : Nat) : Int) = ib at *
      generalize ((l' + 1 : Nat) : Int) = lv at *
      generalize hN3 : Sg.node s (l' + 1) i = N3 at *
      generalize Sg.node s l' (2 * i) = N1 at *
      generalize Sg.node s l' (2 * i + 1) = N2 at *
      have HN3 := hide hN3
      clear hN3 hno hp hb1 hb2 CR
      go_upto_region 5 with (first
        | (go_at_call 44; (with_reducible refine (unhide CRa).mono ?_); rintro e x1 ⟨rfl, hf1, hb1⟩; have HF1 := hide hf1; have HB1 := hide hb1; have hx1 := hf1.size; clear hf1 hb1)
        | (with_reducible refine wpList_store_dig rfl (.tmp 10) (.tmp 21) rfl x1.heap.size Z16 N1 rfl rfl (Dig.new x1 Z16 rfl) hn1 ?_; intro U hU))
      have HU := hide (show Below x1.heap.size x1 U from below_row (below_alloc x1 _) (Nat.le_refl _) hU)
      have D10 := hide ((Dig.new x1 Z16 rfl).put hn1 hU)
      have hus := HU.out.size
      have FU := hide (HF1.out.then_ HU.out)
      have hselfU : U.cell? ⟨gn, 0, none⟩ = some (.func (.func 44) #[] #[.pointer (some ⟨gs, 0, none⟩), .pointer (some ⟨gn, 0, none⟩), .pointer (some ⟨gi, 0, none⟩), .pointer (some ⟨gb, 0, none⟩)]) := (EV.out.fr FU.out).self.cell 0
      have hboxU : U.cell? ⟨w.heap.size, 0, none⟩ = some (.int .i64 (i : Int)) := (FU.out.blk C7.out (by omega)).cell 0
      have CRu := hide (unhide CRb U _ (FU.out.below ZV.out ZV.out.size hg0) (EV.out.fr FU.out) (HB1.out.below HU.out (by omega)))
      clear hU hself hbox CRa CRb
      go_upto_region 6 with (first
        | (go_at_call 44; (with_reducible refine (unhide CRu).mono ?_); rintro e x2 ⟨rfl, hf2, hb2⟩; have HF2 := hide hf2; have HB2 := hide hb2; have hx2 := hf2.size; clear hf2 hb2)
        | (with_reducible refine wpList_store_dig rfl (.tmp 11) (.tmp 28) rfl x2.heap.size Z16 N2 rfl rfl (Dig.new x2 Z16 rfl) hn2 ?_; intro Y hY))
      have HY := hide (show Below x2.heap.size x2 Y from below_row (below_alloc x2 _) (Nat.le_refl _) hY)
      have E11 := hide ((Dig.new x2 Z16 rfl).put hn2 hY)
      have hys := HY.out.size
      have FY := hide ((FU.out.trans HF2.out).then_ HY.out)
      have h10 := D10.out.2.lt
      have E10 := hide ((HF2.out.dig D10.out (by omega)).below HY.out (by omega))
      clear hY hselfU hboxU CRu
      go_wp2_with (first
        | (with_reducible refine wpList_load_dig rfl (.tmp 10) rfl x1.heap.size rfl N1 E10.out ?_)
        | (with_reducible refine wpList_load_dig rfl (.tmp 11) rfl x2.heap.size rfl N2 E11.out ?_)
        | (go_at_call 40; refine (unhide CJ Y (HK.out.below (FY.out.below ZV.out ZV.out.size hg0) (Nat.le_refl _))).mono ?_; rintro e x3 ⟨rfl, hb3⟩; have HX3 := hide hb3; have FX := hide (FY.out.then_ hb3); clear hb3)
        | (with_reducible refine wpList_store_dig rfl (.tmp 9) (.tmp 31) rfl (w.heap.size + 1 + 1) Z16 N3 rfl rfl (FX.out.dig D9.out (by omega)) hn3 ?_; intro T hT))
      have R9 := hide ((FX.out.dig D9.out (by omega)).put hn3 hT)
      have R8 := hide ((FX.out.dig D8.out (by omega)).far (by omega) hT)
      have R7 := hide ((FX.out.blk C7.out (by omega)).farRow (by omega) hT)
      have RU := hide (show Fr g0 w T by rw [← hT.out]; exact only_setRow ((Fr.of_below HV.out).trans FX.out) (by omega) _)
      have RB := hide (show Bes T g0 h _ from ⟨HB2.out.1, ((HB2.out.2.below HY.out (by omega)).below HX3.out (by omega)).farRow (by omega) hT⟩)
      go_meet
      exact ⟨R9.out, R8.out, R7.out, RU.out, _, fun l'' h => by rw [show l'' = l' by omega], fun h => by omega, RB.out⟩
  case rest =>
    obtain ⟨hD9, hD8, hC7, hfr, fm, hfm, hf0, hbm⟩ := hcut
    have EC := hide (HENV.out.fr hfr)
    have hci : wc.cell? ⟨w.heap.size, 0, none⟩ = some (.int .i64 (i : Int)) := hC7.cell 0
    have hcx : wc.cell? ⟨gi, 0, none⟩ = some (.int .i64 (idx : Int)) := EC.out.index.cell 0
    have hl0 : (0 : Int) ≤ (l : Int) := by omega
    have hl6 : (l : Int) ≤ 6 := by omega
    have hmk : Sg.mark s idx l i f = Sg.put s idx l i fm := by
      cases l with
      | zero => rw [hf0 rfl]; rfl
      | succ l' => rw [hfm l' rfl]; rfl
    have HMK := hide hmk
    have HD9 := hide hD9
    have HD8 := hide hD8
    have HBM := hide hbm
    have HFR := hide hfr
    have hnl := Sg.node_len s l i
    clear hfm hf0 hmk hD9 hD8 hC7 hfr hbm D9 D8 C7 EV BV1 ZV HREC
    go_upto_region 7 with fail
    go_quiet (fail)
    go_upto_if 37 with fail
    have FD := hide (show Fr g0 w (wc.drewN nq) from only_drewN HFR.out nq)
    have E9 := hide (show Dig (wc.drewN nq) (w.heap.size + 1 + 1) (Sg.node s l i) from HD9.out)
    have E8 := hide (show Dig (wc.drewN nq) (w.heap.size + 1) Z16 from HD8.out)
    have EM := hide (show Bes (wc.drewN nq) g0 h fm from HBM.out)
    have EE := hide (HENV.out.fr FD.out)
    have hcb : (wc.drewN nq).cell? ⟨gb, 0, none⟩ = some (.slice (some ⟨g0, 0, none⟩) h h) := EE.out.beside.cell 0
    clear hci hcx EC HD9 HD8 HBM HFR
    rw [node_test i idx l hx]
    generalize wc.drewN nq = wd at *
    by_cases hc : i = Sg.sib (idx / 2 ^ l)
    · have hlh : l < h := by
        rcases Nat.lt_or_ge l h with h1 | h1
        · exact h1
        · exact absurd hc (hsib (by omega))
      rw [decide_eq_true hc]
      have hlh2 : (l : Int) < (h : Int) := by omega
      have HT := EM.out.there l hlh
      have hpu : Sg.put s idx l i fm = Sg.upd fm l (Sg.node s l i) := by unfold Sg.put; rw [if_pos hc]
      clear hc
      go_upto_region 9 with (first
        | (with_reducible refine wpList_load_dig rfl (.tmp 9) rfl (w.heap.size + 1 + 1) rfl _ E9.out ?_)
        | (with_reducible refine wpList_store_bes rfl (.tmp 41) (.tmp 40) rfl g0 (l * 16) _ rfl rfl HT hnl ?_; intro X hX))
      have K9 := hide (show Dig X (w.heap.size + 1 + 1) (Sg.node s l i) by rw [← hX.out]; exact ⟨hnl, E9.out.2.farCells _ _ (by omega)⟩)
      have K8 := hide (show Dig X (w.heap.size + 1) Z16 by rw [← hX.out]; exact ⟨rfl, E8.out.2.farCells _ _ (by omega)⟩)
      have KM := hide (show Bes X g0 h (Sg.upd fm l (Sg.node s l i)) by rw [← hX.out]; exact EM.out.put l hlh _ hnl)
      have KF := hide (show Fr g0 w X by rw [← hX.out]; exact only_setCells FD.out _ _)
      clear hX E9 E8 EM FD HT
      go_wp2_with (first | (with_reducible refine wpList_load_dig rfl (.tmp 9) rfl (w.heap.size + 1 + 1) rfl _ K9.out ?_) | (with_reducible refine wpList_store_dig rfl (.tmp 8) (.tmp 42) rfl (w.heap.size + 1) Z16 _ rfl rfl K8.out hnl ?_; intro U hU))
      exact bodyPost_ret (v := .agg (BV _).toArray) (ret_dig Tryd.results44 _ rfl (K8.out.put hnl hU)) rfl ⟨rfl, by rw [← hU.out]; exact only_setRow KF.out (by omega) _, by rw [HMK.out, hpu]; exact ⟨KM.out.1, KM.out.2.farRow (by omega) hU⟩⟩
    · rw [decide_eq_false hc]
      have hpu : Sg.put s idx l i fm = fm := by unfold Sg.put; rw [if_neg hc]
      clear hc
      go_wp2_with (first | (with_reducible refine wpList_load_dig rfl (.tmp 9) rfl (w.heap.size + 1 + 1) rfl _ E9.out ?_) | (with_reducible refine wpList_store_dig rfl (.tmp 8) (.tmp 42) rfl (w.heap.size + 1) Z16 _ rfl rfl E8.out hnl ?_; intro U hU))
      exact bodyPost_ret (v := .agg (BV _).toArray) (ret_dig Tryd.results44 _ rfl (E8.out.put hnl hU)) rfl ⟨rfl, by rw [← hU.out]; exact only_setRow FD.out (by omega) _, by rw [HMK.out, hpu]; exact ⟨EM.out.1, EM.out.2.farRow (by omega) hU⟩⟩
end Go.Proofs.YtedgjpoejoepjaaDoor
