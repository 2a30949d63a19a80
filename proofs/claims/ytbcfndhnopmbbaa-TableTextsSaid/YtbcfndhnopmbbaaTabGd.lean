/-
  Tables: what values of the law's examples are good for; are of the law, by these words.
-/
import Derived.Test.YtbcfndhnopmbbaaTabY
import Derived.Test.YtbcfndhnopmbbaaTabS
import Derived.Test.YtbcfndhnopmbbaaTabZ
import Derived.Test.YtbcfndhnopmbbaaSpecR
namespace Go.Proofs.Ytbcfndhnopmbbaa
open Go.RowKit
set_option linter.unusedVariables false
set_option linter.unusedSimpArgs false
def gAny : World → Value → Prop := fun _ _ => True
def gIs (u : Value) : World → Value → Prop := fun _ v => v = u
/-- a text -/
def gTxt (l : Tb.Text) : World → Value → Prop := fun W v => ∃ A c, v = .slice A l.length c ∧ l.length ≤ c ∧ TextAt W W.heap.size A l
/-- steps with these lengths and cells -/
def gStp (L : List (Nat × List UInt8)) : World → Value → Prop := fun W v => ∃ xs, StepsAt W v xs ∧ xs.map (fun x => (x.sp.len, x.sp.cells)) = L
/-- a row of its own -/
def gRow (T : TypeId) (cs : List Value) : World → Value → Prop := fun W v => ∃ g, v = .slice (some ⟨g, 0, none⟩) cs.length cs.length ∧ Blk W g T cs.toArray
/-- a list of lists of bytes -/
def gCls (L : List (List UInt8)) : World → Value → Prop := fun W v => ∃ A bs, v = .slice A L.length L.length ∧ CellsAt W W.heap.size A bs ∧ bs.map (·.l) = L
def Stab (G : World → Value → Prop) : Prop := ∀ W W' v, Below W.heap.size W W' → G W v → G W' v
theorem stab_any : Stab gAny := fun _ _ _ _ h => h
theorem stab_is (u : Value) : Stab (gIs u) := fun _ _ _ _ h => h
theorem stab_txt (l : Tb.Text) : Stab (gTxt l) := fun _ _ _ hb ⟨A, c, h1, h2, h3⟩ => ⟨A, c, h1, h2, (h3.1.below hb).more hb.size, h3.2⟩
theorem stab_stp (L : List (Nat × List UInt8)) : Stab (gStp L) := fun _ _ _ hb ⟨xs, h1, h2⟩ => ⟨xs, h1.same hb, h2⟩
theorem stab_row (T : TypeId) (cs : List Value) : Stab (gRow T cs) := fun _ _ _ hb ⟨g, h1, h2⟩ => ⟨g, h1, h2.below hb h2.lt⟩
theorem stab_cls (L : List (List UInt8)) : Stab (gCls L) := fun _ _ _ hb ⟨A, bs, h1, h2, h3⟩ => ⟨A, bs, h1, (h2.below hb).more hb.size, h3⟩
def StabL (ks : List (World → Value → Prop)) : Prop := ∀ k ∈ ks, Stab k
theorem stabL_nil : StabL [] := fun k hk => by cases hk
theorem stabL_cons {k : World → Value → Prop} {ks : List (World → Value → Prop)} (h : Stab k) (hs : StabL ks) : StabL (k :: ks) := fun q hq => by
  rcases List.mem_cons.1 hq with rfl | hq
  · exact h
  · exact hs q hq
/-- the words of a region's operations -/
def gAll (ks : List (World → Value → Prop)) : Nat → Value → World → Prop := fun j v W => (ks.getD j gAny) W v
theorem gAll_below {ks : List (World → Value → Prop)} (hs : StabL ks) {W W' : World} (hb : Below W.heap.size W W') (j : Nat) (v : Value) (h : gAll ks j v W) : gAll ks j v W' := by
  have hk : Stab (ks.getD j gAny) := by
    rw [List.getD_eq_getElem?_getD]
    cases h1 : ks[j]? with
    | none => exact stab_any
    | some k => exact hs _ (List.mem_of_getElem? h1)
  exact hk W W' v hb h
theorem wanted_of {ops : Array Oper} {o : Oper} {A : Act} (j : Nat) (t : Tmp) (b : Bool) (hg : o.guard = some (j, b)) (hj : (ops[j]?).bind (·.dst) = some t) (hv : A.tmps[t]?.getD undef = .bool b) : Region.wanted o (yielded ops A.tmps) = true := by
  have h1 : A.tmps[t]? = some (.bool b) := by
    cases h : A.tmps[t]? with
    | none => rw [h] at hv; cases hv
    | some u => rw [h] at hv; exact congrArg some hv
  unfold Region.wanted
  rw [hg]
  show (yielded ops A.tmps j == some b) = true
  unfold yielded
  rw [hj]
  show ((match (A.tmps[t]?) with | some (.bool b) => some b | _ => none) == some b) = true
  rw [h1]
  cases b <;> rfl
theorem reads_row (W : World) (g : Nat) (T : TypeId) (cs : List Value) (h : Blk W g T cs.toArray) : Reads W W.heap.size 1 (some ⟨g, 0, none⟩) cs.length cs :=
  ⟨by omega, fun _ => ⟨_, rfl, h.lt, fun j u hu => by
    have h2 := Blk.cell h j
    rw [show ((⟨g, 0, none⟩ : Addr).add j) = ⟨g, j, none⟩ by unfold Addr.add; split <;> simp_all, h2, ← hu]
    rw [List.getElem?_toArray]⟩⟩
theorem cls_new (W : World) (bs : List Tb.Bs) (hb : ∀ b ∈ bs, BsAt W W.heap.size b) : CellsAt (W.alloc (.cells (bs.map bsV).toArray 26)) (W.alloc (.cells (bs.map bsV).toArray 26)).heap.size (some ⟨W.heap.size, 0, none⟩) bs := by
  have h := reads_row _ _ _ (bs.map bsV) (Blk.new W 26 (bs.map bsV).toArray)
  rw [List.length_map] at h
  exact ⟨h, fun b hm => (hb b hm).same (below_alloc W _)⟩
theorem bs_row (W : World) (g : Nat) (l : List UInt8) (h : Blk W g 5 (BV l).toArray) (hl : l.length ≤ 1000) : BsAt W W.heap.size ⟨l, some ⟨g, 0, none⟩, l.length⟩ := bs_of_blk W g l h (by omega)
theorem are_ok (L : List (Nat × List UInt8)) (v1 v2 v3 : Value) (W : World) (h1 : gStp L W v1) (h2 : gRow 3 (L.map fun p => .int .i64 (p.1 : Int)) W v2) (h3 : gCls (L.map (·.2)) W v3) :
    Calls Try.prog 41 #[v1, v2, v3] W fun e w' => e = .returned (.bool true) ∧ Below W.heap.size W w' := by
  obtain ⟨xs, hx, hL⟩ := h1
  obtain ⟨g, rfl, hg⟩ := h2
  obtain ⟨C, bs, rfl, hc, hbs⟩ := h3
  have e1 : (L.map fun p => Value.int .i64 (p.1 : Int)) = xs.map fun x => Value.int .i64 (x.sp.len : Int) := by rw [← hL, List.map_map]; rfl
  have e2 : xs.map (·.sp.cells) = bs.map (·.l) := by rw [hbs, ← hL, List.map_map]; rfl
  have e3 : (L.map (·.2)).length = bs.length := by rw [← hbs, List.length_map]
  rw [e3]
  have hr := reads_row W g _ _ hg
  rw [e1] at hr
  rw [e1]
  exact are_any v1 xs (some ⟨g, 0, none⟩) _ _ C bs.length bs W hx hr hc e2
theorem text_lit (b : ByteArray) (s : List Nat) (hb : b = S (s.map UInt8.ofNat)) (w : World) (hs : s.length ≤ 1000) :
    Calls Try.prog 42 #[.string b] w fun e w' => ∃ v, e = .returned v ∧ gTxt (Tb.sp0 s) w' v ∧ Below w.heap.size w w' := by
  subst hb
  refine (text_any (s.map UInt8.ofNat) w (by rw [List.length_map]; exact hs)).mono ?_
  rintro e w' ⟨A, c, rfl, hc, ht, hb⟩
  have e : txt0 (s.map UInt8.ofNat) = Tb.sp0 s := by unfold txt0 Tb.sp0; rw [List.map_map]; rfl
  rw [e] at hc ht ⊢
  exact ⟨_, rfl, ⟨A, c, rfl, hc, ht⟩, hb⟩
theorem steps_ok (TV : Value) (t : Tb.Tab) (w W : World) (h : TabAt w w.heap.size TV t) (hb : Below w.heap.size w W) (ht : Tb.eT t = Tb.exT) (s : Tb.St) (sv : Value) (hsv : sv = stV s) (l : Tb.Text) (v : Value) (hv : gTxt l W v) (p : Int) (L : List (Nat × List UInt8)) (hL : (Tb.steps Tb.exT s l p).map (fun x => (x.len, x.cells)) = L) :
    Calls Try.prog 27 #[TV, sv, v, .int .i64 p] W fun e w' => ∃ v', e = .returned v' ∧ gStp L w' v' ∧ Below W.heap.size W w' := by
  obtain ⟨A, c, rfl, hc, htx⟩ := hv
  subst hsv
  refine (steps_any TV t s A c l p W ((h.below hb).more hb.size) htx hc).mono ?_
  rintro e w' ⟨v', xs, rfl, hst, hxs, hbw⟩
  refine ⟨v', rfl, ⟨xs, hst, ?_⟩, hbw⟩
  have e1 : Tb.steps t s l p = Tb.steps Tb.exT s l p := by rw [← ht]; exact (Tb.steps_eT t s l p).symm
  rw [← hL, ← e1, ← hxs, List.map_map]
  rfl
theorem row_new (W : World) (T : TypeId) (cs : List Value) : gRow T cs (W.alloc (.cells cs.toArray T)) (.slice (some ⟨W.heap.size, 0, none⟩) cs.length cs.length) := ⟨_, rfl, Blk.new W _ _⟩
theorem txt_one (W : World) (x : Int × UInt8) : gTxt [x] (W.alloc (.cells #[.int .i64 x.1, .int .u8 (x.2.toNat : Int)] 67)) (.slice (some ⟨W.heap.size, 0, none⟩) 1 1) := by
  refine ⟨some ⟨W.heap.size, 0, none⟩, 1, rfl, Nat.le_refl _, ⟨rfl, fun _ => ⟨_, rfl, (Blk.new W _ _).lt, fun j u hu => ?_⟩⟩, by simp⟩
  have h2 := Blk.cell (Blk.new W 67 #[.int .i64 x.1, .int .u8 (x.2.toNat : Int)]) j
  rw [show ((⟨W.heap.size, 0, none⟩ : Addr).add j) = ⟨W.heap.size, j, none⟩ by unfold Addr.add; split <;> simp_all, h2, ← hu]
  show _ = (syC x ++ [])[j]?
  rw [List.append_nil]
  unfold syC
  rw [← List.getElem?_toArray]
theorem are_last (v : Value) (W : World) (h : gStp [(0, [63])] W v) :
    Calls Try.prog 41 #[v, .slice (some ⟨W.heap.size, 0, none⟩) 1 1, .slice (some ⟨W.heap.size + 1 + 1, 0, none⟩) 1 1] (((W.alloc (.cells #[.int .i64 0] 3)).alloc (.cells #[.int .u8 63] 5)).alloc (.cells #[.slice (some ⟨W.heap.size + 1, 0, none⟩) 1 1] 26)) fun e w' => e = .returned (.bool true) ∧ Below W.heap.size W w' := by
  have g1 := row_new W 3 [.int .i64 0]
  have b1 := below_alloc W (.cells #[.int .i64 0] 3)
  have s1 : (W.alloc (.cells #[.int .i64 0] 3)).heap.size = W.heap.size + 1 := by simp
  have h1 := stab_stp _ _ _ _ b1 h
  revert g1 b1 s1 h1
  generalize hW1 : W.alloc (.cells #[.int .i64 0] 3) = W1
  intro g1 b1 s1 h1
  change gRow _ _ W1 _ at g1
  have g2 := Blk.new W1 5 #[.int .u8 63]
  have b2 := below_alloc W1 (.cells #[.int .u8 63] 5)
  have s2 : (W1.alloc (.cells #[.int .u8 63] 5)).heap.size = W1.heap.size + 1 := by simp
  have h2 := stab_stp _ _ _ _ b2 h1
  have g12 := stab_row _ _ _ _ _ b2 g1
  revert g2 b2 s2 h2 g12
  generalize hW2 : W1.alloc (.cells #[.int .u8 63] 5) = W2
  intro g2 b2 s2 h2 g12
  have b3 := below_alloc W2 (.cells #[.slice (some ⟨W.heap.size + 1, 0, none⟩) 1 1] 26)
  have h3 := stab_stp _ _ _ _ b3 h2
  have g13 := stab_row _ _ _ _ _ b3 g12
  have c3 := cls_new W2 [⟨[63], some ⟨W1.heap.size, 0, none⟩, 1⟩] (by
    intro b hb
    rw [List.mem_singleton] at hb
    subst hb
    exact bs_row W2 W1.heap.size [63] g2 (by decide))
  have e3 : W2.heap.size = W.heap.size + 1 + 1 := by omega
  rw [e3] at c3
  rw [s1] at c3
  have hB : Below W.heap.size W (W2.alloc (.cells #[.slice (some ⟨W.heap.size + 1, 0, none⟩) 1 1] 26)) := (b1.trans (b2.mono (by omega))).trans (b3.mono (by omega))
  refine (are_ok [(0, [63])] _ _ _ _ h3 g13 ⟨_, _, rfl, c3, rfl⟩).mono ?_
  rintro e w' ⟨rfl, hb⟩
  exact ⟨rfl, hB.trans (hb.mono hB.size)⟩
end Go.Proofs.Ytbcfndhnopmbbaa
