/-
  Words for bytes, strings and slices in memory that this seat's texts share (picked out of the texts of layer 1). Nothing here speaks of a function of the program.
-/
import Derived.Test.YtbcfndhnopmbbaaProg
import Derived.Test.YtbcfndhnopmbbaaWords
import Derived.Test.YtbcfndhnopmbbaaMath
import Derived.WalkKit
import Derived.WalkSpells
import Derived.WalkLawsBesides
import Derived.Laws.BitsAllLaws
import Derived.Laws.BytesArg
import Derived.Deep.QuietTactic
import Derived.BigQuiet
import Derived.Deep.DeepFit
import Derived.Deep.LoopGhost
import Derived.WalkSmall
import Derived.Laws.CopyOwn
import Derived.Laws.Tables
import Derived.Deep.MidRow
import Derived.Deep.WholeRow
import Derived.Deep.RegionWith
import Derived.Deep.RegionHeld3
import Derived.WalkMore
import Derived.Lib.AppendStr
import Derived.Laws.Strings
import Derived.Laws.IdiomStrings
import Derived.Deep.DeepCutAuto
import Derived.Deep.Upon
import Derived.IntWalk
namespace Go.Proofs.Ytbcfndhnopmbbaa
open Go.RowKit
set_option linter.unusedVariables false
set_option linter.unusedSimpArgs false
set_option linter.unusedVariables false
set_option linter.unusedSimpArgs false
/-- bytes as cells -/
def BV (l : List UInt8) : List Value := l.map fun c => .int .u8 (c.toNat : Int)
theorem BV_len (l : List UInt8) : (BV l).length = l.length := by simp [BV]
theorem BV_get (l : List UInt8) (i : Nat) (h : i < l.length) : (BV l)[i]? = some (.int .u8 ((l[i]'h).toNat : Int)) := by simp [BV, h]
theorem BV_append (a b : List UInt8) : BV (a ++ b) = BV a ++ BV b := by simp [BV]
theorem xor_byte (a b : UInt8) : bits .xor .u8 (a.toNat : Int) (b.toNat : Int) = ((a ^^^ b).toNat : Int) := by
  rw [u8_xor_nat _ _ a.toNat_lt b.toNat_lt, UInt8.toNat_xor]
theorem reads_cell {w : World} {B n : Nat} {ad : Addr} {l : List UInt8} (hr : Reads w B 1 (some ad) n (BV l)) (i : Nat) (hi : i < l.length) : w.cell? (ad.add i) = some (.int .u8 ((l[i]'hi).toNat : Int)) := by
  have hn : l.length = n := by have := hr.1; simp [BV] at this; omega
  obtain ⟨ad', u, e, _, hx, hcc⟩ := hr.at_ (k := i) (by omega)
  injection e with e; subst e
  rw [BV_get l i hi] at hx
  rw [hcc, ← hx]
theorem reads_far {w : World} {B n : Nat} {ad : Addr} {l : List UInt8} (hr : Reads w B 1 (some ad) n (BV l)) (i : Nat) (hi : i + 1 < l.length) : w.cell? ⟨ad.block, ad.off + 1 + i, none⟩ = some (.int .u8 ((l[i + 1]'hi).toNat : Int)) := by
  have := reads_cell hr (i + 1) hi
  unfold Addr.add at this
  rw [if_neg (by omega)] at this
  rw [← this, Nat.add_assoc, Nat.add_comm 1 i]
/-- bytes as a string -/
def S (l : List UInt8) : ByteArray := ⟨l.toArray⟩
theorem S_list (l : List UInt8) : (S l).data.toList = l := rfl
theorem S_size (l : List UInt8) : (S l).size = l.length := rfl
theorem S_inj {a b : List UInt8} (h : S a = S b) : a = b := by
  have := congrArg (fun s : ByteArray => s.data.toList) h
  exact this
theorem S_nil : S [] = ByteArray.empty := rfl
theorem S_of (s : ByteArray) : S s.data.toList = s := by simp [S]
theorem run_conv_reads {P : Program} {w : World} {B n : Nat} {A : Option Addr} {l : List UInt8} (hr : Reads w B 1 A n (BV l)) (src dst e : TypeId) (c : Nat) (hs : P.underlying src = some (.slice e)) (he : P.underlying e = some (.int .u8)) (hd : P.underlying dst = some .string) :
    (convert src dst (.slice A n c)).run P w = .ok (.string (S l)) w := by
  have hn : n = l.length := by have := hr.1; simp [BV] at this; omega
  rcases A with _ | ad
  · have h0 : n = 0 := by
      rcases Nat.eq_zero_or_pos n with h | h
      · exact h
      · obtain ⟨_, e, _⟩ := hr.2 h
        cases e
    have : l = [] := List.eq_nil_of_length_eq_zero (by omega)
    subst this
    rw [S_nil]
    exact run_convert_bytes_nil w src e hs he n c dst hd
  · have hl : (loadCells ad n).run P w = .ok ((l.map fun c => (c.toNat : Int)).map (Value.int .u8)).toArray w := by
      have := run_loadCells_list (P := P) w ad (BV l) (fun j v hj => by
        rcases Nat.eq_zero_or_pos n with h | h
        · have : l = [] := List.eq_nil_of_length_eq_zero (by omega)
          subst this
          simp [BV] at hj
        · obtain ⟨ad', e, _, hc⟩ := hr.2 h
          injection e with e
          subst e
          exact hc j v hj)
      rw [BV_len, ← hn] at this
      rw [this]
      simp [BV]
    rw [run_convert_bytes_string w src dst e _ n c hs he hd, run_bytesToString w _ n c _ hl, foldl_push_bytes]
    simp [S, ByteArray.empty, ByteArray.emptyWithCapacity]
    congr 1
    conv => rhs; rw [← List.map_id l]
    apply List.map_congr_left
    intro a _
    simp
theorem reads_sub {w : World} {B n : Nat} {ad : Addr} {l : List UInt8} (hr : Reads w B 1 (some ad) n (BV l)) (u z : Nat) (h : u + z ≤ n) : Reads w B 1 (some (ad.add u)) z (BV ((l.drop u).take z)) := by
  have hn : n = l.length := by have := hr.1; simp [BV] at this; omega
  refine ⟨by simp [BV]; omega, fun hz => ?_⟩
  obtain ⟨ad', e, hb, hc⟩ := hr.2 (by omega)
  injection e with e
  subst e
  refine ⟨_, rfl, by rw [block_of_add]; exact hb, fun j v hj => ?_⟩
  rw [add_of_add]
  apply hc
  rw [← hj]
  unfold BV
  rw [List.getElem?_map, List.getElem?_map]
  have hjz : j < z := by
    rcases Nat.lt_or_ge j z with h | h
    · exact h
    · rw [List.getElem?_eq_none (by simp [BV]; omega)] at hj; cases hj
  rw [List.getElem?_take_of_lt hjz, List.getElem?_drop]
theorem reads_zero (w : World) (B : Nat) (A : Option Addr) : Reads w B 1 A 0 (BV []) := ⟨by simp [BV], fun h => absurd h (by omega)⟩
theorem reads_rest {w : World} {B n : Nat} {ad : Addr} {l : List UInt8} (hr : Reads w B 1 (some ad) n (BV l)) (used : Nat) (hun : used ≤ n) : Reads w B 1 (some (ad.add used)) (n - used) (BV (l.drop used)) := by
  have hn : n = l.length := by have := hr.1; simp [BV] at this; omega
  have := reads_sub hr used (n - used) (by omega)
  rwa [List.take_of_length_le (by simp; omega)] at this
theorem own_lower {w : World} {b b' e size n : Nat} {v : Value} {xs : List Value} (h : w.ownsRow b e size v n xs) (hb : b' ≤ b) : w.ownsRow b' e size v n xs := by
  refine ⟨h.1, ?_⟩
  rcases h.2 with h | ⟨g, cap, cur, h1, h2, h3⟩
  · exact .inl h
  · exact .inr ⟨g, cap, cur, h1, by omega, h3⟩
theorem own_drewN {w : World} {b e size n : Nat} {v : Value} {xs : List Value} (h : w.ownsRow b e size v n xs) (m : Nat) : (w.drewN m).ownsRow b e size v n xs := h
/-- a string as a value -/
def VS (l : List UInt8) : Value := .string (S l)
/-- what is filled of a list of z elements behind k of them -/
def filled (z k : Nat) (f : List Value) (zero : Value) : List Value := f ++ List.replicate (z - k) zero
theorem filled_set (z k : Nat) (f : List Value) (zero v : Value) (hf : f.length = k) (hk : k < z) : (filled z k f zero).set k v = filled z (k + 1) (f ++ [v]) zero := by
  unfold filled
  rw [List.set_append_right _ _ (by omega), hf, Nat.sub_self]
  obtain ⟨d, hd⟩ : ∃ d, z - k = d + 1 := ⟨z - k - 1, by omega⟩
  rw [hd, List.replicate_succ, List.set_cons_zero, show z - (k + 1) = d by omega]
  simp
theorem filled_get (z k : Nat) (f : List Value) (zero : Value) (hf : f.length = k) (hk : k < z) : (filled z k f zero)[k]? = some zero := by
  unfold filled
  rw [List.getElem?_append_right (by omega), hf, Nat.sub_self, List.getElem?_replicate, if_pos (by omega)]
theorem filled_full (z : Nat) (f : List Value) (zero : Value) : filled z z f zero = f := by simp [filled]
theorem byteSize : (Try.prog.info? 5).map (·.size) = some 1 := by kernel_rfl
theorem BV_one (l : List UInt8) : ∀ v ∈ BV l, v.oneCell' = true := by
  intro v hv
  simp only [BV, List.mem_map] at hv
  obtain ⟨c, _, rfl⟩ := hv
  rfl
theorem reads_cells {w : World} {B n : Nat} {ad : Addr} {l : List UInt8} (hr : Reads w B 1 (some ad) n (BV l)) (m : Nat) : ∀ j v, (BV (l.take m))[j]? = some v → w.cell? (ad.add j) = some v := by
  intro j v hj
  unfold BV at hj
  rw [List.getElem?_map] at hj
  have hjm : j < m := by
    rcases Nat.lt_or_ge j m with h | h
    · exact h
    · rw [List.getElem?_eq_none (by simp; omega)] at hj; simp at hj
  rw [List.getElem?_take_of_lt hjm] at hj
  have hjl : j < l.length := by
    rcases Nat.lt_or_ge j l.length with h | h
    · exact h
    · rw [List.getElem?_eq_none h] at hj; simp at hj
  rw [reads_cell hr j hjl]
  rw [List.getElem?_eq_getElem hjl] at hj
  simpa using hj
theorem results_cell_tmp2 {P : Program} {fn : Func} {p t u : Tmp} {ty : TypeId} (h : fn.results = #[.cell p ty, .tmp t, .tmp u]) (tmps : Array Value) (w : World) (a : Addr) (v : Value)
    (hp : tmps.getD p undef = .pointer (some a)) (hl : (loadVar ty a).run P w = .ok v w) : (results fn tmps).run P w = .ok (.tuple #[v, tmps.getD t undef, tmps.getD u undef]) w := by
  have hp' : tmps[p]?.getD undef = .pointer (some a) := by simpa using hp
  simp [results, h, hp', asAddr, hl]
theorem results_cell_tmp1 {P : Program} {fn : Func} {p t : Tmp} {ty : TypeId} (h : fn.results = #[.cell p ty, .tmp t]) (tmps : Array Value) (w : World) (a : Addr) (v : Value)
    (hp : tmps.getD p undef = .pointer (some a)) (hl : (loadVar ty a).run P w = .ok v w) : (results fn tmps).run P w = .ok (.tuple #[v, tmps.getD t undef]) w := by
  have hp' : tmps[p]?.getD undef = .pointer (some a) := by simpa using hp
  simp [results, h, hp', asAddr, hl]
theorem wpList_copy_stop {P : Program} {w : World} {ops : Array Oper} {rest : List Oper} {o : Oper} {a : Act} {Q : Exit → Act → World → Prop} (hgd : o.guard = none) (d s : Operand) (dT sT : TypeId)
    (ho : o.op = .call { callee := .builtin .copy, args := #[d, s], argTypes := #[dT, sT] }) (elem : TypeId) (hu : P.underlying dT = some (.slice elem)) (hsz : (P.info? elem).map (·.size) = some 1)
    (g off dLen dCap : Nat) (ad : Addr) (sLen sCap : Nat) (hd : a.eval d = .slice (some ⟨g, off, none⟩) dLen dCap) (hs : a.eval s = .slice (some ad) sLen sCap)
    (cur : Array Value) (t : TypeId) (hg : w.heap[g]? = some (.cells cur t (0, 0))) (cs : List Value) (hn : cs.length = Nat.min sLen dLen)
    (hsrc : ∀ j v, cs[j]? = some v → w.cell? (ad.add j) = some v) (hfit : off + cs.length ≤ cur.size) (h1 : ∀ v ∈ cs, v.oneCell' = true)
    (h : ∀ w', Hid (w.setRow g (cur.toList.take off ++ (cs ++ cur.toList.drop (off + cs.length))).toArray = w') → wpList P ops Q rest (a.put o.dst (goInt cs.length)) w') : wpList P ops Q (o :: rest) a w :=
  wpList_copy_own hgd d s dT sT ho elem hu hsz g off dLen dCap ad sLen sCap hd hs cur t hg cs hn hsrc hfit h1 (h _ rfl)
theorem setRow_alloc_old (X : World) (o : Obj) (g : Nat) (cs : Array Value) (h : g < X.heap.size) : (X.alloc o).setRow g cs = (X.setRow g cs).alloc o := by
  unfold World.setRow World.alloc
  congr 1
  apply Array.ext_getElem?
  intro i
  simp only [Array.getElem?_modify, Array.getElem?_push, Array.size_modify]
  by_cases hi : i = X.heap.size
  · subst hi; simp; omega
  · simp [hi]
theorem below_setCells {B b : Nat} {w0 : World} (hb : B ≤ b) (cs : List Value) (o : Nat) (w : World) (h : Below B w0 w) : Below B w0 (w.setCells b o cs) := by
  induction cs generalizing o w with
  | nil => exact h
  | cons v r ih => exact ih _ _ (h.setCell (by exact hb) _)
theorem Blk.farCells {w : World} {g b : Nat} {t : TypeId} {cs : Array Value} (vs : List Value) (o : Nat) (h : Blk w g t cs) (hne : g ≠ b) : Blk (w.setCells b o vs) g t cs := by
  induction vs generalizing o w with
  | nil => exact h
  | cons v r ih => exact ih _ (h.far (p := ⟨b, o, none⟩) hne v)
theorem Blk.otherRow {w : World} {g b : Nat} {t : TypeId} {cs : Array Value} (h : Blk w g t cs) (hne : g ≠ b) (vs : Array Value) : Blk (w.setRow b vs) g t cs := (setRow_other w b g vs hne).trans h
theorem only_setRow {a w : World} {row : Option Nat} {g : Nat} (h : a.grownBy w row) (hg : a.heap.size ≤ g) (cs : Array Value) : a.grownBy (w.setRow g cs) row :=
  ⟨h.os, h.tape, h.output, by simpa using h.size, fun i hi hne => (setRow_other w g i cs (by omega)).trans (h.block i hi hne)⟩
theorem range_far {w : World} {b o : Nat} {cs : List Value} (h : w.rangeAt b o cs) {p : Addr} (hne : b ≠ p.block) (v : Value) : (w.setCell p v).rangeAt b o cs := fun j u hj =>
  (World.cell?_setCell_other w p ⟨b, o + j, none⟩ v (fun e => hne (by rw [e]))).trans (h j u hj)
theorem there_of_blk {w : World} {g : Nat} {t : TypeId} {cs : Array Value} {n : Nat} (h : Blk w g t cs) (hn : n ≤ cs.size) : w.there g 0 n := fun j hj => by
  refine ⟨?_, h.frozen _⟩
  rw [h.cell]
  simp
  omega
namespace Wr
/-- the encoding of a string -/
def encB (s : List UInt8) : List UInt8 := enc s.length ++ s
/-- the encodings of elements, one behind the other -/
def encL {α : Type} (e : α → List UInt8) (l : List α) : List UInt8 := l.flatMap e
theorem encL_nil {α : Type} (e : α → List UInt8) : encL e [] = [] := rfl
theorem encL_snoc {α : Type} (e : α → List UInt8) (l : List α) (x : α) : encL e (l ++ [x]) = encL e l ++ e x := by simp [encL, List.flatMap_append]
theorem encL_take {α : Type} (e : α → List UInt8) (l : List α) (k : Nat) (h : k < l.length) : encL e (l.take (k + 1)) = encL e (l.take k) ++ e l[k] := by
  rw [List.take_succ_eq_append_getElem h, encL_snoc]
theorem encL_take_le {α : Type} (e : α → List UInt8) (l : List α) (k : Nat) : (encL e (l.take k)).length ≤ (encL e l).length := by
  have h : encL e l = encL e (l.take k) ++ encL e (l.drop k) := by
    conv => lhs; rw [← List.take_append_drop k l]
    unfold encL
    rw [List.flatMap_append]
  rw [h, List.length_append]
  exact Nat.le_add_right _ _
theorem encB_len (s : List UInt8) : (encB s).length = (enc s.length).length + s.length := by simp [encB]
set_option maxRecDepth 100000 in
theorem xor_toNat (c : UInt8) : (c ^^^ 255).toNat = 255 - c.toNat := by
  have H : ∀ c : Fin 256, (UInt8.ofNat c.val ^^^ 255).toNat = 255 - c.val := by decide
  have := H ⟨c.toNat, c.toNat_lt⟩
  simpa using this
theorem head_val (k : Nat) (hk : k ≤ 8) : (UInt8.ofNat (128 + k) ^^^ 255).toNat = 127 - k ∧ (UInt8.ofNat (128 + k)).toNat = 128 + k := by
  have h : ∀ k : Fin 9, (UInt8.ofNat (128 + k.val) ^^^ 255).toNat = 127 - k.val ∧ (UInt8.ofNat (128 + k.val)).toNat = 128 + k.val := by decide
  exact h ⟨k, by omega⟩
theorem map_xor_zero (x : List UInt8) : x.map (· ^^^ (0 : UInt8)) = x := by
  conv => rhs; rw [← List.map_id x]
  apply List.map_congr_left
  intro a _
  simp
end Wr
theorem own_slice {w : World} {b e size n : Nat} {v : Value} {xs : List Value} (h : w.ownsRow b e size v n xs) : ∃ A c, v = .slice A n c ∧ n ≤ c ∧ (A = none → n = 0) := by
  rcases h.2 with ⟨rfl, rfl⟩ | ⟨g, cap, cur, rfl, _, _, hc, _⟩
  · exact ⟨none, 0, rfl, Nat.le_refl _, fun _ => rfl⟩
  · exact ⟨_, _, rfl, hc, fun h => by cases h⟩
theorem reads_item {w : World} {B n : Nat} {A : Option Addr} {xs : List Value} (hr : Reads w B 1 A n xs) (k : Nat) (hk : k < n) : ∃ ad, A = some ad ∧ ∃ hx : k < xs.length, w.cell? (ad.add k) = some xs[k] := by
  obtain ⟨ad, u, rfl, _, hx, hc⟩ := hr.at_ hk
  have hl : k < xs.length := by have := hr.1; omega
  rw [List.getElem?_eq_getElem hl] at hx
  injection hx with hx
  subst hx
  exact ⟨ad, rfl, hl, hc⟩
set_option linter.unusedVariables false
set_option linter.unusedSimpArgs false
theorem byteInfo : (Try.prog.info? 5).map (fun i => (i.zero, i.size, i.bytes)) = some (some (.int .u8 0), 1, 1) := by kernel_rfl
/-- v' in w' is what v in w has become: it owns the cells xs; of what was in w nothing else has changed -/
structure Onto (base : Nat) (w : World) (v : Value) (w' : World) (v' : Value) (n : Nat) (xs : List Value) : Prop where
  own : w'.ownsRow base 5 1 v' n xs
  grow : w.grownBy w' v.ownBlock
  at_ : v'.ownBlock = v.ownBlock ∨ ∃ k, v'.ownBlock = some k ∧ w.heap.size ≤ k
theorem Onto.refl {base : Nat} {w : World} {v : Value} {n : Nat} {xs : List Value} (h : w.ownsRow base 5 1 v n xs) : Onto base w v w v n xs := ⟨h, World.grownBy.refl w _, .inl rfl⟩
theorem Onto.trans {base : Nat} {w w1 w2 : World} {v v1 v2 : Value} {n1 n2 : Nat} {xs1 xs2 : List Value} (h : Onto base w v w1 v1 n1 xs1) (k : Onto base w1 v1 w2 v2 n2 xs2) : Onto base w v w2 v2 n2 xs2 := by
  refine ⟨k.own, ⟨k.grow.os.trans h.grow.os, k.grow.tape.trans h.grow.tape, k.grow.output.trans h.grow.output, Nat.le_trans h.grow.size k.grow.size, fun i hi hne => ?_⟩, ?_⟩
  · have hs := h.grow.size
    refine (k.grow.block i (by omega) ?_).trans (h.grow.block i hi hne)
    rcases h.at_ with e | ⟨g, e, hg⟩
    · rw [e]; exact hne
    · rw [e]; intro he; injection he with he; omega
  · have hs := h.grow.size
    rcases k.at_ with e | ⟨g, e, hg⟩
    · rcases h.at_ with e' | ⟨g', e', hg'⟩
      · exact .inl (e.trans e')
      · exact .inr ⟨g', e.trans e', hg'⟩
    · exact .inr ⟨g, e, by omega⟩
theorem Onto.alloc {base : Nat} {w w1 : World} {v v1 : Value} {n : Nat} {xs : List Value} (h : Onto base w v w1 v1 n xs) (o : Obj) : Onto base w v (w1.alloc o) v1 n xs :=
  ⟨h.own.alloc o, only_alloc h.grow o, h.at_⟩
theorem Onto.append {base : Nat} {w w1 w2 : World} {v v1 v2 : Value} {n m : Nat} {xs news : List Value} (h : Onto base w v w1 v1 n xs) (h1 : w2.ownsRow base 5 1 v2 (n + m) (xs ++ news)) (h2 : w1.grownBy w2 v1.ownBlock)
    (h3 : v2.ownBlock = v1.ownBlock ∨ v2.ownBlock = some w1.heap.size) : Onto base w v w2 v2 (n + m) (xs ++ news) :=
  h.trans ⟨h1, h2, h3.elim .inl fun e => .inr ⟨_, e, Nat.le_refl _⟩⟩
theorem Onto.form {base : Nat} {w w1 : World} {v v1 : Value} {n : Nat} {xs : List Value} (h : Onto base w v w1 v1 n xs) (hn : 0 < n) : ∃ g cap, v1 = .slice (some ⟨g, 0, none⟩) n cap ∧ n ≤ cap := by
  rcases h.own.2 with ⟨_, h0⟩ | ⟨g, cap, cur, hv, _, _, hc, _⟩
  · omega
  · exact ⟨g, cap, hv, hc⟩
/-- one new cell, as append reads it -/
theorem reads_new (w : World) (v : Value) (t : TypeId) : Reads (w.alloc (.cells #[v] t)) (w.alloc (.cells #[v] t)).heap.size 1 (some ⟨w.heap.size, 0, none⟩) 1 [v] := by
  refine ⟨rfl, fun _ => ⟨_, rfl, by simp, fun j u hj => ?_⟩⟩
  cases j with
  | zero =>
    simp at hj
    subst hj
    show (w.alloc (.cells #[v] t)).cell? ⟨w.heap.size, 0, none⟩ = _
    rw [World.cell?_alloc_at _ _ _ _ rfl]; rfl
  | succ j => simp at hj
set_option linter.unusedVariables false
set_option linter.unusedSimpArgs false
theorem below_grown {base : Nat} {w w' : World} {e : TypeId} {size n : Nat} {v : Value} {xs : List Value} (h : w.grownBy w' v.ownBlock) (ho : w.ownsRow base e size v n xs) (hb : base ≤ w.heap.size) : Below base w w' :=
  (Below.refl _ _).grown h hb (fun k hk => (ho.lt k hk).1)
set_option linter.unusedVariables false
set_option linter.unusedSimpArgs false
theorem conv_own {w : World} {b n : Nat} {v : Value} {l : List UInt8} (h : w.ownsRow b 5 1 v n (BV l)) {W : World} (hW : Below w.heap.size w W) :
    (convert 26 9 v).run Try.prog W = .ok (.string (S l)) W := by
  obtain ⟨A, c, rfl, _, _⟩ := own_slice h
  exact run_conv_reads (P := Try.prog) ((Reads.of_own h).below hW) _ _ _ _ Try.underlying26 Try.underlying5 Try.underlying9
theorem own_form {w : World} {b n : Nat} {v : Value} {xs : List Value} (h : w.ownsRow b 5 1 v n xs) (hn : 0 < n) : ∃ g cap, v = .slice (some ⟨g, 0, none⟩) n cap ∧ n ≤ cap ∧ Reads w w.heap.size 1 (some ⟨g, 0, none⟩) n xs := by
  obtain ⟨A, c, rfl, hnc, _⟩ := own_slice h
  obtain ⟨g, cap, hv, _, _⟩ := h.form hn
  injection hv with h1 h2 h3
  subst h1
  exact ⟨g, c, rfl, hnc, Reads.of_own h⟩
theorem own_below {w w' : World} {b e size n : Nat} {v : Value} {xs : List Value} (h : w.ownsRow b e size v n xs) (hb : Below w.heap.size w w') : w'.ownsRow b e size v n xs := by
  refine ⟨h.1, ?_⟩
  rcases h.2 with h0 | ⟨g, cap, cur, h1, h2, h3, h4⟩
  · exact .inl h0
  · refine .inr ⟨g, cap, cur, h1, h2, ?_, h4⟩
    have hg : g < w.heap.size := by
      rcases Nat.lt_or_ge g w.heap.size with h | h
      · exact h
      · rw [Array.getElem?_eq_none h] at h3; cases h3
    rw [hb.block g hg]; exact h3
theorem own_empty (w : World) : (w.alloc (.cells #[] 5)).ownsRow w.heap.size 5 1 (.slice (some ⟨w.heap.size, 0, none⟩) 0 0) 0 [] :=
  ⟨rfl, .inr ⟨w.heap.size, 0, #[], rfl, Nat.le_refl _, heap_alloc_new w _, Nat.le_refl _, by unfold maxLen; omega, rfl, rfl⟩⟩
theorem below_alloc (w : World) (o : Obj) : Below w.heap.size w (w.alloc o) := ⟨rfl, rfl, rfl, by simp, fun k hk => Below.heap_alloc w o k hk⟩
theorem wp_region_below {P : Program} {id : Nat} {Q : Exit → Act → World → Prop} {a : Act} {w : World} {l : List Oper} (hm : P.follows .mixedOrders = true) (hB : Region.lexB .any l.toArray = true)
    (h : wpQuiet P l.toArray (fun w' => Below w.heap.size w w') (fun a' => ∀ w', Below w.heap.size w w' → Q .normal a' w') l a) : (Code.region id l.toArray true).wp P Q a w :=
  wp_region_quiet (C := fun w' => Below w.heap.size w w') hm hB (by exact (Below.refl w.heap.size w).drew) (by simpa using h)
theorem below_then {a b c : World} (h : Below a.heap.size a b) (k : Below b.heap.size b c) : Below a.heap.size a c := h.trans (k.mono h.size)
theorem below_drawn {w w' : World} (h : Below w.drew.heap.size w.drew w') : Below w.heap.size w w' := ⟨h.os, h.tape, h.output, h.size, h.block⟩
theorem below_alloc' {B : Nat} (w : World) (o : Obj) (h : B ≤ w.heap.size) : Below B w (w.alloc o) := (below_alloc w o).mono h
set_option linter.unusedVariables false
set_option linter.unusedSimpArgs false
theorem conv_bytes (s : List UInt8) (W : World) : ∃ A c w', (convert 9 26 (.string (S s))).run Try.prog W = .ok (.slice (some A) (S s).size c) w' ∧ Reads w' w'.heap.size 1 (some A) (S s).size (BV s) ∧ Below W.heap.size W w' := by
  refine ⟨_, _, _, run_bytes_of_string W 9 26 5 (S s) Try.underlying9 Try.underlying26 Try.underlying5, ⟨by rw [BV_len, Nat.mul_one]; rfl, fun _ => ⟨_, rfl, by simp, fun j u hj => ?_⟩⟩, ⟨rfl, rfl, rfl, by simp, fun k hk => ?_⟩⟩
  · rw [show ((⟨W.heap.size, 0, none⟩ : Addr).add j) = ⟨W.heap.size, j, none⟩ by simp [Addr.add]; intro h; omega]
    have hjl : j < s.length := by
      rcases Nat.lt_or_ge j s.length with h | h
      · exact h
      · rw [List.getElem?_eq_none (by rw [BV_len]; exact h)] at hj; cases hj
    refine (cell_of_row _ W.heap.size j _ 5 _ (show (World.alloc W.drew _).heap[W.heap.size]? = some _ from Array.getElem?_push_size)).trans ?_
    rw [bytesRow_at (S s) _ j (by simpa [S] using hjl)]
    rw [BV_get s j hjl] at hj
    simpa [S] using hj
  · exact Below.heap_alloc W.drew _ k hk
end Go.Proofs.Ytbcfndhnopmbbaa
