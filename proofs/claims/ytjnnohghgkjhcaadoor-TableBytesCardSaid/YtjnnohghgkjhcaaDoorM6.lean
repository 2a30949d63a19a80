/-
  A region that draws its order, by what each operation's value is good for: whatever the order, each operation finds the values that it waits for, and leaves all others good for what they were.
-/
import Derived.Test.YtjnnohghgkjhcaaDoorM4
import Derived.Test.YtjnnohghgkjhcaaDoorM5
import Derived.Test.YtjnnohghgkjhcaaDoorM3
namespace Go.Proofs.YtjnnohghgkjhcaaDoor
open Go.RowKit
set_option linter.unusedVariables false
set_option linter.unusedSimpArgs false
def upd (x : Nat → Value) (i : Nat) (v : Value) : Nat → Value := fun j => if j = i then v else x j
theorem upd_same (x : Nat → Value) (i : Nat) (v : Value) : upd x i v i = v := if_pos rfl
theorem upd_ne (x : Nat → Value) {i j : Nat} (v : Value) (h : j ≠ i) : upd x i v j = x j := if_neg h
def depsOf (ops : Array Oper) (i : Nat) : List Nat := ((ops[i]?).map fun o => (o.after.toList.filter (Region.binds .any)).map (·.on)).getD []
def backward_ (ops : Array Oper) : Bool := (List.range ops.size).all fun i => (depsOf ops i).all fun j => decide (j < i)
section
variable {P : Program} {ops : Array Oper} {Q : Exit → Act → World → Prop}
theorem deps_ready {ls : Array Bool} {i : Nat} (h : i ∈ Region.ready .any ops ls) : ∀ j ∈ depsOf ops i, ls.getD j false = true := by
 obtain ⟨_, o, ho, hall⟩ := mem_ready.1 h
 intro j hj
 unfold depsOf at hj
 rw [ho] at hj
 simp only [Option.map_some, Option.getD_some, List.mem_map, List.mem_filter] at hj
 obtain ⟨e, ⟨he, hb⟩, rfl⟩ := hj
 exact hall e (by simpa using he) hb
theorem all_listed {ls : Array Bool} (hs : ls.size = ops.size) (hb : backward_ ops = true) (h : Region.ready .any ops ls = []) : ∀ i, i < ops.size → ls.getD i true = true := by
 have hB : ∀ i, i < ops.size → ∀ j ∈ depsOf ops i, j < i := by
  unfold backward_ at hb
  simp only [List.all_eq_true, List.mem_range, decide_eq_true_eq] at hb
  exact hb
 intro i
 induction i using Nat.strongRecOn with
 | ind i ih =>
  intro hi
  cases hl : ls.getD i true with
  | true => rfl
  | false =>
   exfalso
   have hr : i ∈ Region.ready .any ops ls := by
    refine mem_ready.2 ⟨hl, ops[i], Array.getElem?_eq_getElem hi, fun e he hbd => ?_⟩
    have hd : e.on ∈ depsOf ops i := by
     unfold depsOf
     rw [Array.getElem?_eq_getElem hi]
     simp only [Option.map_some, Option.getD_some, List.mem_map, List.mem_filter]
     exact ⟨e, ⟨by simpa using he, hbd⟩, rfl⟩
    have hlt := hB i hi _ hd
    have h1 := ih _ hlt (by omega)
    have h2 : e.on < ls.size := by omega
    simp only [Array.getD_eq_getD_getElem?, Array.getElem?_eq_getElem h2, Option.getD_some] at h1 ⊢
    exact h1
   rw [h] at hr
   cases hr
theorem count_set (ls : Array Bool) (i : Nat) (h : ls.getD i true = false) : (ls.setIfInBounds i true).toList.count false + 1 = ls.toList.count false := by
 have hi : i < ls.size := by
  rcases Nat.lt_or_ge i ls.size with h1 | h1
  ·exact h1
  ·simp [Array.getD_eq_getD_getElem?, Array.getElem?_eq_none h1] at h
 have hv : ls.toList[i]'(by simpa using hi) = false := by
  simp only [Array.getD_eq_getD_getElem?, Array.getElem?_eq_getElem hi, Option.getD_some] at h
  simpa using h
 rw [Array.toList_setIfInBounds, List.count_set (by simpa using hi), hv]
 have hpos : 0 < ls.toList.count false := List.count_pos_iff.2 (hv ▸ List.getElem_mem _)
 rw [if_pos (by decide), if_neg (by decide)]
 omega
theorem wpAny_spec (mk : (Nat → Value) → Act) (R : Nat → Value → World → Prop) (C : World → Prop) (hb : backward_ ops = true)
  (hstep : ∀ i, i < ops.size → ∀ x W, C W → (∀ j ∈ depsOf ops i, R j (x j) W) → wpOp P ops Q i (fun b W' => ∃ v, b = mk (upd x i v) ∧ R i v W' ∧ (∀ j, j ≠ i → ∀ u, R j u W → R j u W') ∧ C W') (mk x) W)
  (hfin : ∀ x W, C W → (∀ i, i < ops.size → R i (x i) W) → Q .normal (mk x) W) :
  ∀ (f : Nat) (ls : Array Bool) (x : Nat → Value) (W : World), ls.size = ops.size → ls.toList.count false = f → C W → (∀ j, j < ops.size → ls.getD j true = true → R j (x j) W) → wpAny P .any ops Q f ls (mk x) W
 | 0, ls, x, W, hs, hc, hC, hR => by
  have hall : ∀ j, j < ops.size → ls.getD j true = true := fun j hj => by
   cases h : ls.getD j true with
   | true => rfl
   | false => have := count_set ls j h; omega
  refine ⟨?_, hfin x W hC fun i hi => hR i hi (hall i hi)⟩
  rw [List.eq_nil_iff_forall_not_mem]
  intro i hi
  obtain ⟨h0, o, ho, _⟩ := mem_ready.1 hi
  have h1 := hall i (Array.getElem?_eq_some_iff.1 ho).1
  rw [h1] at h0
  cases h0
 | f + 1, ls, x, W, hs, hc, hC, hR => by
  refine ⟨fun h => hfin x W hC fun i hi => hR i hi (all_listed hs hb h i hi), fun i hi => ?_⟩
  obtain ⟨h0, o, ho, _⟩ := mem_ready.1 hi
  have hin := (Array.getElem?_eq_some_iff.1 ho).1
  refine wpOp_mono ?_ (hstep i hin x W hC fun j hj => ?_)
  ·rintro b W' ⟨v, rfl, hv, hk, hC'⟩
   refine wpAny_spec mk R C hb hstep hfin f _ (upd x i v) W' (by simpa using hs) (by have := count_set ls i h0; omega) hC' fun j hj hl => ?_
   by_cases he : j = i
   ·subst he
    rw [upd_same]
    exact hv
   ·rw [upd_ne x v he]
    rw [getD_set_ne true (Ne.symm he)] at hl
    exact hk j he _ (hR j hj hl)
  ·have h1 := deps_ready hi j hj
   have hjs : j < ls.size := by
    rcases Nat.lt_or_ge j ls.size with h2 | h2
    ·exact h2
    ·simp [Array.getD_eq_getD_getElem?, Array.getElem?_eq_none h2] at h1
   refine hR j (by omega) ?_
   simp only [Array.getD_eq_getD_getElem?, Array.getElem?_eq_getElem hjs, Option.getD_some] at h1 ⊢
   exact h1
theorem wp_region_spec {id : Nat} {w : World} (mk : (Nat → Value) → Act) (x0 : Nat → Value) (R : Nat → Value → World → Prop) (C : World → Prop) (hm : P.follows .mixedOrders = true) (hb : backward_ ops = true) (hC : C w.drew)
  (hstep : ∀ i, i < ops.size → ∀ x W, C W → (∀ j ∈ depsOf ops i, R j (x j) W) → wpOp P ops Q i (fun b W' => ∃ v, b = mk (upd x i v) ∧ R i v W' ∧ (∀ j, j ≠ i → ∀ u, R j u W → R j u W') ∧ C W') (mk x) W)
  (hfin : ∀ x W, C W → (∀ i, i < ops.size → R i (x i) W) → Q .normal (mk x) W) : (Code.region id ops true).wp P Q (mk x0) w := by
 refine wp_region_any hm (wpAny_spec mk R C hb hstep hfin _ _ x0 _ (by simp) ?_ hC fun j hj hl => ?_)
 ·rw [Array.toList_replicate, List.count_replicate]
  simp
 ·simp [hj] at hl
end
def putL : List (Option Tmp) → Nat → (Nat → Value) → Act → Act
 | [], _, _, a => a
 | d :: r, k, x, a => putL r (k + 1) x (a.put d (x k))
theorem putL_congr {x y : Nat → Value} : ∀ (ds : List (Option Tmp)) (k : Nat) (a : Act), (∀ j, k ≤ j → x j = y j) → putL ds k x a = putL ds k y a
 | [], _, _, _ => rfl
 | d :: r, k, a, h => by
  show putL r (k + 1) x (a.put d (x k)) = putL r (k + 1) y (a.put d (y k))
  rw [h k (Nat.le_refl _), putL_congr r (k + 1) _ fun j hj => h j (by omega)]
theorem put_put (a : Act) (d : Option Tmp) (u v : Value) : (a.put d u).put d v = a.put d v := by
 cases d with
 | none => rfl
 | some t =>
  unfold Act.put
  simp
theorem put_comm (a : Act) (d e : Option Tmp) (u v : Value) (h : d ≠ e ∨ d = none) : (a.put d u).put e v = (a.put e v).put d u := by
 cases d with
 | none => rfl
 | some t =>
  cases e with
  | none => rfl
  | some t' =>
   have hne : t ≠ t' := by
    rcases h with h | h
    ·exact fun e => h (by rw [e])
    ·cases h
   unfold Act.put
   simp only [Act.mk.injEq, and_true]
   exact Array.setIfInBounds_comm _ _ hne
def slotsApart : List (Option Tmp) → Bool
 | [] => true
 | none :: r => slotsApart r
 | some t :: r => (r.all fun e => !(e == some t)) && slotsApart r
theorem putL_put : ∀ (ds : List (Option Tmp)) (k : Nat) (x : Nat → Value) (a : Act) (d : Option Tmp) (v : Value), (d = none ∨ ∀ e ∈ ds, e ≠ d) → (putL ds k x a).put d v = putL ds k x (a.put d v)
 | [], _, _, _, _, _, _ => rfl
 | e :: r, k, x, a, d, v, h => by
  show (putL r (k + 1) x (a.put e (x k))).put d v = putL r (k + 1) x ((a.put d v).put e (x k))
  rw [putL_put r (k + 1) x _ d v (h.imp id fun h f hf => h f (by simp [hf]))]
  congr 1
  rcases h with h | h
  ·subst h; rfl
  ·exact put_comm a e d (x k) v (.inl (h e (by simp)))
theorem putL_set : ∀ (ds : List (Option Tmp)) (k : Nat) (x : Nat → Value) (a : Act) (i : Nat) (v : Value) (d : Option Tmp), slotsApart ds = true → ds[i]? = some d → (putL ds k x a).put d v = putL ds k (upd x (k + i) v) a
 | [], _, _, _, _, _, _, _, h => by cases h
 | e :: r, k, x, a, 0, v, d, hs, h => by
  have hd : e = d := by simpa using h
  subst hd
  show (putL r (k + 1) x (a.put e (x k))).put e v = putL r (k + 1) (upd x k v) (a.put e (upd x k v k))
  rw [upd_same, putL_put r (k + 1) x _ e v ?_, put_put]
  ·exact putL_congr r (k + 1) _ fun j hj => (upd_ne x v (by omega)).symm
  ·cases e with
   | none => exact .inl rfl
   | some t =>
    right
    unfold slotsApart at hs
    simp only [Bool.and_eq_true, List.all_eq_true] at hs
    intro f hf he
    have := hs.1 f hf
    rw [he] at this
    simp at this
 | e :: r, k, x, a, i + 1, v, d, hs, h => by
  show (putL r (k + 1) x (a.put e (x k))).put d v = putL r (k + 1) (upd x (k + (i + 1)) v) (a.put e (upd x (k + (i + 1)) v k))
  have hs' : slotsApart r = true := by
   cases e with
   | none => exact hs
   | some t =>
    unfold slotsApart at hs
    rw [Bool.and_eq_true] at hs
    exact hs.2
  rw [putL_set r (k + 1) x _ i v d hs' (by simpa using h), upd_ne x v (by omega : k ≠ k + (i + 1)), show k + 1 + i = k + (i + 1) by omega]
theorem putL_self : ∀ (ds : List (Option Tmp)) (k : Nat) (a : Act), ∃ x, putL ds k x a = a
 | [], _, a => ⟨fun _ => undef, rfl⟩
 | d :: r, k, a => by
  have h1 : ∃ v, a.put d v = a := by
   cases d with
   | none => exact ⟨undef, rfl⟩
   | some t =>
    refine ⟨a.tmps.getD t undef, ?_⟩
    have e : a.tmps.setIfInBounds t (a.tmps.getD t undef) = a.tmps := ?_
    ·show ({ a with tmps := a.tmps.setIfInBounds t (a.tmps.getD t undef) } : Act) = a
     rw [e]
    apply Array.ext_getElem?
    intro i
    rw [Array.getElem?_setIfInBounds]
    split
    ·rename_i hi
     subst hi
     split
     ·rename_i hlt
      simp [Array.getElem?_eq_getElem hlt]
     ·rename_i hlt
      rw [Array.getElem?_eq_none (by omega)]
    ·rfl
  obtain ⟨v, hv⟩ := h1
  obtain ⟨x, hx⟩ := putL_self r (k + 1) a
  refine ⟨upd x k v, ?_⟩
  show putL r (k + 1) (upd x k v) (a.put d (upd x k v k)) = a
  rw [upd_same, hv, putL_congr (y := x) r (k + 1) a fun j hj => upd_ne x v (by omega), hx]
theorem wp_region_good {P : Program} {ops : Array Oper} {Q : Exit → Act → World → Prop} {id : Nat} {a : Act} {w : World} (ds : List (Option Tmp)) (R : Nat → Value → World → Prop) (C : World → Prop) (hm : P.follows .mixedOrders = true) (hb : backward_ ops = true)
  (hds : ops.toList.map (·.dst) = ds) (hsa : slotsApart ds = true) (hC : C w.drew)
  (hstep : ∀ i, i < ops.size → ∀ x W, C W → (∀ j ∈ depsOf ops i, R j (x j) W) → wpOp P ops Q i (fun b W' => ∃ v, b = (putL ds 0 x a).put (ds.getD i none) v ∧ R i v W' ∧ (∀ j, j ≠ i → ∀ u, R j u W → R j u W') ∧ C W') (putL ds 0 x a) W)
  (hfin : ∀ x W, C W → (∀ i, i < ops.size → R i (x i) W) → Q .normal (putL ds 0 x a) W) : (Code.region id ops true).wp P Q a w := by
 obtain ⟨x0, hx0⟩ := putL_self ds 0 a
 have h := wp_region_spec (P := P) (ops := ops) (Q := Q) (id := id) (w := w) (fun x => putL ds 0 x a) x0 R C hm hb hC (fun i hi x W hC hd => ?_) hfin
 ·simp only [hx0] at h
  exact h
 ·refine wpOp_mono ?_ (hstep i hi x W hC hd)
  rintro b W' ⟨v, rfl, h1, h2, h3⟩
  refine ⟨v, ?_, h1, h2, h3⟩
  have hl : i < ds.length := by rw [← hds]; simpa using hi
  have e := putL_set ds 0 x a i v (ds[i]'hl) hsa (List.getElem?_eq_getElem hl)
  rw [Nat.zero_add] at e
  rw [← e]
  simp [List.getD, hl]
def lastWaits (ops : Array Oper) (n : Nat) : Bool := decide (ops.size = n + 1) && (List.range n).all fun i => (depsOf ops n).contains i
theorem wpAny_two {P : Program} {ops : Array Oper} {Q : Exit → Act → World → Prop} (m n : Nat) (hmn : m < n) (mk : (Nat → Value) → Act) (R : Nat → Value → World → Prop) (C : Bool → World → Prop) (hb : backward_ ops = true) (hl : lastWaits ops n = true)
  (hstep : ∀ i, i < n → i ≠ m → ∀ c x W, C c W → (∀ j ∈ depsOf ops i, R j (x j) W) → wpOp P ops Q i (fun b W' => ∃ v, b = mk (upd x i v) ∧ R i v W' ∧ (∀ j, j ≠ i → ∀ u, R j u W → R j u W') ∧ C c W') (mk x) W)
  (hmid : ∀ x W, C false W → (∀ j ∈ depsOf ops m, R j (x j) W) → wpOp P ops Q m (fun b W' => ∃ v, b = mk (upd x m v) ∧ R m v W' ∧ (∀ j, j ≠ m → ∀ u, R j u W → R j u W') ∧ C true W') (mk x) W)
  (hlast : ∀ x W, C true W → (∀ i, i < n → R i (x i) W) → wpOp P ops Q n (fun b W' => Q .normal b W') (mk x) W) :
  ∀ (f : Nat) (ls : Array Bool) (x : Nat → Value) (W : World), ls.size = ops.size → ls.toList.count false = f → ls.getD n true = false → C (ls.getD m false) W → (∀ j, j < n → ls.getD j true = true → R j (x j) W) → wpAny P .any ops Q f ls (mk x) W
 | 0, ls, x, W, hs, hc, hn, hC, hR => by
  have := count_set ls n hn
  omega
 | f + 1, ls, x, W, hs, hc, hn, hC, hR => by
  have hsz : ops.size = n + 1 := by
   unfold lastWaits at hl
   rw [Bool.and_eq_true] at hl
   exact of_decide_eq_true hl.1
  have hdn : ∀ i, i < n → i ∈ depsOf ops n := fun i hi => by
   unfold lastWaits at hl
   rw [Bool.and_eq_true, List.all_eq_true] at hl
   simpa using hl.2 i (List.mem_range.2 hi)
  refine ⟨fun h => ?_, fun i hi => ?_⟩
  ·have := all_listed hs hb h n (by omega)
   rw [this] at hn
   cases hn
  ·obtain ⟨h0, o, ho, _⟩ := mem_ready.1 hi
   have hin := (Array.getElem?_eq_some_iff.1 ho).1
   have both : ∀ j, ls.getD j false = true → ls.getD j true = true := fun j h1 => by
    rcases Nat.lt_or_ge j ls.size with h2 | h2
    ·simp only [Array.getD_eq_getD_getElem?, Array.getElem?_eq_getElem h2, Option.getD_some] at h1 ⊢
     exact h1
    ·simp [Array.getD_eq_getD_getElem?, Array.getElem?_eq_none h2]
   have hd : ∀ j ∈ depsOf ops i, ls.getD j true = true := fun j hj => both j (deps_ready hi j hj)
   by_cases hin2 : i = n
   ·subst hin2
    have hall : ∀ j, j < i → ls.getD j true = true := fun j hj => hd j (hdn j hj)
    have hmt : ls.getD m false = true := deps_ready hi m (hdn m hmn)
    rw [hmt] at hC
    refine wpOp_mono (fun b W' hq => ?_) (hlast x W hC fun j hj => hR j hj (hall j hj))
    have hz : (ls.setIfInBounds i true).toList.count false = 0 := by
     rw [List.count_eq_zero]
     intro hm
     obtain ⟨k, hk, he⟩ := List.getElem_of_mem hm
     have hk2 : k < ls.size := by simpa using hk
     by_cases hki : k = i
     ·subst hki
      simp at he
     ·have h1 := hall k (by omega)
      simp only [Array.getD_eq_getD_getElem?, Array.getElem?_eq_getElem hk2, Option.getD_some] at h1
      have h2 : (ls.setIfInBounds i true).toList[k] = ls[k] := by
       simp [Array.getElem_setIfInBounds, Ne.symm hki]
      rw [h2, h1] at he
      cases he
    have hf : f = 0 := by have := count_set ls i h0; omega
    subst hf
    refine ⟨?_, hq⟩
    rw [List.eq_nil_iff_forall_not_mem]
    intro j hj
    obtain ⟨hj0, p, hp, _⟩ := mem_ready.1 hj
    have := count_set _ j hj0
    omega
   ·have hR' : ∀ j ∈ depsOf ops i, R j (x j) W := fun j hj => hR j (by
     unfold backward_ at hb
     simp only [List.all_eq_true, List.mem_range, decide_eq_true_eq] at hb
     have := hb i hin j hj
     omega) (hd j hj)
    have next : ∀ (c' : Bool), (ls.setIfInBounds i true).getD m false = c' → ∀ b W', (∃ v, b = mk (upd x i v) ∧ R i v W' ∧ (∀ j, j ≠ i → ∀ u, R j u W → R j u W') ∧ C c' W') → wpAny P .any ops Q f (ls.setIfInBounds i true) b W' := by
     rintro c' hc' b W' ⟨v, rfl, hv, hk, hC'⟩
     refine wpAny_two m n hmn mk R C hb hl hstep hmid hlast f _ (upd x i v) W' (by simpa using hs) (by have := count_set ls i h0; omega) ?_ (by rw [hc']; exact hC') fun j hj hlj => ?_
     ·rw [getD_set_ne true (by exact hin2)]
      exact hn
     ·by_cases he : j = i
      ·subst he
       rw [upd_same]
       exact hv
      ·rw [upd_ne x v he]
       rw [getD_set_ne true (Ne.symm he)] at hlj
       exact hk j he _ (hR j hj hlj)
    by_cases him : i = m
    ·subst him
     have hf0 : ls.getD i false = false := by
      rcases Nat.lt_or_ge i ls.size with h2 | h2
      ·simp only [Array.getD_eq_getD_getElem?, Array.getElem?_eq_getElem h2, Option.getD_some] at h0 ⊢
       exact h0
      ·simp [Array.getD_eq_getD_getElem?, Array.getElem?_eq_none h2]
     rw [hf0] at hC
     refine wpOp_mono (next true ?_) (hmid x W hC hR')
     have h2 : i < ls.size := by omega
     simp [h2]
    ·refine wpOp_mono (next _ (getD_set_ne false him)) (hstep i (by omega) him _ x W hC hR')
theorem getD_put_same (a : Act) (t : Tmp) (v : Value) (h : t < a.tmps.size) : (a.put (some t) v).tmps[t]?.getD undef = v := by
 show (a.tmps.setIfInBounds t v)[t]?.getD undef = v
 rw [Array.getElem?_setIfInBounds_self_of_lt h]
 rfl
theorem getD_put_other (a : Act) (d : Option Tmp) (t : Tmp) (v : Value) (h : d ≠ some t) : (a.put d v).tmps[t]?.getD undef = a.tmps[t]?.getD undef := by
 cases d with
 | none => rfl
 | some u =>
  show (a.tmps.setIfInBounds u v)[t]?.getD undef = _
  rw [Array.getElem?_setIfInBounds_ne (fun e => h (by rw [e]))]
theorem size_put (a : Act) (d : Option Tmp) (v : Value) : (a.put d v).tmps.size = a.tmps.size := by
 cases d with
 | none => rfl
 | some u => show (a.tmps.setIfInBounds u v).size = _; simp
theorem getD_putL_other (t : Tmp) : ∀ (ds : List (Option Tmp)) (k : Nat) (x : Nat → Value) (a : Act), (∀ d ∈ ds, d ≠ some t) → (putL ds k x a).tmps[t]?.getD undef = a.tmps[t]?.getD undef
 | [], _, _, _, _ => rfl
 | d :: r, k, x, a, h => by
  show (putL r (k + 1) x (a.put d (x k))).tmps[t]?.getD undef = _
  rw [getD_putL_other t r (k + 1) x _ fun e he => h e (by simp [he]), getD_put_other a d t (x k) (h d (by simp))]
theorem getD_putL : ∀ (ds : List (Option Tmp)) (k : Nat) (x : Nat → Value) (a : Act) (i : Nat) (t : Tmp), slotsApart ds = true → ds[i]? = some (some t) → t < a.tmps.size → (putL ds k x a).tmps[t]?.getD undef = x (k + i)
 | [], _, _, _, _, _, _, h, _ => by cases h
 | d :: r, k, x, a, 0, t, hs, h, ht => by
  have hd : d = some t := by simpa using h
  subst hd
  show (putL r (k + 1) x (a.put (some t) (x k))).tmps[t]?.getD undef = x (k + 0)
  rw [getD_putL_other t r (k + 1) x _ ?_, getD_put_same a t (x k) ht, Nat.add_zero]
  intro e he h2
  unfold slotsApart at hs
  simp only [Bool.and_eq_true, List.all_eq_true] at hs
  have := hs.1 e he
  rw [h2] at this
  simp at this
 | d :: r, k, x, a, i + 1, t, hs, h, ht => by
  have hs' : slotsApart r = true := by
   cases d with
   | none => exact hs
   | some u =>
    unfold slotsApart at hs
    rw [Bool.and_eq_true] at hs
    exact hs.2
  show (putL r (k + 1) x (a.put d (x k))).tmps[t]?.getD undef = x (k + (i + 1))
  rw [getD_putL r (k + 1) x _ i t hs' (by simpa using h) (by rw [size_put]; exact ht), show k + 1 + i = k + (i + 1) by omega]
def found (ds : List (Option Tmp)) (A : Act) (j : Nat) (v : Value) : Prop := ∀ t, ds[j]? = some (some t) → A.tmps[t]?.getD undef = v
theorem wp_region_three {P : Program} {ops : Array Oper} {Q : Exit → Act → World → Prop} {id : Nat} {a : Act} {w : World} (m n : Nat) (ds : List (Option Tmp)) (R : Nat → Value → World → Prop) (C : Bool → World → Prop) (hmn : m < n) (hm : P.follows .mixedOrders = true) (hb : backward_ ops = true) (hl : lastWaits ops n = true)
  (hds : (ops.toList.take n).map (·.dst) = ds) (hsa : slotsApart ds = true) (hsz : (ds.all fun d => match d with | some t => decide (t < a.tmps.size) | none => true) = true) (hC : C false w.drew)
  (hstep : ∀ i, i < n → i ≠ m → ∀ c (A : Act) (x : Nat → Value) W, C c W → (∀ j ∈ depsOf ops i, found ds A j (x j) ∧ R j (x j) W) → (∀ t, (ds.all fun d => !(d == some t)) = true → A.tmps[t]?.getD undef = a.tmps[t]?.getD undef) →
   wpOp P ops Q i (fun b W' => ∃ v, b = A.put (ds.getD i none) v ∧ R i v W' ∧ (∀ j, j ≠ i → ∀ u, R j u W → R j u W') ∧ C c W') A W)
  (hmid : ∀ (A : Act) (x : Nat → Value) W, C false W → (∀ j ∈ depsOf ops m, found ds A j (x j) ∧ R j (x j) W) → (∀ t, (ds.all fun d => !(d == some t)) = true → A.tmps[t]?.getD undef = a.tmps[t]?.getD undef) →
   wpOp P ops Q m (fun b W' => ∃ v, b = A.put (ds.getD m none) v ∧ R m v W' ∧ (∀ j, j ≠ m → ∀ u, R j u W → R j u W') ∧ C true W') A W)
  (hlast : ∀ x W, C true W → (∀ i, i < n → R i (x i) W) → wpOp P ops Q n (fun b W' => Q .normal b W') (putL ds 0 x a) W) : (Code.region id ops true).wp P Q a w := by
 obtain ⟨x0, hx0⟩ := putL_self ds 0 a
 have hon : ops.size = n + 1 := by
  unfold lastWaits at hl
  rw [Bool.and_eq_true] at hl
  exact of_decide_eq_true hl.1
 refine wp_region_any hm ?_
 have hlen : ds.length = n := by rw [← hds]; simp; omega
 have hfound : ∀ x j, j < n → found ds (putL ds 0 x a) j (x j) := fun x j hj t ht => by
  have h1 := getD_putL ds 0 x a j t hsa ht (by
   rw [List.all_eq_true] at hsz
   have := hsz (some t) (List.mem_of_getElem? ht)
   simpa using this)
  rwa [Nat.zero_add] at h1
 have hrest : ∀ x t, (ds.all fun d => !(d == some t)) = true → (putL ds 0 x a).tmps[t]?.getD undef = a.tmps[t]?.getD undef := fun x t ht => by
  refine getD_putL_other t ds 0 x a fun d hd he => ?_
  rw [List.all_eq_true] at ht
  have := ht d hd
  rw [he] at this
  simp at this
 have hB : ∀ i, i < ops.size → ∀ j ∈ depsOf ops i, j < i := by
  unfold backward_ at hb
  simp only [List.all_eq_true, List.mem_range, decide_eq_true_eq] at hb
  exact hb
 have conv : ∀ (i : Nat) (c : Bool) (x : Nat → Value) (W : World), i < n → wpOp P ops Q i (fun b W' => ∃ v, b = (putL ds 0 x a).put (ds.getD i none) v ∧ R i v W' ∧ (∀ j, j ≠ i → ∀ u, R j u W → R j u W') ∧ C c W') (putL ds 0 x a) W →
   wpOp P ops Q i (fun b W' => ∃ v, b = putL ds 0 (upd x i v) a ∧ R i v W' ∧ (∀ j, j ≠ i → ∀ u, R j u W → R j u W') ∧ C c W') (putL ds 0 x a) W := by
  intro i c x W hi h
  refine wpOp_mono ?_ h
  rintro b W' ⟨v, rfl, h1, h2, h3⟩
  refine ⟨v, ?_, h1, h2, h3⟩
  have hl2 : i < ds.length := by omega
  have e := putL_set ds 0 x a i v (ds[i]'hl2) hsa (List.getElem?_eq_getElem hl2)
  rw [Nat.zero_add] at e
  rw [← e]
  simp [List.getD, hl2]
 have h := wpAny_two (P := P) (ops := ops) (Q := Q) m n hmn (fun x => putL ds 0 x a) R C hb hl
  (fun i hi him c x W hC hd => conv i c x W hi (hstep i hi him c _ x W hC (fun j hj => ⟨hfound x j (by have := hB i (by omega) j hj; omega), hd j hj⟩) (hrest x)))
  (fun x W hC hd => conv m true x W hmn (hmid _ x W hC (fun j hj => ⟨hfound x j (by have := hB m (by omega) j hj; omega), hd j hj⟩) (hrest x))) hlast ops.size (Array.replicate ops.size false) x0 w.drew (by simp) (by rw [Array.toList_replicate, List.count_replicate]; simp) (by simp [hon]) (by simpa [show m < ops.size by omega] using hC) (fun j hj hlj => by simp [show j < ops.size by omega] at hlj)
 rw [hx0] at h
 exact h
namespace Ce
def around (x : Int) (m : Nat) : Nat := (if x < 0 then -(x + 1) else x).toNat % m
theorem around_lt (x : Int) (m : Nat) (h : 0 < m) : around x m < m := Nat.mod_lt _ h
end Ce
set_option maxHeartbeats 400000 in
set_option maxRecDepth 100000 in
theorem around_any (x : Int) (m : Nat) (w : World) (hx : Wr.inI x) (hm : 0 < m) (hm2 : m ≤ 1099511627776) :
  Calls Tryd.prog 12 #[.int .i64 x, .int .i64 (m : Int)] w fun e w' => e = .returned (.int .i64 ((Ce.around x m : Nat) : Int)) ∧ w = w' := by
 unfold Wr.inI at hx
 have h1 : ¬ ((m : Int) < 1) := by omega
 have hm0 : (0 : Int) ≤ (m : Int) := by omega
 have hmn : ¬ ((m : Int) = 0) := by omega
 by_cases hneg : x < 0
 ·have hw1 : wrap64 (x + 1) = x + 1 := by unfold wrap64; omega
  have hw2 : wrap64 (-(x + 1)) = -(x + 1) := by unfold wrap64; omega
  have hp : (0 : Int) ≤ -(x + 1) := by omega
  have HF := hide (show ((Ce.around x m : Nat) : Int) = (-(x + 1)) % (m : Int) by
   unfold Ce.around
   rw [if_pos hneg, Int.natCast_emod]
   congr 1
   omega)
  have hx9 : -9223372036854775808 ≤ x := hx.1
  clear hx
  go_enter Tryd.func12, Tryd.ntmps12
  go_wp2
  go_ret
  exact ⟨by rw [HF.out]; show Ending.returned (Value.int IntKind.i64 (-((x + 1).tmod (m : Int)))) = _; rw [← Int.neg_tmod, Int.tmod_eq_emod_of_nonneg hp], rfl⟩
 ·have hp : (0 : Int) ≤ x := by omega
  have HF := hide (show ((Ce.around x m : Nat) : Int) = x % (m : Int) by
   unfold Ce.around
   rw [if_neg hneg, Int.natCast_emod]
   congr 1
   omega)
  clear hx
  go_enter Tryd.func12, Tryd.ntmps12
  go_wp2
  go_ret
  exact ⟨by rw [HF.out]; first | rfl | simp, rfl⟩
theorem reads_byte {w : World} {B n : Nat} {A : Option Addr} {l : List UInt8} (hr : Reads w B 1 A n (BV l)) (k : Nat) (hk : k < n) : ∃ ad, A = some ad ∧ ad.block < B ∧ ∃ hx : k < l.length, w.cell? (ad.add k) = some (.int .u8 ((l[k].toNat : Nat) : Int)) := by
 obtain ⟨ad, u, rfl, hb, hu, hc⟩ := hr.at_ hk
 have hl : k < l.length := by have := hr.1; rw [BV_len] at this; omega
 rw [BV_get l k hl] at hu
 exact ⟨ad, rfl, hb, hl, by rw [hc, ← hu]⟩
set_option maxHeartbeats 1000000 in
set_option maxRecDepth 100000 in
theorem same_any (A B : Option Addr) (c d : Nat) (a b : List UInt8) (w : World) (ha : Reads w w.heap.size 1 A a.length (BV a)) (hb : Reads w w.heap.size 1 B b.length (BV b)) (hm : a.length ≤ 1048576) :
  Calls Tryd.prog 7 #[.slice A a.length c, .slice B b.length d] w fun e w' => e = .returned (.bool (decide (a = b))) ∧ ∃ q, w' = w.drewN q := by
 by_cases hl : a.length = b.length
 ·obtain ⟨n, hn⟩ : ∃ n, n = a.length := ⟨_, rfl⟩
  have HA := hide ha
  have HB := hide hb
  have HLA := hide hn
  have HLB := hide (show n = b.length by omega)
  rw [← hl]
  rw [← hl] at HB
  rw [← hn] at HA HB hm ⊢
  have hni : (n : Int) ≤ 1048576 := by omega
  have hne : ((n : Int) != (n : Int)) = false := by simp
  generalize hr : decide (a = b) = res at *
  have HR := hide hr
  clear ha hb hl hn hr
  go_enter Tryd.func7, Tryd.ntmps7
  go_wp2
  go_loopw [5] (fun i wr => ∃ k q : Nat, k ≤ n ∧ i = .int .i64 (k : Int) ∧ Hid (a.take k = b.take k) ∧ wr = w.drewN q) (fun i _ => n - (intOf i).toNat)
  case atStart => exact ⟨0, 0, Nat.zero_le _, rfl, by simp [Hid], rfl⟩
  case round =>
   obtain ⟨k, q, hk, rfl, HT, rfl⟩ := hrel
   by_cases hlt : k < n
   ·obtain ⟨ad, hA, _, hkl, hca⟩ := reads_byte HA.out k hlt
    obtain ⟨bd, hB, _, hkm, hcb⟩ := reads_byte HB.out k hlt
    subst hA hB
    have hk0 : (0 : Int) ≤ (k : Int) := by omega
    have hk1 : (k : Int) < (n : Int) := by omega
    have E := hide (u8_ne a[k] b[k])
    have HTK := hide (show a[k] = b[k] → a.take (k + 1) = b.take (k + 1) from fun h => by rw [List.take_succ_eq_append_getElem hkl, List.take_succ_eq_append_getElem hkm, HT.out, h])
    have HBAD := hide (show a[k] ≠ b[k] → res = false from fun h => by
     rw [← HR.out]
     refine decide_eq_false fun h2 => h ?_
     subst h2
     rfl)
    have HLT := hide hlt
    generalize a[k] = x at *
    generalize b[k] = y at *
    clear hlt hkl hkm
    by_cases hxy : x = y
    ·have E' := E.out
     rw [decide_eq_true hxy] at E'
     have HT2 := hide (HTK.out hxy)
     clear E HTK HBAD HT hxy
     generalize (x.toNat : Int) = xi at *
     generalize (y.toNat : Int) = yi at *
     go_wp2
     go_quiet (fail)
     go_wp2
     go_roundw
     case rel => exact ⟨k + 1, _, HLT.out, by go_num, HT2, rfl⟩
     case measure => have := HLT.out; simp [intOf]; omega
    ·have E' := E.out
     rw [decide_eq_false hxy] at E'
     have HF := hide (HBAD.out hxy)
     clear E HTK HBAD HT hxy
     generalize (x.toNat : Int) = xi at *
     generalize (y.toNat : Int) = yi at *
     go_wp2
     go_quiet (fail)
     go_wp2
     go_ret
     exact ⟨by rw [HF.out]; rfl, _, by rw [World.drewN_drewN]⟩
   ·obtain rfl : k = n := by omega
    have HF := hide (show res = true by
     rw [← HR.out]
     have h := HT.out
     rw [List.take_of_length_le (by have := HLA.out; omega), List.take_of_length_le (by have := HLB.out; omega)] at h
     exact decide_eq_true h)
    have hnt : ¬ ((k : Int) < (k : Int)) := by omega
    clear hlt HT HR
    go_wp2
    go_ret
    exact ⟨by rw [HF.out]; rfl, _, rfl⟩
 ·have HF := hide (show decide (a = b) = false from decide_eq_false fun h => hl (by rw [h]))
  have hne : ((a.length : Int) != (b.length : Int)) = true := by rw [bne_iff_ne]; omega
  generalize decide (a = b) = res at *
  generalize a.length = n at *
  generalize b.length = m at *
  clear hl ha hb
  go_enter Tryd.func7, Tryd.ntmps7
  go_wp2
  go_ret
  exact ⟨by rw [HF.out]; rfl, 0, rfl⟩
section
variable (c : UInt8) (w : World)
end
namespace Tb
def stepOf (s : Nat) : Nat := [1, 2, 4, 5, 8, 10, 11, 13, 16, 17].getD s 0
def cellN (n : Int) (k : Nat) : Nat := 1 + (k * stepOf (Ce.around n 10) + Ce.around (n.tdiv 10) 63) % 63
def cellC (n : Int) (k : Nat) : UInt8 := UInt8.ofNat (cellN n k)
theorem cellN_lt (n : Int) (k : Nat) : 1 ≤ cellN n k ∧ cellN n k ≤ 63 := by
 unfold cellN
 have := Nat.mod_lt (k * stepOf (Ce.around n 10) + Ce.around (n.tdiv 10) 63) (show 0 < 63 by decide)
 omega
theorem cellC_nat (n : Int) (k : Nat) : (cellC n k).toNat = cellN n k := by
 unfold cellC
 have := cellN_lt n k
 simp only [UInt8.toNat_ofNat']
 omega
end Tb
theorem inI_tdiv (n : Int) (d : Int) (h : Wr.inI n) (hd : 0 < d) : Wr.inI (n.tdiv d) := by
 unfold Wr.inI at *
 have h2 : (n.tdiv d).natAbs ≤ n.natAbs := by rw [Int.natAbs_tdiv]; exact Nat.div_le_self _ _
 by_cases hn : 0 ≤ n
 ·have h1 := Int.tdiv_nonneg hn (Int.le_of_lt hd)
  omega
 ·have h1 := Int.tdiv_nonneg (a := -n) (by omega) (Int.le_of_lt hd)
  rw [Int.neg_tdiv] at h1
  omega
set_option maxHeartbeats 800000 in
set_option maxRecDepth 100000 in
theorem cell_any (n : Int) (k : Nat) (w : World) (hn : Wr.inI n) (hk : k ≤ 1000) :
  Calls Tryd.prog 21 #[.int .i64 n, .int .i64 (k : Int)] w fun e w' => e = .returned (VC (Tb.cellC n k)) ∧ Below w.heap.size w w' := by
 have CA := hide (fun W => (show Calls Tryd.prog 12 #[.int .i64 n, .int .i64 10] W fun e w' => e = .returned (.int .i64 ((Ce.around n 10 : Nat) : Int)) ∧ W = w' from around_any n 10 W hn (by omega) (by omega)))
 have CB := hide (fun W => (show Calls Tryd.prog 12 #[.int .i64 (n.tdiv 10), .int .i64 63] W fun e w' => e = .returned (.int .i64 ((Ce.around (n.tdiv 10) 63 : Nat) : Int)) ∧ W = w' from around_any (n.tdiv 10) 63 W (inI_tdiv n 10 hn (by omega)) (by omega) (by omega)))
 have hs := Ce.around_lt n 10 (by omega)
 have ht := Ce.around_lt (n.tdiv 10) 63 (by omega)
 have HC := hide (show ((Tb.cellC n k).toNat : Int) = 1 + ((k : Int) * (Tb.stepOf (Ce.around n 10) : Int) + (Ce.around (n.tdiv 10) 63 : Int)) % 63 by
  rw [Tb.cellC_nat]
  unfold Tb.cellN
  omega)
 have hsn : Tb.stepOf (Ce.around n 10) ≤ 17 := by
  have H : ∀ s : Fin 10, Tb.stepOf s.val ≤ 17 := by decide
  exact H ⟨_, hs⟩
 have hcell : (w.alloc (.cells #[.int .i64 1, .int .i64 2, .int .i64 4, .int .i64 5, .int .i64 8, .int .i64 10, .int .i64 11, .int .i64 13, .int .i64 16, .int .i64 17] 3)).cell? ⟨w.heap.size, Ce.around n 10, none⟩ = some (.int .i64 (Tb.stepOf (Ce.around n 10) : Int)) := by
  rw [Blk.cell (Blk.new w _ _)]
  have H : ∀ s : Fin 10, (#[Value.int .i64 1, .int .i64 2, .int .i64 4, .int .i64 5, .int .i64 8, .int .i64 10, .int .i64 11, .int .i64 13, .int .i64 16, .int .i64 17] : Array Value)[s.val]? = some (.int .i64 (Tb.stepOf s.val : Int)) := by
   intro ⟨s, hs⟩
   match s, hs with
   | 0, _ | 1, _ | 2, _ | 3, _ | 4, _ | 5, _ | 6, _ | 7, _ | 8, _ | 9, _ => rfl
  exact H ⟨_, hs⟩
 have HB := hide (below_alloc w (.cells #[.int .i64 1, .int .i64 2, .int .i64 4, .int .i64 5, .int .i64 8, .int .i64 10, .int .i64 11, .int .i64 13, .int .i64 16, .int .i64 17] 3))
 unfold VC
 generalize (Tb.cellC n k).toNat = res at *
 generalize Tb.stepOf (Ce.around n 10) = st at *
 generalize Ce.around n 10 = s at *
 generalize Ce.around (n.tdiv 10) 63 = t at *
 have hs0 : (0 : Int) ≤ (s : Int) := by omega
 have hs1 : (s : Int) < 10 := by omega
 have hmul : (0 : Int) ≤ (k : Int) * (st : Int) ∧ (k : Int) * (st : Int) ≤ 17000 := by
  have : k * st ≤ 1000 * 17 := Nat.mul_le_mul hk hsn
  have h2 : ((k * st : Nat) : Int) = (k : Int) * (st : Int) := Int.natCast_mul k st
  omega
 have hw1 : wrap64 ((k : Int) * (st : Int)) = (k : Int) * (st : Int) := by
  generalize (k : Int) * (st : Int) = ks at *
  unfold wrap64; omega
 have hw2 : wrap64 ((k : Int) * (st : Int) + (t : Int)) = (k : Int) * (st : Int) + (t : Int) := by
  generalize (k : Int) * (st : Int) = ks at *
  unfold wrap64; omega
 have hw3 : wrap64 (n.tdiv 10) = n.tdiv 10 := by
  have h := inI_tdiv n 10 hn (by omega)
  unfold Wr.inI at h
  unfold wrap64; omega
 have hp0 : (0 : Int) ≤ (k : Int) * (st : Int) + (t : Int) := by
  generalize (k : Int) * (st : Int) = ks at *
  omega
 go_enter Tryd.func21, Tryd.ntmps21
 go_wp2_with (go_at_call 12; first
  | (with_reducible refine (unhide CA _).mono ?_); rintro e w1 ⟨rfl, rfl⟩
  | (with_reducible refine (unhide CB _).mono ?_); rintro e w1 ⟨rfl, rfl⟩)
 go_ret
 exact ⟨by rw [HC.out]; rfl, HB.out⟩
namespace Tb
def mkR (text : List UInt8) (wh : Int) (cells : List UInt8) : Rl := ⟨text, wh, ⟨cells, none, 0⟩⟩
def eB (b : Bs) : Bs := ⟨b.l, none, 0⟩
def eR (r : Rl) : Rl := mkR r.text r.wh r.cells.l
def eT (t : Tab) : Tab := ⟨t.r0.map eR, t.r1.map eR, eB t.dig, eB t.cap, eB t.num, eB t.fin, eB t.sw⟩
def letterR (n : Int) (lang i : Nat) : Rl := mkR [UInt8.ofNat (97 + i)] 0 [cellC n ((i + 3 * lang) % 26)]
def markB : List UInt8 := [32, 46, 44, 63, 39, 45]
def markR (n : Int) (i : Nat) : Rl := mkR [markB.getD i 0] 0 [cellC n (26 + i)]
def words : List (List UInt8) := [[116, 104], [101, 114], [116, 104, 101], [105, 110, 103], [97, 110, 100], [97, 110], [115, 116], [105, 110], [111, 117], [116, 105, 111, 110], [98, 101], [98, 117, 116]]
def manyOf (n : Int) (lang : Nat) : Nat := 3 + Ce.around (n.tdiv 630 + lang) 6
def wordOf (n : Int) (lang i : Nat) : Nat := Ce.around (n.tdiv 3780 + 5 * i + lang) 12
def whereOf (n : Int) (i : Nat) : Nat := Ce.around (n.tdiv 7 + i * i) 6 % 4
def shortCells (n : Int) (i : Nat) : List UInt8 :=
 if Ce.around (n.tdiv 17 + i) 23 = 0 then [cellC n (Ce.around (n.tdiv 19) 32), cellC n (Ce.around (n.tdiv 23) 32)]
 else if Ce.around (n.tdiv 11 + i) 3 = 0 then [cellC n 36, cellC n (Ce.around (n.tdiv 13 + i) 26)]
 else [cellC n (37 + i)]
def shortR (n : Int) (lang i : Nat) : Rl := mkR (words.getD (wordOf n lang i) []) (whereOf n i) (shortCells n i)
def rawR (n : Int) (lang : Nat) : List Rl := (List.range 26).map (letterR n lang) ++ (List.range 6).map (markR n) ++ (List.range (manyOf n lang)).map (shortR n lang)
def once (l : List Rl) : List Rl := l.foldl (fun out r => if key r ∈ out.map key then out else out ++ [r]) []
def swC (n : Int) : List UInt8 := if Ce.around (n.tdiv 29) 5 = 0 then [cellC n 35, cellC n 34] else [cellC n 35]
def tablesT (n : Int) : Tab := ⟨once (rawR n 0), once (rawR n 1), ⟨(List.range 10).map (cellC n), none, 0⟩, ⟨[cellC n 32], none, 0⟩, ⟨[cellC n 33], none, 0⟩, ⟨[cellC n 34], none, 0⟩, ⟨swC n, none, 0⟩⟩
theorem once_snoc (l : List Rl) (r : Rl) : once (l ++ [r]) = if key r ∈ (once l).map key then once l else once l ++ [r] := by
 unfold once
 rw [List.foldl_append]
 rfl
theorem key_eR (r : Rl) : key (eR r) = key r := rfl
theorem map_key_eR (l : List Rl) : (l.map eR).map key = l.map key := by rw [List.map_map]; rfl
end Tb
def RuleOk (w : World) (r : Tb.Rl) : Prop := BsAt w w.heap.size r.cells ∧ 0 < r.cells.l.length ∧ r.text.length ≤ 1048576 ∧ Wr.inI r.wh
def RulesF (w : World) (v : Value) (rs : List Tb.Rl) : Prop := ∀ r ∈ rs, RuleOk w r ∧ ∀ a, r.cells.ad = some a → some a.block ≠ v.ownBlock
theorem RulesF.below {w w' : World} {v : Value} {xs : List Tb.Rl} (h : RulesF w v xs) (hb : Below w.heap.size w w') : RulesF w' v xs := fun x hx => ⟨⟨(h x hx).1.1.same hb, (h x hx).1.2⟩, (h x hx).2⟩
theorem RulesF.nil (w : World) (v : Value) : RulesF w v [] := fun x hx => by cases hx
theorem RulesF.snoc {w w' : World} {v v' : Value} {xs : List Tb.Rl} {x : Tb.Rl} (h : RulesF w v xs) (hx : RuleOk w x) (hxb : ∀ a, x.cells.ad = some a → some a.block ≠ v.ownBlock) (hg : w.grownBy w' v.ownBlock)
  (hat : v'.ownBlock = v.ownBlock ∨ v'.ownBlock = some w.heap.size) : RulesF w' v' (xs ++ [x]) := by
 have one : ∀ y : Tb.Rl, RuleOk w y → (∀ a, y.cells.ad = some a → some a.block ≠ v.ownBlock) → RuleOk w' y ∧ ∀ a, y.cells.ad = some a → some a.block ≠ v'.ownBlock := fun y hy hyb => by
  obtain ⟨ad, e, hb, _⟩ := hy.1.1.2 hy.2.1
  refine ⟨⟨hy.1.grown hg (fun a ha => hyb a ha), hy.2⟩, fun a ha => ?_⟩
  rcases hat with h1 | h1
  ·rw [h1]; exact hyb a ha
  ·rw [h1]
   rw [e] at ha
   injection ha with ha
   subst ha
   intro hc
   injection hc with hc
   omega
 intro y hy
 rcases List.mem_append.1 hy with hy | hy
 ·exact one y (h y hy).1 (h y hy).2
 ·rw [List.mem_singleton] at hy
  subst hy
  exact one y hx hxb
theorem RC_one (es : List Tb.Rl) : ∀ v ∈ RC es, v.oneCell' = true := by
 intro v hv
 unfold RC at hv
 obtain ⟨x, _, hx⟩ := List.mem_flatMap.1 hv
 simp only [ruC, List.mem_cons, List.not_mem_nil, or_false] at hx
 rcases hx with rfl | rfl | rfl <;> rfl
theorem ruleInfo3' : (Tryd.prog.info? 45).map (fun i => (i.zero, i.size, i.bytes)) = some (some (.agg #[.string { data := #[] }, .int .i64 0, .slice none 0 0]), 3, 48) := by kernel_rfl
theorem rules_push (W : World) (base g : Nat) (v : Value) (rs : List Tb.Rl) (r : Tb.Rl) (hown : W.ownsRow base 45 3 v rs.length (RC rs)) (F : RulesF W v rs) (hg : Blk W g 45 (ruC r).toArray) (hr : RuleOk W r)
  (hrb : ∀ a, r.cells.ad = some a → some a.block ≠ v.ownBlock) (hbase : base ≤ W.heap.size) (hlen : rs.length ≤ 100000) (ty : TypeId) :
  ∃ v' W', (Builtin.append_ #[24, 24] ty #[v, .slice (some ⟨g, 0, none⟩) 1 1]).run Tryd.prog W = .ok v' W' ∧ W'.ownsRow base 45 3 v' (rs ++ [r]).length (RC (rs ++ [r])) ∧ RulesF W' v' (rs ++ [r]) ∧ W.grownBy W' v.ownBlock ∧ (v'.ownBlock = v.ownBlock ∨ v'.ownBlock = some W.heap.size) := by
 obtain ⟨j0, hj, hy0, hy1, hy2⟩ := info_parts ruleInfo3'
 obtain ⟨v', w', hrun, hown', hgrow', hat'⟩ := run_append_any (P := Tryd.prog) W base 24 ty 45 j0 (.agg #[.string { data := #[] }, .int .i64 0, .slice none 0 0]) 3 48 Tryd.underlying24 hj hy0 hy1 hy2 rfl (by omega)
  v rs.length (RC rs) hown W.heap.size (some ⟨g, 0, none⟩) 1 1 (ruC r)
  ⟨rfl, fun _ => ⟨_, rfl, hg.lt, fun j u hu => by
   have h2 := Blk.cell hg j
   rw [show ((⟨g, 0, none⟩ : Addr).add j) = ⟨g, j, none⟩ by unfold Addr.add; split <;> simp_all, h2, ← hu]
   rw [List.getElem?_toArray]⟩⟩
  (fun u hu => RC_one [r] u (by unfold RC; simpa using hu)) (by unfold maxLen; omega) (by omega) hbase
 refine ⟨v', w', hrun, ?_, F.snoc hr hrb hgrow' hat', hgrow', hat'⟩
 rw [RC_append, List.length_append]
 have e : RC [r] = ruC r := by unfold RC; simp
 rw [e]
 exact hown'
theorem reads_bytes (W : World) (g : Nat) (l : List UInt8) (h : Blk W g 5 (BV l).toArray) : Reads W W.heap.size 1 (some ⟨g, 0, none⟩) l.length (BV l) :=
 ⟨by rw [BV_len]; omega, fun _ => ⟨_, rfl, h.lt, fun j u hu => by
  have h2 := Blk.cell h j
  rw [show ((⟨g, 0, none⟩ : Addr).add j) = ⟨g, j, none⟩ by unfold Addr.add; split <;> simp_all, h2, ← hu]
  rw [List.getElem?_toArray]⟩⟩
theorem bs_of_blk (W : World) (g : Nat) (l : List UInt8) (h : Blk W g 5 (BV l).toArray) (hl : l.length ≤ 1048576) : BsAt W W.heap.size ⟨l, some ⟨g, 0, none⟩, l.length⟩ := ⟨reads_bytes W g l h, Nat.le_refl _, hl⟩
def RNew (b0 : Nat) (T : TypeId) (cs : List Value) (v : Value) (W : World) : Prop := ∃ g, v = .slice (some ⟨g, 0, none⟩) cs.length cs.length ∧ b0 ≤ g ∧ Blk W g T cs.toArray
theorem RNew.grown {b0 : Nat} {T : TypeId} {cs : List Value} {v : Value} {W W' : World} {row : Option Nat} (h : RNew b0 T cs v W) (hg : W.grownBy W' row) (hr : ∀ g, row = some g → g < b0) : RNew b0 T cs v W' := by
 obtain ⟨g, h1, h2, h3⟩ := h
 exact ⟨g, h1, h2, h3.grown hg (fun e => by have := hr g e.symm; omega)⟩
theorem rule_fields {w : World} {B : Nat} {A : Option Addr} {rs : List Tb.Rl} (h : RulesAt w B A rs) (k : Nat) (hk : k < rs.length) :
  ∃ ad, A = some ad ∧ ad.block < B ∧ w.cell? (ad.add (k * 3)) = some (.string (S rs[k].text)) ∧ w.cell? ⟨(ad.add (k * 3)).block, (ad.add (k * 3)).off + 1, none⟩ = some (.int .i64 rs[k].wh) := by
 obtain ⟨ad, hA, hb, hc⟩ := reads_rule h k hk
 exact ⟨ad, hA, hb, hc 0 _ rfl, hc 1 _ rfl⟩
theorem rules_of_own {w : World} {b n : Nat} {v : Value} {rs : List Tb.Rl} (h : w.ownsRow b 45 3 v n (RC rs)) (hf : RulesF w v rs) (hl : rs.length ≤ 1048576) :
  ∃ A c, v = .slice A rs.length c ∧ rs.length ≤ c ∧ RulesAt w w.heap.size A rs ∧ ∀ a, A = some a → b ≤ a.block := by
 obtain ⟨A, c, rfl, hnc, _⟩ := own_slice h
 have hn : n = rs.length := by have := h.1; rw [RC_len] at this; omega
 subst hn
 refine ⟨A, c, rfl, hnc, ⟨Reads.of_own h, fun r hr => ⟨(hf r hr).1.1, (hf r hr).1.2.2⟩, hl⟩, fun a ha => ?_⟩
 subst ha
 rcases h.2 with ⟨h0, _⟩ | ⟨g, cap, cur, hv, hb, _⟩
 ·cases h0
 ·injection hv with hv
  injection hv with hv
  subst hv
  exact hb
theorem wpList_load_rule {ops : Array Oper} {rest : List Oper} {op : Oper} {a : Act} {w : World} {Q : Exit → Act → World → Prop} (hgd : op.guard = none) (x : Operand) (ho : op.op = .load 45 x)
  (ad : Addr) (hx : a.eval x = .pointer (some ad)) (v0 v1 v2 : Value) (hc : ∀ (j : Nat) (v : Value), ([v0, v1, v2] : List Value)[j]? = some v → w.cell? (ad.add j) = some v)
  (h : wpList Tryd.prog ops Q rest (a.put op.dst (.agg #[v0, v1, v2])) w) : wpList Tryd.prog ops Q (op :: rest) a w :=
 wpList_load_at hgd 45 x ho ad hx [v0, v1, v2] _ hc Tryd.underlying45 rfl ruleInfo h
theorem str_eq (a b : List UInt8) : ((S a).toList == (S b).toList) = decide (a = b) := by
 have e : ∀ l : List UInt8, (S l).toList = l := fun l => ByteArray.toList_mk l
 rw [e, e]
 by_cases h : a = b
 ·subst h; simp
 ·rw [decide_eq_false h]
  simpa using h
theorem fresh_take (out : List Tb.Rl) (r : Tb.Rl) (k : Nat) (h : k < out.length) : decide (Tb.key r ∉ (out.take (k + 1)).map Tb.key) = (decide (Tb.key r ∉ (out.take k).map Tb.key) && !decide (Tb.key out[k] = Tb.key r)) := by
 rw [List.take_succ_eq_append_getElem h, List.map_append, List.map_singleton]
 generalize (out.take k).map Tb.key = L
 generalize Tb.key out[k] = y
 generalize Tb.key r = x
 by_cases h1 : x ∈ L <;> by_cases h2 : y = x
 ·simp [h1, h2]
 ·simp [h1]
 ·simp [h1, h2]
 ·simp [h1, h2, Ne.symm h2]
set_option maxHeartbeats 4000000 in
set_option maxRecDepth 100000 in
theorem once_any (A : Option Addr) (c : Nat) (rs : List Tb.Rl) (w : World) (hr : RulesAt w w.heap.size A rs) (hr0 : ∀ r ∈ rs, 0 < r.cells.l.length) (hn : rs.length ≤ 1000) :
  Calls Tryd.prog 22 #[.slice A rs.length c] w fun e w' => ∃ v out, e = .returned v ∧ w'.ownsRow w.heap.size 45 3 v out.length (RC out) ∧ RulesF w' v out ∧ out.map Tb.eR = Tb.once (rs.map Tb.eR) ∧ (∀ r ∈ out, r ∈ rs) ∧ Below w.heap.size w w' := by
 have HR := hide hr
 have HR0 := hide hr0
 obtain ⟨n, hnn⟩ : ∃ n, n = rs.length := ⟨_, rfl⟩
 have HN := hide hnn
 rw [← hnn] at hn ⊢
 have hni : (n : Int) ≤ 1000 := by omega
 have HW := hide (Below.refl w.heap.size w)
 clear hr hr0 hnn
 go_enter Tryd.func22, Tryd.ntmps22
 go_wp2
 go_loopw [3, 4] (fun s3 s wr => ∃ (i : Nat) (y3 : Value) (out : List Tb.Rl), i ≤ n ∧ s = .int .i64 (i : Int) ∧ y3 = s3 ∧ wr.ownsRow w.heap.size 45 3 y3 out.length (RC out) ∧ RulesF wr y3 out ∧ Hid (out.map Tb.eR = Tb.once ((rs.take i).map Tb.eR)) ∧ Hid (out.length ≤ i) ∧ Hid (∀ r ∈ out, r ∈ rs) ∧ Below w.heap.size w wr) (fun _ s _ => n - (intOf s).toNat)
 case atStart => exact ⟨0, _, [], by omega, rfl, rfl, own_nil _ _ _ _, RulesF.nil _ _, by rw [List.take_zero]; exact rfl, Nat.le_refl _, fun r hr => (by cases hr), HW.out⟩
 case round =>
  obtain ⟨i, y3, out, hi, rfl, rfl, hown, hrf, HO, HL, HAD, hbel⟩ := hrel
  obtain ⟨wd, rfl⟩ : ∃ wd, wd = wr := ⟨wr, rfl⟩
  have hi0 : (0 : Int) ≤ (i : Int) := by omega
  by_cases hlt : i < n
  ·have hil : i < rs.length := by rw [← HN.out]; exact hlt
   have hown3 : ∀ g, y3.ownBlock = some g → w.heap.size ≤ g ∧ g < wd.heap.size := fun g hg => hown.lt g hg
   have hol : out.length ≤ 1000 := by have := HL.out; omega
   obtain ⟨oA, oc, hv3, hoc, hro, _⟩ := rules_of_own hown hrf (by omega)
   subst hv3
   have HRO := hide hro
   have HOW := hide hown
   have HRF := hide hrf
   have HB := hide hbel
   obtain ⟨m, hm⟩ : ∃ m, m = out.length := ⟨_, rfl⟩
   have HM := hide hm
   rw [← hm] at hoc hol ⊢
   have hmi : (m : Int) ≤ 1000 := by omega
   obtain ⟨ad, hA, hadb, hc0, hc1⟩ := rule_fields HR.out i hil
   subst hA
   have hk1 : (i : Int) < (n : Int) := by omega
   have hs0 : wd.cell? (ad.add (i * 3)) = some (.string (S rs[i].text)) := by rw [HB.out.cell (by rw [block_of_add]; exact hadb)]; exact hc0
   have hs1 : wd.cell? ⟨(ad.add (i * 3)).block, (ad.add (i * 3)).off + 1, none⟩ = some (.int .i64 rs[i].wh) := by rw [HB.out.cell (by show (ad.add (i * 3)).block < _; rw [block_of_add]; exact hadb)]; exact hc1
   obtain ⟨ad', hA', _, hcs⟩ := reads_rule HR.out i hil
   injection hA' with hA'
   subst hA'
   have HEC := hide (show ∀ (j : Nat) (v : Value), ([.string (S rs[i].text), .int .i64 rs[i].wh, .slice rs[i].cells.ad rs[i].cells.l.length rs[i].cells.c] : List Value)[j]? = some v → wd.cell? ((ad.add (i * 3)).add j) = some v from fun j v hv => by
    rw [HB.out.cell (by rw [block_of_add, block_of_add]; exact hadb)]
    exact hcs j v hv)
   have HRI := hide (HR.out.2.1 rs[i] (List.getElem_mem hil))
   have HRP := hide (HR0.out rs[i] (List.getElem_mem hil))
   have HON := hide (show Tb.once ((rs.take (i + 1)).map Tb.eR) = if Tb.key rs[i] ∈ out.map Tb.key then out.map Tb.eR else out.map Tb.eR ++ [Tb.eR rs[i]] by
    rw [List.take_succ_eq_append_getElem hil, List.map_append, List.map_singleton, Tb.once_snoc, ← HO.out, Tb.map_key_eR, Tb.key_eR])
   have HLT := hide hlt
   have HMEM := hide (show rs[i] ∈ rs from List.getElem_mem hil)
   generalize rs[i] = r at *
   clear hcs hc0 hc1 hlt hil hown hrf hbel hro hm
   go_wp2
   go_loopw [5, 6] (fun s5 s wr => ∃ (k q : Nat) (fr : Bool), k ≤ m ∧ s = .int .i64 (k : Int) ∧ s5 = .bool fr ∧ Hid (fr = decide (Tb.key r ∉ (out.take k).map Tb.key)) ∧ wr = wd.drewN q) (fun _ s _ => m - (intOf s).toNat)
   case atStart => exact ⟨0, 0, true, by omega, rfl, rfl, by rw [List.take_zero]; simp [Hid], rfl⟩
   case round =>
    obtain ⟨k, q, fr, hk, rfl, rfl, HFR, rfl⟩ := hrel
    have hk0 : (0 : Int) ≤ (k : Int) := by omega
    by_cases hkl : k < m
    ·have hkl2 : k < out.length := by rw [← HM.out]; exact hkl
     obtain ⟨od, hoA, _, ho0, ho1⟩ := rule_fields HRO.out k hkl2
     subst hoA
     have hkm : (k : Int) < (m : Int) := by omega
     have HFT := hide (fresh_take out r k hkl2)
     have HKEY := hide (show decide (Tb.key out[k] = Tb.key r) = (decide (out[k].text = r.text) && decide (out[k].wh = r.wh)) by
      unfold Tb.key
      by_cases h1 : out[k].text = r.text <;> by_cases h2 : out[k].wh = r.wh <;> simp [h1, h2])
     have HNE := hide (str_eq out[k].text r.text)
     have HNW := hide (int_ne out[k].wh r.wh)
     have HKL := hide hkl
     generalize decide (Tb.key out[k] = Tb.key r) = kq at *
     generalize out[k].text = t1 at *
     generalize out[k].wh = w1 at *
     clear hkl hkl2
     cases fr with
     | false =>
      have HF2 := hide (show false = decide (Tb.key r ∉ (out.take (k + 1)).map Tb.key) by rw [HFT.out, ← HFR.out]; rfl)
      clear HFT HFR HKEY HNE HNW
      go_wp2
      go_quiet (fail)
      go_wp2
      exact ⟨⟨k + 1, _, false, HKL.out, by go_num, rfl, HF2, rfl⟩, by have := HKL.out; simp [intOf]; omega⟩
     | true =>
      by_cases h1 : t1 = r.text
      ·have hne := HNE.out
       rw [decide_eq_true h1] at hne
       by_cases h2 : w1 = r.wh
       ·have hnw := HNW.out
        rw [decide_eq_true h2] at hnw
        have HF2 := hide (show false = decide (Tb.key r ∉ (out.take (k + 1)).map Tb.key) by rw [HFT.out, ← HFR.out, HKEY.out, decide_eq_true h1, decide_eq_true h2]; rfl)
        clear HFT HFR HKEY HNE HNW h1 h2
        generalize S t1 = sv1 at *
        generalize S r.text = sv2 at *
        generalize r.wh = w2 at *
        go_wp2
        go_quiet (fail)
        go_wp2
        exact ⟨⟨k + 1, _, false, HKL.out, by go_num, rfl, HF2, rfl⟩, by have := HKL.out; simp [intOf]; omega⟩
       ·have hnw := HNW.out
        rw [decide_eq_false h2] at hnw
        have HF2 := hide (show true = decide (Tb.key r ∉ (out.take (k + 1)).map Tb.key) by rw [HFT.out, ← HFR.out, HKEY.out, decide_eq_false h2, Bool.and_false]; rfl)
        clear HFT HFR HKEY HNE HNW h1 h2
        generalize S t1 = sv1 at *
        generalize S r.text = sv2 at *
        generalize r.wh = w2 at *
        go_wp2
        go_quiet (fail)
        go_wp2
        exact ⟨⟨k + 1, _, true, HKL.out, by go_num, rfl, HF2, rfl⟩, by have := HKL.out; simp [intOf]; omega⟩
      ·have hne := HNE.out
       rw [decide_eq_false h1] at hne
       have HF2 := hide (show true = decide (Tb.key r ∉ (out.take (k + 1)).map Tb.key) by rw [HFT.out, ← HFR.out, HKEY.out, decide_eq_false h1, Bool.false_and]; rfl)
       clear HFT HFR HKEY HNE HNW h1
       generalize S t1 = sv1 at *
       generalize S r.text = sv2 at *
       generalize r.wh = w2 at *
       go_wp2
       go_quiet (fail)
       go_wp2
       exact ⟨⟨k + 1, _, true, HKL.out, by go_num, rfl, HF2, rfl⟩, by have := HKL.out; simp [intOf]; omega⟩
    ·obtain rfl : k = m := by omega
     have hnt : ¬ ((k : Int) < (k : Int)) := by omega
     have HFR2 := hide (show fr = decide (Tb.key r ∉ out.map Tb.key) by
      have h := HFR.out
      rwa [List.take_of_length_le (by have := HM.out; omega)] at h)
     clear HFR hkl hs0 hs1
     have HOW2 := hide (own_drewN HOW.out q)
     have HRF2 := hide (show RulesF (wd.drewN q) _ out from HRF.out)
     have HB2 := hide (below_drewN HB.out q)
     have HEC2 := hide (show ∀ (j : Nat) (v : Value), ([.string (S r.text), .int .i64 r.wh, .slice r.cells.ad r.cells.l.length r.cells.c] : List Value)[j]? = some v → (wd.drewN q).cell? ((ad.add (i * 3)).add j) = some v from HEC.out)
     generalize wd.drewN q = we at *
     clear HRO HOW HRF HB HEC
     cases fr with
     | false =>
      have HO2 := hide (show out.map Tb.eR = Tb.once ((rs.take (i + 1)).map Tb.eR) by
       rw [HON.out, if_pos]
       have h := HFR2.out
       by_cases hm : Tb.key r ∈ out.map Tb.key
       ·exact hm
       ·rw [decide_eq_true hm] at h; cases h)
      clear HON
      go_wp2
      exact ⟨⟨i + 1, _, out, HLT.out, by go_num, rfl, by rw [HM.out]; exact HOW2.out, by rw [HM.out]; exact HRF2.out, HO2, Nat.le_succ_of_le HL.out, HAD, HB2.out⟩, by have := HLT.out; simp [intOf]; omega⟩
     | true =>
      have HO2 := hide (show (out ++ [r]).map Tb.eR = Tb.once ((rs.take (i + 1)).map Tb.eR) by
       rw [HON.out, if_neg, List.map_append]
       ·rfl
       ·exact of_decide_eq_true HFR2.out.symm)
      obtain ⟨ra, hra, hrab, _⟩ := HRI.out.1.1.2 HRP.out
      have hb2s := HB2.out.size
      obtain ⟨v', W', hrun, hown', hrf', hgrow', _⟩ := rules_push (we.alloc (.cells (ruC r).toArray 45)) w.heap.size we.heap.size (.slice oA k oc) out r (own_below (by rw [HM.out]; exact HOW2.out) (below_alloc we _)) (RulesF.below (by rw [HM.out]; exact HRF2.out) (below_alloc we _)) (Blk.new we _ _)
       ⟨((HRI.out.1.below HB2.out).more hb2s).same (below_alloc we _), HRP.out, HRI.out.2⟩ (fun a ha hc => by
        rw [hra] at ha
        injection ha with ha
        subst ha
        have := hown3 _ (by rw [← HM.out]; exact hc.symm)
        omega) (by simp; omega) (by have := HM.out; omega) 24
      have HRUN := hide hrun
      have HO' := hide hown'
      have HF' := hide hrf'
      have HB' := hide (show Below w.heap.size w W' from ((HB2.out.trans (below_alloc' we _ hb2s)).grown hgrow' (by simp; omega) (fun g hg => (hown3 g (by rw [← HM.out]; exact hg)).1)))
      have HAD' := hide (show ∀ q ∈ out ++ [r], q ∈ rs from fun q hq => by
       rcases List.mem_append.1 hq with hq | hq
       ·exact HAD.out q hq
       ·rw [List.mem_singleton] at hq
        subst hq
        exact HMEM.out)
      clear hrun hown' hrf' hgrow' HON hra
      go_wp2_with (first
       | (with_reducible refine wpList_load_rule rfl (.tmp 50) rfl (ad.add (i * 3)) rfl (.string (S r.text)) (.int .i64 r.wh) (.slice r.cells.ad r.cells.l.length r.cells.c) HEC2.out ?_)
       | (at_builtin; refine Lib.wpList_append_run _ rfl _ _ _ _ rfl _ _ rfl rfl _ _ HRUN.out ?_))
      exact ⟨⟨i + 1, _, out ++ [r], HLT.out, by go_num, rfl, HO'.out, HF'.out, HO2, by have := HL.out; simp [Hid]; omega, HAD', HB'.out⟩, by have := HLT.out; simp [intOf]; omega⟩
  ·obtain rfl : i = n := by omega
   have hnt : ¬ ((i : Int) < (i : Int)) := by omega
   have HO2 := hide (show out.map Tb.eR = Tb.once (rs.map Tb.eR) by
    have h := HO.out
    rwa [List.take_of_length_le (by have := HN.out; omega)] at h)
   clear hlt
   go_wp2
   go_ret
   first
    | exact ⟨_, out, rfl, hown, hrf, HO2.out, HAD.out, hbel⟩
    | exact ⟨_, rfl, out, hown, hrf, HO2.out, HAD.out, hbel⟩
theorem grown_set {w0 w : World} {g : Nat} (h : w0.grownBy w (some g)) (k : Nat) (v : Value) : w0.grownBy (w.setCell ⟨g, k, none⟩ v) (some g) := only_setCell h (.inl rfl) v
theorem grown_below {w0 w w' : World} {row : Option Nat} (h : w0.grownBy w row) (hb : Below w.heap.size w w') : w0.grownBy w' row :=
 ⟨hb.os.trans h.os, hb.tape.trans h.tape, hb.output.trans h.output, Nat.le_trans h.size hb.size, fun i hi hne => (hb.block i (Nat.lt_of_lt_of_le hi h.size)).trans (h.block i hi hne)⟩
theorem below_of_grown {w0 w w' : World} {g : Nat} (h : Below w0.heap.size w0 w) (hg : w.grownBy w' (some g)) (hle : w0.heap.size ≤ g) : Below w0.heap.size w0 w' :=
 h.grown hg h.size (fun k hk => by injection hk with hk; omega)
end Go.Proofs.YtjnnohghgkjhcaaDoor
namespace Go.Proofs.YtjnnohghgkjhcaaDoor
open Go.RowKit
set_option linter.unusedVariables false
set_option linter.unusedSimpArgs false
end Go.Proofs.YtjnnohghgkjhcaaDoor
/-
 Tables: Right of the reference, by contract.
-/
namespace Go.Proofs.YtjnnohghgkjhcaaDoor
open Go.RowKit
set_option linter.unusedVariables false
set_option linter.unusedSimpArgs false
end Go.Proofs.YtjnnohghgkjhcaaDoor
/-
 Tables, plainly: what valid is, by what is found wrong first.
-/
namespace Go.Proofs.YtjnnohghgkjhcaaDoor
open Go.RowKit
set_option linter.unusedVariables false
set_option linter.unusedSimpArgs false
namespace Tb
def rulesN (t : Tab) (j : Nat) : List Rl := if j = 0 then t.r0 else t.r1
theorem rulesN_two {t : Tab} {j : Nat} (hj : j < 2) : (j = 0 ∧ rulesN t j = t.r0) ∨ (j = 1 ∧ rulesN t j = t.r1) := by
 have : j = 0 ∨ j = 1 := by omega
 rcases this with h | h
 ·exact .inl ⟨h, by rw [h]; rfl⟩
 ·exact .inr ⟨h, by rw [h]; rfl⟩
end Tb
end Go.Proofs.YtjnnohghgkjhcaaDoor
/-
 Tables: Valid of the reference, by contract.
-/
namespace Go.Proofs.YtjnnohghgkjhcaaDoor
open Go.RowKit
set_option linter.unusedVariables false
set_option linter.unusedSimpArgs false
end Go.Proofs.YtjnnohghgkjhcaaDoor
namespace Go.Proofs.YtjnnohghgkjhcaaDoor
open Go.RowKit
set_option linter.unusedVariables false
set_option linter.unusedSimpArgs false
def BsX (w : World) (B : Nat) (b : Tb.Bs) : Prop := Reads w B 1 b.ad b.l.length (BV b.l) ∧ b.l.length ≤ b.c
theorem BsX.below {w w' : World} {B : Nat} {b : Tb.Bs} (h : BsX w B b) (hb : Below B w w') : BsX w' B b := ⟨h.1.below hb, h.2⟩
theorem BsX.more {w : World} {B B' : Nat} {b : Tb.Bs} (h : BsX w B b) (hB : B ≤ B') : BsX w B' b := ⟨h.1.more hB, h.2⟩
theorem BsAt.x {w : World} {B : Nat} {b : Tb.Bs} (h : BsAt w B b) : BsX w B b := ⟨h.1, h.2.1⟩
def RulesX (w : World) (B : Nat) (A : Option Addr) (rs : List Tb.Rl) : Prop := Reads w B 3 A rs.length (RC rs) ∧ ∀ r ∈ rs, BsX w B r.cells ∧ Wr.inI r.wh
theorem RulesX.below {w w' : World} {B : Nat} {A : Option Addr} {rs : List Tb.Rl} (h : RulesX w B A rs) (hb : Below B w w') : RulesX w' B A rs := ⟨h.1.below hb, fun r hr => ⟨(h.2 r hr).1.below hb, (h.2 r hr).2⟩⟩
theorem RulesX.more {w : World} {B B' : Nat} {A : Option Addr} {rs : List Tb.Rl} (h : RulesX w B A rs) (hB : B ≤ B') : RulesX w B' A rs := ⟨h.1.more hB, fun r hr => ⟨(h.2 r hr).1.more hB, (h.2 r hr).2⟩⟩
theorem RulesAt.x {w : World} {B : Nat} {A : Option Addr} {rs : List Tb.Rl} (h : RulesAt w B A rs) : RulesX w B A rs := ⟨h.1, fun r hr => ⟨(h.2.1 r hr).1.x, (h.2.1 r hr).2.2⟩⟩
def TabX (w : World) (B : Nat) (v : Value) (t : Tb.Tab) : Prop :=
 ∃ (A0 A1 : Option Addr) (c0 c1 : Nat), v = .agg #[.slice A0 t.r0.length c0, .slice A1 t.r1.length c1, .slice t.dig.ad t.dig.l.length t.dig.c, .slice t.cap.ad t.cap.l.length t.cap.c, .slice t.num.ad t.num.l.length t.num.c, .slice t.fin.ad t.fin.l.length t.fin.c, .slice t.sw.ad t.sw.l.length t.sw.c] ∧
 RulesX w B A0 t.r0 ∧ RulesX w B A1 t.r1 ∧ BsX w B t.dig ∧ BsX w B t.cap ∧ BsX w B t.num ∧ BsX w B t.fin ∧ BsX w B t.sw
theorem TabX.below {w w' : World} {B : Nat} {v : Value} {t : Tb.Tab} (h : TabX w B v t) (hb : Below B w w') : TabX w' B v t := by
 obtain ⟨A0, A1, c0, c1, h1, h2, h3, h6, h7, h8, h9, h10⟩ := h
 exact ⟨A0, A1, c0, c1, h1, h2.below hb, h3.below hb, h6.below hb, h7.below hb, h8.below hb, h9.below hb, h10.below hb⟩
theorem TabX.more {w : World} {B B' : Nat} {v : Value} {t : Tb.Tab} (h : TabX w B v t) (hB : B ≤ B') : TabX w B' v t := by
 obtain ⟨A0, A1, c0, c1, h1, h2, h3, h6, h7, h8, h9, h10⟩ := h
 exact ⟨A0, A1, c0, c1, h1, h2.more hB, h3.more hB, h6.more hB, h7.more hB, h8.more hB, h9.more hB, h10.more hB⟩
theorem TabAt.x {w : World} {B : Nat} {v : Value} {t : Tb.Tab} (h : TabAt w B v t) : TabX w B v t := by
 obtain ⟨A0, A1, c0, c1, h1, h2, h3, _, _, h6, h7, h8, h9, h10⟩ := h
 exact ⟨A0, A1, c0, c1, h1, h2.x, h3.x, h6.x, h7.x, h8.x, h9.x, h10.x⟩
theorem ruleX_fields {w : World} {B : Nat} {A : Option Addr} {rs : List Tb.Rl} (h : RulesX w B A rs) (k : Nat) (hk : k < rs.length) :
  ∃ ad, A = some ad ∧ ad.block < B ∧ w.cell? (ad.add (k * 3)) = some (.string (S rs[k].text)) ∧ w.cell? ⟨(ad.add (k * 3)).block, (ad.add (k * 3)).off + 1, none⟩ = some (.int .i64 rs[k].wh) ∧
   w.cell? ⟨(ad.add (k * 3)).block, (ad.add (k * 3)).off + 2, none⟩ = some (.slice rs[k].cells.ad rs[k].cells.l.length rs[k].cells.c) ∧ ∀ (j : Nat) (v : Value), (ruC rs[k])[j]? = some v → w.cell? ((ad.add (k * 3)).add j) = some v := by
 obtain ⟨ad, hA, hb, hc⟩ := h.1.2 (by omega)
 have H : ∀ (j : Nat) (v : Value), (ruC rs[k])[j]? = some v → w.cell? ((ad.add (k * 3)).add j) = some v := fun j v hv => by
  have hj : j < 3 := (List.getElem?_eq_some_iff.1 hv).1
  rw [add_of_add]
  exact hc _ _ (by rw [RC_get rs k j hk hj]; exact hv)
 exact ⟨ad, hA, hb, H 0 _ rfl, H 1 _ rfl, H 2 _ rfl, H⟩
def ru (r : Tb.Rl) : Wr.Ru := (r.text, r.wh, r.cells.l)
def fiveOf (t : Tb.Tab) : List (List UInt8) := [t.dig.l, t.cap.l, t.num.l, t.fin.l, t.sw.l]
def taOf (t : Tb.Tab) : Wr.Ta := ((t.r0.map ru, t.r1.map ru), fiveOf t)
def encK (t : Tb.Tab) (k : Nat) : List UInt8 := if k = 0 then [] else if k = 1 then Wr.encN Wr.encR (t.r0.map ru) else Wr.encN Wr.encR (t.r0.map ru) ++ Wr.encN Wr.encR (t.r1.map ru)
theorem encK_next (t : Tb.Tab) (k : Nat) (hk : k < 2) : encK t (k + 1) = encK t k ++ Wr.encN Wr.encR ((Tb.rulesN t k).map ru) := by
 obtain rfl | rfl : k = 0 ∨ k = 1 := by omega
 ·rfl
 ·rfl
theorem encT_parts (t : Tb.Tab) : Wr.encT (taOf t) = encK t 2 ++ Wr.encN Wr.encB (fiveOf t) := rfl
theorem encK_le (t : Tb.Tab) (k : Nat) (hk : k ≤ 2) : (encK t k).length ≤ (Wr.encT (taOf t)).length := by
 rw [encT_parts]
 obtain rfl | rfl | rfl : k = 0 ∨ k = 1 ∨ k = 2 := by omega
 ·simp [encK]
 ·simp only [encK]; simp
 ·simp
theorem encR_ru (r : Tb.Rl) : Wr.encR (ru r) = Wr.encB r.text ++ (Wr.enc r.wh ++ Wr.encB r.cells.l) := rfl
theorem encB_is (l : List UInt8) : Wr.encB l = Wr.enc l.length ++ l := rfl
theorem wpList_pushG {ops : Array Oper} {rest : List Oper} {o : Oper} {a : Act} {w : World} {Q : Exit → Act → World → Prop} (hgd : o.guard = none) (s x : Operand)
  (ho : o.op = .call { callee := .builtin .append, args := #[s, x], argTypes := #[23, 23] }) (hty : o.type = 23)
  (base b' : Nat) (v u : Value) (cur new : List UInt8) (hs : a.eval s = v) (hown : w.ownsRow base 5 1 v cur.length (BV cur)) (hx : a.eval x = u) (hnew : w.ownsRow b' 5 1 u new.length (BV new))
  (hl : cur.length + new.length ≤ 17592186044416) (hbase : base ≤ w.heap.size)
  (h : ∀ v' w', w'.ownsRow base 5 1 v' (cur ++ new).length (BV (cur ++ new)) → w.grownBy w' v.ownBlock → (v'.ownBlock = v.ownBlock ∨ v'.ownBlock = some w.heap.size) → wpList Tryd.prog ops Q rest (a.put o.dst v') w') : wpList Tryd.prog ops Q (o :: rest) a w := by
 obtain ⟨i0, hi, hz0, hz1, hz2⟩ := info_parts byteInfo
 obtain ⟨A, c, rfl, _, _⟩ := own_slice hnew
 refine wpList_append_any w hgd s x 23 ho base 5 i0 (.int .u8 0) 1 1 Tryd.underlying23 hi hz0 hz1 hz2 rfl (by omega) v cur.length (BV cur) hs hown w.heap.size A new.length c (BV new) hx (Reads.of_own hnew) (BV_one new) (by unfold maxLen; omega) (by omega) hbase ?_
 intro v' w' h1 h2 h3
 refine h v' w' ?_ h2 h3
 rw [BV_append, List.length_append]
 exact h1
theorem wpList_push {ops : Array Oper} {rest : List Oper} {o : Oper} {a : Act} {w : World} {Q : Exit → Act → World → Prop} (hgd : o.guard = none) (s x : Operand)
  (ho : o.op = .call { callee := .builtin .append, args := #[s, x], argTypes := #[23, 23] }) (hty : o.type = 23)
  (base b' : Nat) (v u : Value) (cur new : List UInt8) (hs : a.eval s = v) (hown : w.ownsRow base 5 1 v cur.length (BV cur)) (hx : a.eval x = u) (hnew : w.ownsRow b' 5 1 u new.length (BV new))
  (hl : cur.length + new.length ≤ 17592186044416) (hbase : base ≤ w.heap.size)
  (h : ∀ v' w', w'.ownsRow base 5 1 v' (cur ++ new).length (BV (cur ++ new)) → Below base w w' → wpList Tryd.prog ops Q rest (a.put o.dst v') w') : wpList Tryd.prog ops Q (o :: rest) a w :=
 wpList_pushG hgd s x ho hty base b' v u cur new hs hown hx hnew hl hbase fun v' w' h1 h2 _ => h v' w' h1 (below_grown h2 hown hbase)
theorem own_ne {w : World} {b e size n g : Nat} {v : Value} {xs : List Value} (h : w.ownsRow b e size v n xs) (hg : w.heap.size ≤ g) : v.ownBlock ≠ some g := fun he => by have := (h.lt g he).2; omega
theorem bytes_anyX (s : List UInt8) (w : World) (hn : s.length ≤ 1099511627776) :
  Calls Tryd.prog 24 #[.string (S s)] w fun e w' => ∃ v, e = .returned v ∧ w'.ownsRow w.heap.size 5 1 v (Wr.enc s.length ++ s).length (BV (Wr.enc s.length ++ s)) ∧ Below w.heap.size w w' := by
 rw [List.length_append]
 exact bytes_any s w hn
theorem strings_anyX (A : Option Addr) (n c : Nat) (xs : List (List UInt8)) (w : World) (hr : Reads w w.heap.size 1 A n (xs.map VS)) (hnc : n ≤ c) (hm : n ≤ 1099511627776) (hbig : (Wr.encL Wr.encB xs).length ≤ 8796093022208) :
  Calls Tryd.prog 25 #[.slice A n c] w fun e w' => ∃ v, e = .returned v ∧ w'.ownsRow w.heap.size 5 1 v (Wr.enc xs.length ++ Wr.encL Wr.encB xs).length (BV (Wr.enc xs.length ++ Wr.encL Wr.encB xs)) ∧ Below w.heap.size w w' := by
 rw [List.length_append]
 exact strings_any A n c xs w hr hnc hm hbig
theorem reads_made {w : World} {g n : Nat} {t : TypeId} {xs : List Value} (h : Blk w g t xs.toArray) (hn : xs.length = n) : Reads w w.heap.size 1 (some ⟨g, 0, none⟩) n xs :=
 ⟨by rw [hn, Nat.mul_one], fun _ => ⟨_, rfl, h.lt, fun j u hj => by
  have : ((⟨g, 0, none⟩ : Addr).add j) = ⟨g, j, none⟩ := by simp [Addr.add]; intro h; omega
  rw [this, h.cell, List.getElem?_toArray]
  exact hj⟩⟩
theorem reads_five (w : World) (a b c d e : Value) (t : TypeId) : Reads (w.alloc (.cells #[a, b, c, d, e] t)) (w.alloc (.cells #[a, b, c, d, e] t)).heap.size 1 (some ⟨w.heap.size, 0, none⟩) 5 [a, b, c, d, e] :=
 reads_made (Blk.new w t _) rfl
theorem symInfo3 : (Tryd.prog.info? 83).map (fun i => (i.zero, i.size, i.bytes)) = some (some (.agg #[.int .i64 0, .int .u8 0]), 2, 16) := by kernel_rfl
theorem SC_one (es : Tb.Text) : ∀ v ∈ SC es, v.oneCell' = true := by
 intro v hv
 unfold SC at hv
 obtain ⟨x, _, hx⟩ := List.mem_flatMap.1 hv
 simp only [syC, List.mem_cons, List.not_mem_nil, or_false] at hx
 rcases hx with rfl | rfl <;> rfl
theorem syms_push (W : World) (base g : Nat) (v : Value) (l : Tb.Text) (x : Int × UInt8) (hown : W.ownsRow base 83 2 v l.length (SC l)) (hg : Blk W g 83 #[.int .i64 x.1, .int .u8 (x.2.toNat : Int)]) (hbase : base ≤ W.heap.size) (hlen : l.length ≤ 100000) (ty : TypeId) :
  ∃ v' W', (Builtin.append_ #[46, 46] ty #[v, .slice (some ⟨g, 0, none⟩) 1 1]).run Tryd.prog W = .ok v' W' ∧ W'.ownsRow base 83 2 v' (l ++ [x]).length (SC (l ++ [x])) ∧ W.grownBy W' v.ownBlock ∧ (v'.ownBlock = v.ownBlock ∨ v'.ownBlock = some W.heap.size) := by
 obtain ⟨j0, hj, hy0, hy1, hy2⟩ := info_parts symInfo3
 obtain ⟨v', w', hrun, hown', hgrow', hat'⟩ := run_append_any (P := Tryd.prog) W base 46 ty 83 j0 (.agg #[.int .i64 0, .int .u8 0]) 2 16 Tryd.underlying46 hj hy0 hy1 hy2 rfl (by omega)
  v l.length (SC l) hown W.heap.size (some ⟨g, 0, none⟩) 1 1 (syC x)
  ⟨rfl, fun _ => ⟨_, rfl, hg.lt, fun j u hu => by
   have h2 := Blk.cell hg j
   rw [show ((⟨g, 0, none⟩ : Addr).add j) = ⟨g, j, none⟩ by unfold Addr.add; split <;> simp_all, h2, ← hu]
   show (syC x).toArray[j]? = _
   rw [List.getElem?_toArray]⟩⟩
  (fun u hu => SC_one [x] u (by unfold SC; simpa using hu)) (by unfold maxLen; omega) (by omega) hbase
 refine ⟨v', w', hrun, ?_, hgrow', hat'⟩
 rw [SC_append, List.length_append]
 have e : SC [x] = syC x := by unfold SC; simp
 rw [e]
 exact hown'
theorem text_of_own {w : World} {b n : Nat} {v : Value} {l : Tb.Text} (h : w.ownsRow b 83 2 v n (SC l)) (hl : l.length ≤ 1048576) :
  ∃ A c, v = .slice A l.length c ∧ l.length ≤ c ∧ TextAt w w.heap.size A l := by
 obtain ⟨A, c, rfl, hnc, _⟩ := own_slice h
 have hn : n = l.length := by have := h.1; rw [SC_len] at this; omega
 subst hn
 exact ⟨A, c, rfl, hnc, Reads.of_own h, hl⟩
def txt0 (s : List UInt8) : Tb.Text := s.map fun c => (0, c)
set_option maxHeartbeats 2000000 in
set_option maxRecDepth 100000 in
theorem text_any (s : List UInt8) (w : World) (hs : s.length ≤ 1000) :
  Calls Tryd.prog 48 #[.string (S s)] w fun e w' => ∃ A c, e = .returned (.slice A (txt0 s).length c) ∧ (txt0 s).length ≤ c ∧ TextAt w' w'.heap.size A (txt0 s) ∧ Below w.heap.size w w' := by
 have HSX := hide (fun (i : Nat) (hi : i < s.length) (W : World) => run_index_S s i hi W)
 obtain ⟨n, hn⟩ : ∃ n, n = s.length := ⟨_, rfl⟩
 have hsz : (S s).size = n := by rw [S_size, hn]
 have HN := hide hn
 rw [← hn] at hs
 have hni : (n : Int) ≤ 1000 := by omega
 have HW := hide (Below.refl w.heap.size w)
 clear hn
 generalize S s = sv at *
 go_enter Tryd.func48, Tryd.ntmps48
 go_wp2
 go_loopw [3, 4] (fun s3 q wr => ∃ (i : Nat) (y3 : Value), i ≤ n ∧ q = .int .i64 (i : Int) ∧ y3 = s3 ∧ wr.ownsRow w.heap.size 83 2 y3 (txt0 (s.take i)).length (SC (txt0 (s.take i))) ∧ Below w.heap.size w wr) (fun _ q _ => n - (intOf q).toNat)
 case atStart => exact ⟨0, _, by omega, rfl, rfl, by rw [List.take_zero]; exact own_nil _ _ _ _, HW.out⟩
 case round =>
  obtain ⟨i, y3, hi, rfl, rfl, hown, hbel⟩ := hrel
  obtain ⟨wd, rfl⟩ : ∃ wd, wd = wr := ⟨wr, rfl⟩
  have hi0 : (0 : Int) ≤ (i : Int) := by omega
  by_cases hlt : i < n
  ·have hil : i < s.length := by rw [← HN.out]; exact hlt
   have hix := fun W => HSX.out i hil W
   have hi1 : (i : Int) < (n : Int) := by omega
   have HT := hide (show txt0 (s.take (i + 1)) = txt0 (s.take i) ++ [(0, s.getD i 0)] by
    unfold txt0
    rw [List.take_succ_eq_append_getElem hil, List.map_append]
    simp [List.getD, hil])
   have hbs := hbel.size
   have hlen : (txt0 (s.take i)).length ≤ 1000 := by unfold txt0; rw [List.length_map, List.length_take]; omega
   obtain ⟨v', W', hrun, hown', hgrow', _⟩ := syms_push (wd.alloc (.cells #[.int .i64 0, .int .u8 ((s.getD i 0).toNat : Int)] 83)) w.heap.size wd.heap.size y3 (txt0 (s.take i)) (0, s.getD i 0) (own_below hown (below_alloc wd _)) (Blk.new wd _ _) (by simp; omega) (by omega) 46
   have HRUN := hide hrun
   have HO' := hide hown'
   have HB' := hide ((hbel.trans (below_alloc' wd _ hbs)).grown hgrow' (by simp; omega) (fun g hg => (hown.lt g hg).1))
   have HLT := hide hlt
   clear hrun hown' hgrow' hown hbel HSX hil hlt
   generalize (s.getD i 0).toNat = cc at *
   go_wp2_with (at_builtin; refine Lib.wpList_append_run _ rfl _ _ _ _ rfl _ _ rfl rfl _ _ HRUN.out ?_)
   exact ⟨⟨i + 1, _, HLT.out, by go_num, rfl, by rw [HT.out]; exact HO'.out, HB'.out⟩, by have := HLT.out; simp [intOf]; omega⟩
  ·obtain rfl : i = n := by omega
   have hnt : ¬ ((i : Int) < (i : Int)) := by omega
   have ho : wd.ownsRow w.heap.size 83 2 y3 (txt0 s).length (SC (txt0 s)) := by
    have h := hown
    rwa [List.take_of_length_le (by have := HN.out; omega)] at h
   obtain ⟨A, c, hv, hc, ht⟩ := text_of_own ho (by unfold txt0; rw [List.length_map]; have := HN.out; omega)
   have HT := hide ht
   have HC := hide hc
   have HB := hide hbel
   subst hv
   clear hlt ho hown hbel ht hc HSX
   go_wp2
   go_ret
   exact ⟨A, c, rfl, HC.out, HT.out, HB.out⟩
def bsV (b : Tb.Bs) : Value := .slice b.ad b.l.length b.c
def CellsAt (w : World) (B : Nat) (A : Option Addr) (bs : List Tb.Bs) : Prop := Reads w B 1 A bs.length (bs.map bsV) ∧ ∀ b ∈ bs, BsAt w B b
theorem CellsAt.below {w w' : World} {B : Nat} {A : Option Addr} {bs : List Tb.Bs} (h : CellsAt w B A bs) (hb : Below B w w') : CellsAt w' B A bs := ⟨h.1.below hb, fun b hm => (h.2 b hm).below hb⟩
theorem CellsAt.more {w : World} {B B' : Nat} {A : Option Addr} {bs : List Tb.Bs} (h : CellsAt w B A bs) (hB : B ≤ B') : CellsAt w B' A bs := ⟨h.1.more hB, fun b hm => (h.2 b hm).more hB⟩
theorem reads_step {w : World} {A : Option Addr} {xs : List Stp} (h : Reads w w.heap.size 6 A xs.length (STC xs)) (k : Nat) (hk : k < xs.length) :
  ∃ ad, A = some ad ∧ ad.block < w.heap.size ∧ ∀ (j : Nat) (v : Value), (spC xs[k])[j]? = some v → w.cell? ((ad.add (k * 6)).add j) = some v := by
 obtain ⟨ad, hA, hb, hc⟩ := h.2 (by omega)
 refine ⟨ad, hA, hb, fun j v hv => ?_⟩
 have hj : j < 6 := (List.getElem?_eq_some_iff.1 hv).1
 rw [add_of_add]
 exact hc _ _ (by rw [STC_get xs k j hk hj]; exact hv)
set_option maxHeartbeats 4000000 in
set_option maxRecDepth 100000 in
theorem are_any (v : Value) (xs : List Stp) (L : Option Addr) (m cl : Nat) (C : Option Addr) (cc : Nat) (bs : List Tb.Bs) (w : World) (hx : StepsAt w v xs) (hl : Reads w w.heap.size 1 L m (xs.map fun x => Value.int .i64 (x.sp.len : Int)))
  (hb : CellsAt w w.heap.size C bs) (he : xs.map (·.sp.cells) = bs.map (·.l)) :
  Calls Tryd.prog 47 #[v, .slice L m cl, .slice C bs.length cc] w fun e w' => e = .returned (.bool true) ∧ Below w.heap.size w w' := by
 obtain ⟨A, c, rfl, _, h96, hr, hbs⟩ := hx
 have hml : m = xs.length := by have := hl.1; simp at this; omega
 have hbl : bs.length = xs.length := by have := congrArg List.length he; simpa using this.symm
 have HR := hide hr
 have HL := hide hl
 have HC := hide hb
 have HE := hide he
 have HXB := hide hbs
 have HW := hide (Below.refl w.heap.size w)
 rw [hbl]
 obtain ⟨n, hn⟩ : ∃ n, n = xs.length := ⟨_, rfl⟩
 have HN := hide hn
 have HBL := hide hbl
 rw [← hn] at hml h96 ⊢
 subst hml
 have hmi : (m : Int) ≤ 96 := by omega
 have hne : ((m : Int) != (m : Int)) = false := by simp
 clear hr hl hb he hbs hn hbl
 go_enter Tryd.func47, Tryd.ntmps47
 go_wp2
 go_loopw [7] (fun s wr => ∃ (k q : Nat), k ≤ m ∧ s = .int .i64 (k : Int) ∧ wr = w.drewN q) (fun s _ => m - (intOf s).toNat)
 case atStart => exact ⟨0, 0, by omega, rfl, rfl⟩
 case round =>
  obtain ⟨k, q, hk, rfl, rfl⟩ := hrel
  have hk0 : (0 : Int) ≤ (k : Int) := by omega
  by_cases hlt : k < m
  ·have hkx : k < xs.length := by rw [← HN.out]; exact hlt
   have hkb : k < bs.length := by rw [HBL.out]; exact hkx
   obtain ⟨ad, rfl, hadb, hcs⟩ := reads_step HR.out k hkx
   have hc1 : w.cell? ⟨(ad.add (k * 6)).block, (ad.add (k * 6)).off + 3, none⟩ = some (.int .i64 (xs[k].sp.len : Int)) := hcs 3 _ rfl
   have hc2 : w.cell? ⟨(ad.add (k * 6)).block, (ad.add (k * 6)).off + 4, none⟩ = some (.slice xs[k].ad xs[k].sp.cells.length xs[k].c) := hcs 4 _ rfl
   obtain ⟨ld, u, rfl, hldb, hu, hcu⟩ := Reads.at_ HL.out hlt
   have hcl : w.cell? (ld.add k) = some (.int .i64 (xs[k].sp.len : Int)) := by
    rw [List.getElem?_map, List.getElem?_eq_getElem hkx] at hu
    rw [hcu, ← hu]
    rfl
   obtain ⟨cd, u2, rfl, hcdb, hu2, hcu2⟩ := Reads.at_ HC.out.1 (k := k) hkb
   have hcc : w.cell? (cd.add k) = some (.slice bs[k].ad bs[k].l.length bs[k].c) := by
    rw [List.getElem?_map, List.getElem?_eq_getElem hkb] at hu2
    rw [hcu2, ← hu2]
    rfl
   have hel : xs[k].sp.cells = bs[k].l := by
    have h := congrArg (fun z => z[k]?) HE.out
    simp only [List.getElem?_map, List.getElem?_eq_getElem hkx, List.getElem?_eq_getElem hkb, Option.map_some, Option.some.injEq] at h
    exact h
   have hb1 := (HXB.out xs[k] (List.getElem_mem hkx))
   have hb2 := HC.out.2 bs[k] (List.getElem_mem hkb)
   have CS := hide (fun (j : Nat) => (show Calls Tryd.prog 7 #[.slice xs[k].ad xs[k].sp.cells.length xs[k].c, .slice bs[k].ad bs[k].l.length bs[k].c] (w.drewN (q + j)) fun e w' => e = .returned (.bool true) ∧ ∃ z, w' = w.drewN (q + z) by
    have h := same_any xs[k].ad bs[k].ad xs[k].c bs[k].c xs[k].sp.cells bs[k].l (w.drewN (q + j)) hb1.1 hb2.1 hb1.2.2
    rw [decide_eq_true hel] at h
    exact h.mono fun e w' ⟨he, z, hz⟩ => ⟨he, j + z, by rw [hz, World.drewN_drewN, Nat.add_assoc]⟩))
   have hk1 : (k : Int) < (m : Int) := by omega
   have HLT := hide hlt
   generalize xs[k].sp.len = xl at *
   generalize xs[k].sp.cells.length = xn at *
   generalize xs[k].ad = xa at *
   generalize xs[k].c = xc at *
   generalize bs[k].l.length = bn at *
   generalize bs[k].ad = ba at *
   generalize bs[k].c = bc at *
   have hnl : ((xl : Int) != (xl : Int)) = false := by simp
   clear hu hcu hu2 hcu2 hel hb1 hb2 hcs hkx hkb hlt
   go_wp2
   go_quiet (first | (go_at_call 7; exact unhide CS _))
   go_wp2
   have hk2 : k < m := HLT.out
   refine ⟨⟨k + 1, q + nq, by omega, rfl, rfl⟩, ?_⟩
   simp only [intOf]
   omega
  ·obtain rfl : k = m := by omega
   have hnt : ¬ ((k : Int) < (k : Int)) := by omega
   clear hlt
   go_wp2
   go_ret
   exact ⟨rfl, below_drewN HW.out _⟩
namespace Tb
theorem all_right_eR (l : List Rl) : (l.map eR).all right = l.all right := by rw [List.all_map]; rfl
theorem proper_eT (t : Tab) : proper (eT t) = proper t := by
 show ((t.r0.map eR).all right && (t.r1.map eR).all right && _ && _ && _ && _ && _ && _) = _
 rw [all_right_eR, all_right_eR]
 rfl
theorem lone_eR (l : List Rl) : lone (l.map eR) = lone l := by unfold lone; rw [map_key_eR]
theorem owns_eR (l : List Rl) : owns (l.map eR) = owns l := by unfold owns ownsC; rw [map_key_eR]
theorem valid_eT (t : Tab) : valid (eT t) = valid t := by
 unfold valid
 rw [proper_eT, show (eT t).r0 = t.r0.map eR from rfl, show (eT t).r1 = t.r1.map eR from rfl, lone_eR, lone_eR, owns_eR, owns_eR, List.length_map, List.length_map]
theorem rulesOf_eT (t : Tab) (x : Int) : rulesOf (eT t) x = (rulesOf t x).map eR := by unfold rulesOf; split <;> rfl
theorem pieceAt_eT (rs : List Rl) (t : Tab) (s : St) (l : Text) (p i : Nat) : pieceAt (rs.map eR) (eT t) s l p i = pieceAt rs t s l p i := by
 unfold pieceAt
 rw [List.getElem?_map]
 cases rs[i]? <;> rfl
theorem pieces_eT (rs : List Rl) (t : Tab) (s : St) (l : Text) (p : Nat) : pieces (rs.map eR) (eT t) s l p = pieces rs t s l p := by
 unfold pieces
 rw [List.length_map]
 congr 1
 funext i
 exact pieceAt_eT rs t s l p i
theorem steps_eT (t : Tab) (s : St) (l : Text) (p : Int) : steps (eT t) s l p = steps t s l p := by
 unfold steps next
 rw [valid_eT, rulesOf_eT, pieces_eT]
 rfl
theorem steps_same {t u : Tab} (h : eT t = eT u) (s : St) (l : Text) (p : Int) : steps t s l p = steps u s l p := by rw [← steps_eT t, h, steps_eT]
theorem once_keys (l : List Rl) : ((once l).map key).Nodup := by
 refine Wr.snoc_ind (P := fun l => ((once l).map key).Nodup) List.nodup_nil (fun l a ih => ?_) l
 rw [once_snoc]
 split
 ·exact ih
 ·rename_i h
  rw [List.map_append, List.map_singleton, List.nodup_append]
  refine ⟨ih, by simp, fun x hx y hy => ?_⟩
  rw [List.mem_singleton] at hy
  subst hy
  rintro rfl
  exact h hx
theorem once_sub (l : List Rl) : ∀ r ∈ once l, r ∈ l := by
 refine Wr.snoc_ind (P := fun l => ∀ r ∈ once l, r ∈ l) (fun r h => by cases h) (fun l a ih => ?_) l
 rw [once_snoc]
 intro r hr
 split at hr
 ·exact List.mem_append_left _ (ih r hr)
 ·rcases List.mem_append.1 hr with h | h
  ·exact List.mem_append_left _ (ih r h)
  ·exact List.mem_append_right _ h
theorem once_has (l : List Rl) : ∀ r ∈ l, key r ∈ (once l).map key := by
 refine Wr.snoc_ind (P := fun l => ∀ r ∈ l, key r ∈ (once l).map key) (fun r h => by cases h) (fun l a ih => ?_) l
 rw [once_snoc]
 intro r hr
 split
 ·rename_i h
  rcases List.mem_append.1 hr with h1 | h1
  ·exact ih r h1
  ·rw [List.mem_singleton] at h1; subst h1; exact h
 ·rw [List.map_append]
  rcases List.mem_append.1 hr with h1 | h1
  ·exact List.mem_append_left _ (ih r h1)
  ·rw [List.mem_singleton] at h1; subst h1; exact List.mem_append_right _ (by simp)
theorem once_len (l : List Rl) : (once l).length ≤ l.length := by
 refine Wr.snoc_ind (P := fun l => (once l).length ≤ l.length) (Nat.le_refl 0) (fun l a ih => ?_) l
 rw [once_snoc]
 split
 ·rw [List.length_append]; omega
 ·rw [List.length_append, List.length_append]; omega
theorem cellC_filled (n : Int) (k : Nat) : filled (cellC n k) = true := by
 unfold filled
 rw [cellC_nat]
 exact decide_eq_true (cellN_lt n k)
theorem writable_one (n : Int) (k : Nat) : writable [cellC n k] = true := by
 unfold writable
 simp [cellC_filled]
theorem writable_two (n : Int) (k j : Nat) : writable [cellC n k, cellC n j] = true := by
 unfold writable
 simp [cellC_filled]
theorem right_letterR (n : Int) (lang i : Nat) (h : i < 26) : right (letterR n lang i) = true := by
 have hs : ([UInt8.ofNat (97 + i)] : List UInt8).all small = true := by
  rw [List.all_cons, List.all_nil, Bool.and_true]
  unfold small
  have e : (UInt8.ofNat (97 + i)).toNat = 97 + i := by simp only [UInt8.toNat_ofNat']; omega
  rw [e]
  exact decide_eq_true ⟨by omega, by omega⟩
 unfold right letterR mkR
 simp only [hs, if_pos, writable_one]
 rfl
theorem right_markR (n : Int) (i : Nat) (h : i < 6) : right (markR n i) = true := by
 have hm : ([markB.getD i 0] : List UInt8).all small = false ∧ mark (markB.getD i 0) = true := by
  match i, h with
  | 0, _ => exact ⟨by decide, by decide⟩
  | 1, _ => exact ⟨by decide, by decide⟩
  | 2, _ => exact ⟨by decide, by decide⟩
  | 3, _ => exact ⟨by decide, by decide⟩
  | 4, _ => exact ⟨by decide, by decide⟩
  | 5, _ => exact ⟨by decide, by decide⟩
 unfold right markR mkR
 simp only [hm.1, writable_one, List.headD_cons, hm.2]
 rfl
theorem words_right (k : Nat) (h : k < 12) : (words.getD k []).all small = true ∧ 1 ≤ (words.getD k []).length ∧ (words.getD k []).length ≤ 8 := by
 match k, h with
 | 0, _ => exact ⟨by decide, by decide, by decide⟩
 | 1, _ => exact ⟨by decide, by decide, by decide⟩
 | 2, _ => exact ⟨by decide, by decide, by decide⟩
 | 3, _ => exact ⟨by decide, by decide, by decide⟩
 | 4, _ => exact ⟨by decide, by decide, by decide⟩
 | 5, _ => exact ⟨by decide, by decide, by decide⟩
 | 6, _ => exact ⟨by decide, by decide, by decide⟩
 | 7, _ => exact ⟨by decide, by decide, by decide⟩
 | 8, _ => exact ⟨by decide, by decide, by decide⟩
 | 9, _ => exact ⟨by decide, by decide, by decide⟩
 | 10, _ => exact ⟨by decide, by decide, by decide⟩
 | 11, _ => exact ⟨by decide, by decide, by decide⟩
theorem shortCells_writable (n : Int) (i : Nat) : writable (shortCells n i) = true := by
 unfold shortCells
 split
 ·exact writable_two _ _ _
 ·split
  ·exact writable_two _ _ _
  ·exact writable_one _ _
theorem right_shortR (n : Int) (lang i : Nat) : right (shortR n lang i) = true := by
 obtain ⟨h1, h2, h3⟩ := words_right (wordOf n lang i) (Ce.around_lt _ _ (by decide))
 have hw : whereOf n i < 4 := Nat.mod_lt _ (by decide)
 unfold right shortR mkR
 simp only [h1, if_pos, shortCells_writable, Bool.true_and]
 rw [decide_eq_true ⟨h2, h3⟩, Bool.true_and]
 exact decide_eq_true ⟨by omega, by omega⟩
theorem rawR_right (n : Int) (lang : Nat) : ∀ r ∈ rawR n lang, right r = true := by
 intro r hr
 unfold rawR at hr
 simp only [List.mem_append, List.mem_map, List.mem_range] at hr
 rcases hr with (⟨i, hi, rfl⟩ | ⟨i, hi, rfl⟩) | ⟨i, hi, rfl⟩
 ·exact right_letterR n lang i hi
 ·exact right_markR n i hi
 ·exact right_shortR n lang i
theorem manyOf_lt (n : Int) (lang : Nat) : manyOf n lang ≤ 8 := by
 unfold manyOf
 have := Ce.around_lt (n.tdiv 630 + lang) 6 (by decide)
 omega
theorem rawR_len (n : Int) (lang : Nat) : (rawR n lang).length ≤ 40 := by
 unfold rawR
 simp only [List.length_append, List.length_map, List.length_range]
 have := manyOf_lt n lang
 omega
theorem rawR_owns (n : Int) (lang : Nat) : owns (once (rawR n lang)) = true := by
 unfold owns
 rw [List.all_eq_true]
 intro i hi
 unfold ownsC
 refine decide_eq_true ?_
 refine once_has (rawR n lang) (letterR n lang i) ?_
 unfold rawR
 exact List.mem_append_left _ (List.mem_append_left _ (List.mem_map_of_mem hi))
theorem once_right (n : Int) (lang : Nat) : (once (rawR n lang)).all right = true := by
 rw [List.all_eq_true]
 exact fun r hr => rawR_right n lang r (once_sub _ r hr)
theorem swC_writable (n : Int) : writable (swC n) = true := by
 unfold swC
 split
 ·exact writable_two _ _ _
 ·exact writable_one _ _
theorem valid_of {a b : List Rl} {d c n f s : Bs} (ha : a.length ≤ 96) (hb : b.length ≤ 96) (ra : a.all right = true) (rb : b.all right = true) (hd : d.l.length = 10) (hdf : d.l.all filled = true)
  (hc : writable c.l = true) (hn : writable n.l = true) (hf : writable f.l = true) (hs : writable s.l = true) (la : lone a = true) (lb : lone b = true) (oa : owns a = true) (ob : owns b = true) : valid ⟨a, b, d, c, n, f, s⟩ = 0 := by
 unfold valid proper
 simp only [ra, rb, hd, hdf, hc, hn, hf, hs, la, lb, oa, ob]
 rw [if_neg (by omega)]
 simp
theorem valid_tablesT (n : Int) : valid (tablesT n) = 0 := by
 have h0 := Nat.le_trans (once_len (rawR n 0)) (rawR_len n 0)
 have h1 := Nat.le_trans (once_len (rawR n 1)) (rawR_len n 1)
 have hd : ((List.range 10).map (cellC n)).length = 10 := by rw [List.length_map, List.length_range]
 have hf : ((List.range 10).map (cellC n)).all filled = true := by
  rw [List.all_eq_true]
  intro c hc
  obtain ⟨k, _, rfl⟩ := List.mem_map.1 hc
  exact cellC_filled n k
 have l0 : lone (once (rawR n 0)) = true := decide_eq_true (once_keys _)
 have l1 : lone (once (rawR n 1)) = true := decide_eq_true (once_keys _)
 exact valid_of (by omega) (by omega) (once_right n 0) (once_right n 1) hd hf (writable_one _ _) (writable_one _ _) (writable_one _ _) (swC_writable n) l0 l1 (rawR_owns n 0) (rawR_owns n 1)
def exL : List Rl := (List.range 26).map fun i => mkR [UInt8.ofNat (97 + i)] 0 [UInt8.ofNat (1 + i)]
def exMore : List Rl := [mkR [97, 110] 0 [30], mkR [97, 110] 1 [31], mkR [110] 3 [32], mkR [46] 0 [33]]
def exB (l : List UInt8) : Bs := ⟨l, none, 0⟩
def exT : Tab := ⟨exL ++ exMore, exL, exB [41, 42, 43, 44, 45, 46, 47, 48, 49, 50], exB [60], exB [61], exB [62], exB [63]⟩
def sp0 (s : List Nat) : Text := s.map fun c => (0, UInt8.ofNat c)
def zeroS : St := ⟨0, false, false⟩
def numS : St := ⟨0, true, false⟩
theorem ex_valid : valid exT = 0 := by decide +kernel
theorem ex_One : (steps exT zeroS (sp0 [65, 110]) 0).map (fun x => (x.len, x.cells)) = [(1, [60, 1]), (2, [60, 30]), (2, [60, 31])] := by decide +kernel
theorem ex_Ban1 : (steps exT zeroS (sp0 [98, 97, 110]) 1).map (fun x => (x.len, x.cells)) = [(1, [1]), (2, [30])] := by decide +kernel
theorem ex_Ban2 : (steps exT zeroS (sp0 [98, 97, 110]) 2).map (fun x => (x.len, x.cells)) = [(1, [14]), (1, [32])] := by decide +kernel
theorem ex_Seven : (steps exT zeroS (sp0 [55, 46]) 0).map (fun x => (x.len, x.cells)) = [(1, [61, 48])] := by decide +kernel
theorem ex_SevenA : (steps exT numS (sp0 [55, 97]) 1).map (fun x => (x.len, x.cells)) = [(1, [62, 1])] := by decide +kernel
theorem ex_SevenDot : (steps exT numS (sp0 [55, 46]) 1).map (fun x => (x.len, x.cells)) = [(1, [33])] := by decide +kernel
theorem ex_Switch : (steps exT zeroS [(1, 97)] 0).map (fun x => (x.len, x.cells)) = [(0, [63])] := by decide +kernel
end Tb
def gAny : World → Value → Prop := fun _ _ => True
def gIs (u : Value) : World → Value → Prop := fun _ v => v = u
def gTxt (l : Tb.Text) : World → Value → Prop := fun W v => ∃ A c, v = .slice A l.length c ∧ l.length ≤ c ∧ TextAt W W.heap.size A l
def gStp (L : List (Nat × List UInt8)) : World → Value → Prop := fun W v => ∃ xs, StepsAt W v xs ∧ xs.map (fun x => (x.sp.len, x.sp.cells)) = L
def gRow (T : TypeId) (cs : List Value) : World → Value → Prop := fun W v => ∃ g, v = .slice (some ⟨g, 0, none⟩) cs.length cs.length ∧ Blk W g T cs.toArray
def gCls (L : List (List UInt8)) : World → Value → Prop := fun W v => ∃ A bs, v = .slice A L.length L.length ∧ CellsAt W W.heap.size A bs ∧ bs.map (·.l) = L
def Stab (G : World → Value → Prop) : Prop := ∀ W W' v, Below W.heap.size W W' → G W v → G W' v
theorem stab_any : Stab gAny := fun _ _ _ _ h => h
theorem stab_is (u : Value) : Stab (gIs u) := fun _ _ _ _ h => h
theorem stab_txt (l : Tb.Text) : Stab (gTxt l) := fun _ _ _ hb ⟨A, c, h1, h2, h3⟩ => ⟨A, c, h1, h2, (h3.1.below hb).more hb.size, h3.2⟩
theorem stab_stp (L : List (Nat × List UInt8)) : Stab (gStp L) := fun _ _ _ hb ⟨xs, h1, h2⟩ => ⟨xs, h1.same hb, h2⟩
theorem stab_row (T : TypeId) (cs : List Value) : Stab (gRow T cs) := fun _ _ _ hb ⟨g, h1, h2⟩ => ⟨g, h1, h2.below hb h2.lt⟩
theorem stab_cls (L : List (List UInt8)) : Stab (gCls L) := fun _ _ _ hb ⟨A, bs, h1, h2, h3⟩ => ⟨A, bs, h1, (h2.below hb).more hb.size, h3⟩
def StabL (ks : List (World → Value → Prop)) : Prop := ∀ k ∈ ks, Stab k
theorem stabL_nil : StabL [] := fun k hk => by cases hk
theorem stabL_cons {k : World → Value → Prop} {ks : List (World → Value → Prop)} (h : Stab k) (hs : StabL ks) : StabL (k :: ks) := fun q hq => by
 rcases List.mem_cons.1 hq with rfl | hq
 ·exact h
 ·exact hs q hq
def gAll (ks : List (World → Value → Prop)) : Nat → Value → World → Prop := fun j v W => (ks.getD j gAny) W v
theorem gAll_below {ks : List (World → Value → Prop)} (hs : StabL ks) {W W' : World} (hb : Below W.heap.size W W') (j : Nat) (v : Value) (h : gAll ks j v W) : gAll ks j v W' := by
 have hk : Stab (ks.getD j gAny) := by
  rw [List.getD_eq_getElem?_getD]
  cases h1 : ks[j]? with
  | none => exact stab_any
  | some k => exact hs _ (List.mem_of_getElem? h1)
 exact hk W W' v hb h
theorem fI {ks : List (World → Value → Prop)} {ds : List (Option Tmp)} {A : Act} {x : Nat → Value} {W : World} {D : List Nat} {V : Value} (hd : ∀ j ∈ D, found ds A j (x j) ∧ gAll ks j (x j) W) (j : Nat) (t : Tmp) (hj : j ∈ D := by decide) (ht : ds[j]? = some (some t) := by rfl) (hk : ks.getD j gAny = gIs V := by rfl) : A.tmps[t]?.getD undef = V := by
 have h := (hd j hj).2
 unfold gAll at h
 rw [hk] at h
 exact ((hd j hj).1 t ht).trans h
theorem wanted_of {ops : Array Oper} {o : Oper} {A : Act} (j : Nat) (t : Tmp) (b : Bool) (hg : o.guard = some (j, b)) (hj : (ops[j]?).bind (·.dst) = some t) (hv : A.tmps[t]?.getD undef = .bool b) : Region.wanted o (yielded ops A.tmps) = true := by
 have h1 : A.tmps[t]? = some (.bool b) := by
  cases h : A.tmps[t]? with
  | none => rw [h] at hv; cases hv
  | some u => rw [h] at hv; exact congrArg some hv
 unfold Region.wanted
 rw [hg]
 show (yielded ops A.tmps j == some b) = true
 unfold yielded
 rw [hj]
 show ((match (A.tmps[t]?) with | some (.bool b) => some b | _ => none) == some b) = true
 rw [h1]
 cases b <;> rfl
theorem reads_row (W : World) (g : Nat) (T : TypeId) (cs : List Value) (h : Blk W g T cs.toArray) : Reads W W.heap.size 1 (some ⟨g, 0, none⟩) cs.length cs :=
 ⟨by omega, fun _ => ⟨_, rfl, h.lt, fun j u hu => by
  have h2 := Blk.cell h j
  rw [show ((⟨g, 0, none⟩ : Addr).add j) = ⟨g, j, none⟩ by unfold Addr.add; split <;> simp_all, h2, ← hu]
  rw [List.getElem?_toArray]⟩⟩
theorem cls_new (W : World) (bs : List Tb.Bs) (hb : ∀ b ∈ bs, BsAt W W.heap.size b) : CellsAt (W.alloc (.cells (bs.map bsV).toArray 23)) (W.alloc (.cells (bs.map bsV).toArray 23)).heap.size (some ⟨W.heap.size, 0, none⟩) bs := by
 have h := reads_row _ _ _ (bs.map bsV) (Blk.new W 23 (bs.map bsV).toArray)
 rw [List.length_map] at h
 exact ⟨h, fun b hm => (hb b hm).same (below_alloc W _)⟩
theorem bs_row (W : World) (g : Nat) (l : List UInt8) (h : Blk W g 5 (BV l).toArray) (hl : l.length ≤ 1000) : BsAt W W.heap.size ⟨l, some ⟨g, 0, none⟩, l.length⟩ := bs_of_blk W g l h (by omega)
theorem are_ok (L : List (Nat × List UInt8)) (v1 v2 v3 : Value) (W : World) (h1 : gStp L W v1) (h2 : gRow 3 (L.map fun p => .int .i64 (p.1 : Int)) W v2) (h3 : gCls (L.map (·.2)) W v3) :
  Calls Tryd.prog 47 #[v1, v2, v3] W fun e w' => e = .returned (.bool true) ∧ Below W.heap.size W w' := by
 obtain ⟨xs, hx, hL⟩ := h1
 obtain ⟨g, rfl, hg⟩ := h2
 obtain ⟨C, bs, rfl, hc, hbs⟩ := h3
 have e1 : (L.map fun p => Value.int .i64 (p.1 : Int)) = xs.map fun x => Value.int .i64 (x.sp.len : Int) := by rw [← hL, List.map_map]; rfl
 have e2 : xs.map (·.sp.cells) = bs.map (·.l) := by rw [hbs, ← hL, List.map_map]; rfl
 have e3 : (L.map (·.2)).length = bs.length := by rw [← hbs, List.length_map]
 rw [e3]
 have hr := reads_row W g _ _ hg
 rw [e1] at hr
 rw [e1]
 exact are_any v1 xs (some ⟨g, 0, none⟩) _ _ C bs.length bs W hx hr hc e2
theorem text_lit (b : ByteArray) (s : List Nat) (hb : b = S (s.map UInt8.ofNat)) (w : World) (hs : s.length ≤ 1000) :
  Calls Tryd.prog 48 #[.string b] w fun e w' => ∃ v, e = .returned v ∧ gTxt (Tb.sp0 s) w' v ∧ Below w.heap.size w w' := by
 subst hb
 refine (text_any (s.map UInt8.ofNat) w (by rw [List.length_map]; exact hs)).mono ?_
 rintro e w' ⟨A, c, rfl, hc, ht, hb⟩
 have e : txt0 (s.map UInt8.ofNat) = Tb.sp0 s := by unfold txt0 Tb.sp0; rw [List.map_map]; rfl
 rw [e] at hc ht ⊢
 exact ⟨_, rfl, ⟨A, c, rfl, hc, ht⟩, hb⟩
theorem steps_ok (TV : Value) (t : Tb.Tab) (w W : World) (h : TabAt w w.heap.size TV t) (hb : Below w.heap.size w W) (ht : Tb.eT t = Tb.exT) (s : Tb.St) (sv : Value) (hsv : sv = stV s) (l : Tb.Text) (v : Value) (hv : gTxt l W v) (p : Int) (L : List (Nat × List UInt8)) (hL : (Tb.steps Tb.exT s l p).map (fun x => (x.len, x.cells)) = L) :
  Calls Tryd.prog 19 #[TV, sv, v, .int .i64 p] W fun e w' => ∃ v', e = .returned v' ∧ gStp L w' v' ∧ Below W.heap.size W w' := by
 obtain ⟨A, c, rfl, hc, htx⟩ := hv
 subst hsv
 refine (steps_any TV t s A c l p W ((h.below hb).more hb.size) htx hc).mono ?_
 rintro e w' ⟨v', xs, rfl, hst, hxs, hbw⟩
 refine ⟨v', rfl, ⟨xs, hst, ?_⟩, hbw⟩
 have e1 : Tb.steps t s l p = Tb.steps Tb.exT s l p := by rw [← ht]; exact (Tb.steps_eT t s l p).symm
 rw [← hL, ← e1, ← hxs, List.map_map]
 rfl
theorem row_new (W : World) (T : TypeId) (cs : List Value) : gRow T cs (W.alloc (.cells cs.toArray T)) (.slice (some ⟨W.heap.size, 0, none⟩) cs.length cs.length) := ⟨_, rfl, Blk.new W _ _⟩
theorem txt_one (W : World) (x : Int × UInt8) : gTxt [x] (W.alloc (.cells #[.int .i64 x.1, .int .u8 (x.2.toNat : Int)] 83)) (.slice (some ⟨W.heap.size, 0, none⟩) 1 1) := by
 refine ⟨some ⟨W.heap.size, 0, none⟩, 1, rfl, Nat.le_refl _, ⟨rfl, fun _ => ⟨_, rfl, (Blk.new W _ _).lt, fun j u hu => ?_⟩⟩, by simp⟩
 have h2 := Blk.cell (Blk.new W 83 #[.int .i64 x.1, .int .u8 (x.2.toNat : Int)]) j
 rw [show ((⟨W.heap.size, 0, none⟩ : Addr).add j) = ⟨W.heap.size, j, none⟩ by unfold Addr.add; split <;> simp_all, h2, ← hu]
 show _ = (syC x ++ [])[j]?
 rw [List.append_nil]
 unfold syC
 rw [← List.getElem?_toArray]
theorem are_last (v : Value) (W : World) (h : gStp [(0, [63])] W v) :
  Calls Tryd.prog 47 #[v, .slice (some ⟨W.heap.size, 0, none⟩) 1 1, .slice (some ⟨W.heap.size + 1 + 1, 0, none⟩) 1 1] (((W.alloc (.cells #[.int .i64 0] 3)).alloc (.cells #[.int .u8 63] 5)).alloc (.cells #[.slice (some ⟨W.heap.size + 1, 0, none⟩) 1 1] 23)) fun e w' => e = .returned (.bool true) ∧ Below W.heap.size W w' := by
 have g1 := row_new W 3 [.int .i64 0]
 have b1 := below_alloc W (.cells #[.int .i64 0] 3)
 have s1 : (W.alloc (.cells #[.int .i64 0] 3)).heap.size = W.heap.size + 1 := by simp
 have h1 := stab_stp _ _ _ _ b1 h
 revert g1 b1 s1 h1
 generalize hW1 : W.alloc (.cells #[.int .i64 0] 3) = W1
 intro g1 b1 s1 h1
 change gRow _ _ W1 _ at g1
 have g2 := Blk.new W1 5 #[.int .u8 63]
 have b2 := below_alloc W1 (.cells #[.int .u8 63] 5)
 have s2 : (W1.alloc (.cells #[.int .u8 63] 5)).heap.size = W1.heap.size + 1 := by simp
 have h2 := stab_stp _ _ _ _ b2 h1
 have g12 := stab_row _ _ _ _ _ b2 g1
 revert g2 b2 s2 h2 g12
 generalize hW2 : W1.alloc (.cells #[.int .u8 63] 5) = W2
 intro g2 b2 s2 h2 g12
 have b3 := below_alloc W2 (.cells #[.slice (some ⟨W.heap.size + 1, 0, none⟩) 1 1] 23)
 have h3 := stab_stp _ _ _ _ b3 h2
 have g13 := stab_row _ _ _ _ _ b3 g12
 have c3 := cls_new W2 [⟨[63], some ⟨W1.heap.size, 0, none⟩, 1⟩] (by
  intro b hb
  rw [List.mem_singleton] at hb
  subst hb
  exact bs_row W2 W1.heap.size [63] g2 (by decide))
 have e3 : W2.heap.size = W.heap.size + 1 + 1 := by omega
 rw [e3] at c3
 rw [s1] at c3
 have hB : Below W.heap.size W (W2.alloc (.cells #[.slice (some ⟨W.heap.size + 1, 0, none⟩) 1 1] 23)) := (b1.trans (b2.mono (by omega))).trans (b3.mono (by omega))
 refine (are_ok [(0, [63])] _ _ _ _ h3 g13 ⟨_, _, rfl, c3, rfl⟩).mono ?_
 rintro e w' ⟨rfl, hb⟩
 exact ⟨rfl, hB.trans (hb.mono hB.size)⟩
end Go.Proofs.YtjnnohghgkjhcaaDoor
