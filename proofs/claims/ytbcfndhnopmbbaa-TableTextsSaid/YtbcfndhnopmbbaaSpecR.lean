/-
  A region that draws its order, by what each operation's value is good for: whatever the order, each operation finds the values that it waits for, and leaves all others good for what they were.
-/
import Derived.Test.YtbcfndhnopmbbaaHeldT
namespace Go.Proofs.Ytbcfndhnopmbbaa
open Go.RowKit
set_option linter.unusedVariables false
set_option linter.unusedSimpArgs false
/-- the values of a region's operations, one of them set -/
def upd (x : Nat → Value) (i : Nat) (v : Value) : Nat → Value := fun j => if j = i then v else x j
theorem upd_same (x : Nat → Value) (i : Nat) (v : Value) : upd x i v i = v := if_pos rfl
theorem upd_ne (x : Nat → Value) {i j : Nat} (v : Value) (h : j ≠ i) : upd x i v j = x j := if_neg h
/-- the operations that one waits for -/
def depsOf (ops : Array Oper) (i : Nat) : List Nat := ((ops[i]?).map fun o => (o.after.toList.filter (Region.binds .any)).map (·.on)).getD []
def backward_ (ops : Array Oper) : Bool := (List.range ops.size).all fun i => (depsOf ops i).all fun j => decide (j < i)
section
variable {P : Program} {ops : Array Oper} {Q : Exit → Act → World → Prop}
theorem deps_ready {ls : Array Bool} {i : Nat} (h : i ∈ Region.ready .any ops ls) : ∀ j ∈ depsOf ops i, ls.getD j false = true := by
  obtain ⟨_, o, ho, hall⟩ := mem_ready.1 h
  intro j hj
  unfold depsOf at hj
  rw [ho] at hj
  simp only [Option.map_some, Option.getD_some, List.mem_map, List.mem_filter] at hj
  obtain ⟨e, ⟨he, hb⟩, rfl⟩ := hj
  exact hall e (by simpa using he) hb
theorem all_listed {ls : Array Bool} (hs : ls.size = ops.size) (hb : backward_ ops = true) (h : Region.ready .any ops ls = []) : ∀ i, i < ops.size → ls.getD i true = true := by
  have hB : ∀ i, i < ops.size → ∀ j ∈ depsOf ops i, j < i := by
    unfold backward_ at hb
    simp only [List.all_eq_true, List.mem_range, decide_eq_true_eq] at hb
    exact hb
  intro i
  induction i using Nat.strongRecOn with
  | ind i ih =>
    intro hi
    cases hl : ls.getD i true with
    | true => rfl
    | false =>
      exfalso
      have hr : i ∈ Region.ready .any ops ls := by
        refine mem_ready.2 ⟨hl, ops[i], Array.getElem?_eq_getElem hi, fun e he hbd => ?_⟩
        have hd : e.on ∈ depsOf ops i := by
          unfold depsOf
          rw [Array.getElem?_eq_getElem hi]
          simp only [Option.map_some, Option.getD_some, List.mem_map, List.mem_filter]
          exact ⟨e, ⟨by simpa using he, hbd⟩, rfl⟩
        have hlt := hB i hi _ hd
        have h1 := ih _ hlt (by omega)
        have h2 : e.on < ls.size := by omega
        simp only [Array.getD_eq_getD_getElem?, Array.getElem?_eq_getElem h2, Option.getD_some] at h1 ⊢
        exact h1
      rw [h] at hr
      cases hr
theorem count_set (ls : Array Bool) (i : Nat) (h : ls.getD i true = false) : (ls.setIfInBounds i true).toList.count false + 1 = ls.toList.count false := by
  have hi : i < ls.size := by
    rcases Nat.lt_or_ge i ls.size with h1 | h1
    · exact h1
    · simp [Array.getD_eq_getD_getElem?, Array.getElem?_eq_none h1] at h
  have hv : ls.toList[i]'(by simpa using hi) = false := by
    simp only [Array.getD_eq_getD_getElem?, Array.getElem?_eq_getElem hi, Option.getD_some] at h
    simpa using h
  rw [Array.toList_setIfInBounds, List.count_set (by simpa using hi), hv]
  have hpos : 0 < ls.toList.count false := List.count_pos_iff.2 (hv ▸ List.getElem_mem _)
  rw [if_pos (by decide), if_neg (by decide)]
  omega
theorem wpAny_spec (mk : (Nat → Value) → Act) (R : Nat → Value → World → Prop) (C : World → Prop) (hb : backward_ ops = true)
    (hstep : ∀ i, i < ops.size → ∀ x W, C W → (∀ j ∈ depsOf ops i, R j (x j) W) → wpOp P ops Q i (fun b W' => ∃ v, b = mk (upd x i v) ∧ R i v W' ∧ (∀ j, j ≠ i → ∀ u, R j u W → R j u W') ∧ C W') (mk x) W)
    (hfin : ∀ x W, C W → (∀ i, i < ops.size → R i (x i) W) → Q .normal (mk x) W) :
    ∀ (f : Nat) (ls : Array Bool) (x : Nat → Value) (W : World), ls.size = ops.size → ls.toList.count false = f → C W → (∀ j, j < ops.size → ls.getD j true = true → R j (x j) W) → wpAny P .any ops Q f ls (mk x) W
  | 0, ls, x, W, hs, hc, hC, hR => by
    have hall : ∀ j, j < ops.size → ls.getD j true = true := fun j hj => by
      cases h : ls.getD j true with
      | true => rfl
      | false => have := count_set ls j h; omega
    refine ⟨?_, hfin x W hC fun i hi => hR i hi (hall i hi)⟩
    rw [List.eq_nil_iff_forall_not_mem]
    intro i hi
    obtain ⟨h0, o, ho, _⟩ := mem_ready.1 hi
    have h1 := hall i (Array.getElem?_eq_some_iff.1 ho).1
    rw [h1] at h0
    cases h0
  | f + 1, ls, x, W, hs, hc, hC, hR => by
    refine ⟨fun h => hfin x W hC fun i hi => hR i hi (all_listed hs hb h i hi), fun i hi => ?_⟩
    obtain ⟨h0, o, ho, _⟩ := mem_ready.1 hi
    have hin := (Array.getElem?_eq_some_iff.1 ho).1
    refine wpOp_mono ?_ (hstep i hin x W hC fun j hj => ?_)
    · rintro b W' ⟨v, rfl, hv, hk, hC'⟩
      refine wpAny_spec mk R C hb hstep hfin f _ (upd x i v) W' (by simpa using hs) (by have := count_set ls i h0; omega) hC' fun j hj hl => ?_
      by_cases he : j = i
      · subst he
        rw [upd_same]
        exact hv
      · rw [upd_ne x v he]
        rw [getD_set_ne true (Ne.symm he)] at hl
        exact hk j he _ (hR j hj hl)
    · have h1 := deps_ready hi j hj
      have hjs : j < ls.size := by
        rcases Nat.lt_or_ge j ls.size with h2 | h2
        · exact h2
        · simp [Array.getD_eq_getD_getElem?, Array.getElem?_eq_none h2] at h1
      refine hR j (by omega) ?_
      simp only [Array.getD_eq_getD_getElem?, Array.getElem?_eq_getElem hjs, Option.getD_some] at h1 ⊢
      exact h1
theorem wp_region_spec {id : Nat} {w : World} (mk : (Nat → Value) → Act) (x0 : Nat → Value) (R : Nat → Value → World → Prop) (C : World → Prop) (hm : P.follows .mixedOrders = true) (hb : backward_ ops = true) (hC : C w.drew)
    (hstep : ∀ i, i < ops.size → ∀ x W, C W → (∀ j ∈ depsOf ops i, R j (x j) W) → wpOp P ops Q i (fun b W' => ∃ v, b = mk (upd x i v) ∧ R i v W' ∧ (∀ j, j ≠ i → ∀ u, R j u W → R j u W') ∧ C W') (mk x) W)
    (hfin : ∀ x W, C W → (∀ i, i < ops.size → R i (x i) W) → Q .normal (mk x) W) : (Code.region id ops true).wp P Q (mk x0) w := by
  refine wp_region_any hm (wpAny_spec mk R C hb hstep hfin _ _ x0 _ (by simp) ?_ hC fun j hj hl => ?_)
  · rw [Array.toList_replicate, List.count_replicate]
    simp
  · simp [hj] at hl
end
/-- the values of operations put into their slots -/
def putL : List (Option Tmp) → Nat → (Nat → Value) → Act → Act
  | [], _, _, a => a
  | d :: r, k, x, a => putL r (k + 1) x (a.put d (x k))
theorem putL_congr {x y : Nat → Value} : ∀ (ds : List (Option Tmp)) (k : Nat) (a : Act), (∀ j, k ≤ j → x j = y j) → putL ds k x a = putL ds k y a
  | [], _, _, _ => rfl
  | d :: r, k, a, h => by
    show putL r (k + 1) x (a.put d (x k)) = putL r (k + 1) y (a.put d (y k))
    rw [h k (Nat.le_refl _), putL_congr r (k + 1) _ fun j hj => h j (by omega)]
theorem put_none (a : Act) (v : Value) : a.put none v = a := rfl
theorem put_put (a : Act) (d : Option Tmp) (u v : Value) : (a.put d u).put d v = a.put d v := by
  cases d with
  | none => rfl
  | some t =>
    unfold Act.put
    simp
theorem put_comm (a : Act) (d e : Option Tmp) (u v : Value) (h : d ≠ e ∨ d = none) : (a.put d u).put e v = (a.put e v).put d u := by
  cases d with
  | none => rfl
  | some t =>
    cases e with
    | none => rfl
    | some t' =>
      have hne : t ≠ t' := by
        rcases h with h | h
        · exact fun e => h (by rw [e])
        · cases h
      unfold Act.put
      simp only [Act.mk.injEq, and_true]
      exact Array.setIfInBounds_comm _ _ hne
/-- no slot twice -/
def slotsApart : List (Option Tmp) → Bool
  | [] => true
  | none :: r => slotsApart r
  | some t :: r => (r.all fun e => !(e == some t)) && slotsApart r
theorem putL_put : ∀ (ds : List (Option Tmp)) (k : Nat) (x : Nat → Value) (a : Act) (d : Option Tmp) (v : Value), (d = none ∨ ∀ e ∈ ds, e ≠ d) → (putL ds k x a).put d v = putL ds k x (a.put d v)
  | [], _, _, _, _, _, _ => rfl
  | e :: r, k, x, a, d, v, h => by
    show (putL r (k + 1) x (a.put e (x k))).put d v = putL r (k + 1) x ((a.put d v).put e (x k))
    rw [putL_put r (k + 1) x _ d v (h.imp id fun h f hf => h f (by simp [hf]))]
    congr 1
    rcases h with h | h
    · subst h; rfl
    · exact put_comm a e d (x k) v (.inl (h e (by simp)))
theorem putL_set : ∀ (ds : List (Option Tmp)) (k : Nat) (x : Nat → Value) (a : Act) (i : Nat) (v : Value) (d : Option Tmp), slotsApart ds = true → ds[i]? = some d → (putL ds k x a).put d v = putL ds k (upd x (k + i) v) a
  | [], _, _, _, _, _, _, _, h => by cases h
  | e :: r, k, x, a, 0, v, d, hs, h => by
    have hd : e = d := by simpa using h
    subst hd
    show (putL r (k + 1) x (a.put e (x k))).put e v = putL r (k + 1) (upd x k v) (a.put e (upd x k v k))
    rw [upd_same, putL_put r (k + 1) x _ e v ?_, put_put]
    · exact putL_congr r (k + 1) _ fun j hj => (upd_ne x v (by omega)).symm
    · cases e with
      | none => exact .inl rfl
      | some t =>
        right
        unfold slotsApart at hs
        simp only [Bool.and_eq_true, List.all_eq_true] at hs
        intro f hf he
        have := hs.1 f hf
        rw [he] at this
        simp at this
  | e :: r, k, x, a, i + 1, v, d, hs, h => by
    show (putL r (k + 1) x (a.put e (x k))).put d v = putL r (k + 1) (upd x (k + (i + 1)) v) (a.put e (upd x (k + (i + 1)) v k))
    have hs' : slotsApart r = true := by
      cases e with
      | none => exact hs
      | some t =>
        unfold slotsApart at hs
        rw [Bool.and_eq_true] at hs
        exact hs.2
    rw [putL_set r (k + 1) x _ i v d hs' (by simpa using h), upd_ne x v (by omega : k ≠ k + (i + 1)), show k + 1 + i = k + (i + 1) by omega]
theorem putL_self : ∀ (ds : List (Option Tmp)) (k : Nat) (a : Act), ∃ x, putL ds k x a = a
  | [], _, a => ⟨fun _ => undef, rfl⟩
  | d :: r, k, a => by
    have h1 : ∃ v, a.put d v = a := by
      cases d with
      | none => exact ⟨undef, rfl⟩
      | some t =>
        refine ⟨a.tmps.getD t undef, ?_⟩
        have e : a.tmps.setIfInBounds t (a.tmps.getD t undef) = a.tmps := ?_
        · show ({ a with tmps := a.tmps.setIfInBounds t (a.tmps.getD t undef) } : Act) = a
          rw [e]
        apply Array.ext_getElem?
        intro i
        rw [Array.getElem?_setIfInBounds]
        split
        · rename_i hi
          subst hi
          split
          · rename_i hlt
            simp [Array.getElem?_eq_getElem hlt]
          · rename_i hlt
            rw [Array.getElem?_eq_none (by omega)]
        · rfl
    obtain ⟨v, hv⟩ := h1
    obtain ⟨x, hx⟩ := putL_self r (k + 1) a
    refine ⟨upd x k v, ?_⟩
    show putL r (k + 1) (upd x k v) (a.put d (upd x k v k)) = a
    rw [upd_same, hv, putL_congr (y := x) r (k + 1) a fun j hj => upd_ne x v (by omega), hx]
/-- a region that draws its order: R says what each operation's value is good for, C what stays of the world -/
theorem wp_region_good {P : Program} {ops : Array Oper} {Q : Exit → Act → World → Prop} {id : Nat} {a : Act} {w : World} (ds : List (Option Tmp)) (R : Nat → Value → World → Prop) (C : World → Prop) (hm : P.follows .mixedOrders = true) (hb : backward_ ops = true)
    (hds : ops.toList.map (·.dst) = ds) (hsa : slotsApart ds = true) (hC : C w.drew)
    (hstep : ∀ i, i < ops.size → ∀ x W, C W → (∀ j ∈ depsOf ops i, R j (x j) W) → wpOp P ops Q i (fun b W' => ∃ v, b = (putL ds 0 x a).put (ds.getD i none) v ∧ R i v W' ∧ (∀ j, j ≠ i → ∀ u, R j u W → R j u W') ∧ C W') (putL ds 0 x a) W)
    (hfin : ∀ x W, C W → (∀ i, i < ops.size → R i (x i) W) → Q .normal (putL ds 0 x a) W) : (Code.region id ops true).wp P Q a w := by
  obtain ⟨x0, hx0⟩ := putL_self ds 0 a
  have h := wp_region_spec (P := P) (ops := ops) (Q := Q) (id := id) (w := w) (fun x => putL ds 0 x a) x0 R C hm hb hC (fun i hi x W hC hd => ?_) hfin
  · simp only [hx0] at h
    exact h
  · refine wpOp_mono ?_ (hstep i hi x W hC hd)
    rintro b W' ⟨v, rfl, h1, h2, h3⟩
    refine ⟨v, ?_, h1, h2, h3⟩
    have hl : i < ds.length := by rw [← hds]; simpa using hi
    have e := putL_set ds 0 x a i v (ds[i]'hl) hsa (List.getElem?_eq_getElem hl)
    rw [Nat.zero_add] at e
    rw [← e]
    simp [List.getD, hl]
/-- .. whose last operation waits for all others -/
def lastWaits (ops : Array Oper) (n : Nat) : Bool := decide (ops.size = n + 1) && (List.range n).all fun i => (depsOf ops n).contains i
theorem wpAny_last {P : Program} {ops : Array Oper} {Q : Exit → Act → World → Prop} (n : Nat) (mk : (Nat → Value) → Act) (R : Nat → Value → World → Prop) (C : World → Prop) (hb : backward_ ops = true) (hl : lastWaits ops n = true)
    (hstep : ∀ i, i < n → ∀ x W, C W → (∀ j ∈ depsOf ops i, R j (x j) W) → wpOp P ops Q i (fun b W' => ∃ v, b = mk (upd x i v) ∧ R i v W' ∧ (∀ j, j ≠ i → ∀ u, R j u W → R j u W') ∧ C W') (mk x) W)
    (hlast : ∀ x W, C W → (∀ i, i < n → R i (x i) W) → wpOp P ops Q n (fun b W' => Q .normal b W') (mk x) W) :
    ∀ (f : Nat) (ls : Array Bool) (x : Nat → Value) (W : World), ls.size = ops.size → ls.toList.count false = f → ls.getD n true = false → C W → (∀ j, j < n → ls.getD j true = true → R j (x j) W) → wpAny P .any ops Q f ls (mk x) W
  | 0, ls, x, W, hs, hc, hn, hC, hR => by
    have := count_set ls n hn
    omega
  | f + 1, ls, x, W, hs, hc, hn, hC, hR => by
    have hsz : ops.size = n + 1 := by
      unfold lastWaits at hl
      rw [Bool.and_eq_true] at hl
      exact of_decide_eq_true hl.1
    have hdn : ∀ i, i < n → i ∈ depsOf ops n := fun i hi => by
      unfold lastWaits at hl
      rw [Bool.and_eq_true, List.all_eq_true] at hl
      simpa using hl.2 i (List.mem_range.2 hi)
    refine ⟨fun h => ?_, fun i hi => ?_⟩
    · have := all_listed hs hb h n (by omega)
      rw [this] at hn
      cases hn
    · obtain ⟨h0, o, ho, _⟩ := mem_ready.1 hi
      have hin := (Array.getElem?_eq_some_iff.1 ho).1
      have both : ∀ j, ls.getD j false = true → ls.getD j true = true := fun j h1 => by
        rcases Nat.lt_or_ge j ls.size with h2 | h2
        · simp only [Array.getD_eq_getD_getElem?, Array.getElem?_eq_getElem h2, Option.getD_some] at h1 ⊢
          exact h1
        · simp [Array.getD_eq_getD_getElem?, Array.getElem?_eq_none h2]
      have hd : ∀ j ∈ depsOf ops i, ls.getD j true = true := fun j hj => both j (deps_ready hi j hj)
      by_cases hin2 : i = n
      · subst hin2
        have hall : ∀ j, j < i → ls.getD j true = true := fun j hj => hd j (hdn j hj)
        refine wpOp_mono (fun b W' hq => ?_) (hlast x W hC fun j hj => hR j hj (hall j hj))
        have hz : (ls.setIfInBounds i true).toList.count false = 0 := by
          rw [List.count_eq_zero]
          intro hm
          obtain ⟨k, hk, he⟩ := List.getElem_of_mem hm
          have hk2 : k < ls.size := by simpa using hk
          by_cases hki : k = i
          · subst hki
            simp at he
          · have h1 := hall k (by omega)
            simp only [Array.getD_eq_getD_getElem?, Array.getElem?_eq_getElem hk2, Option.getD_some] at h1
            have h2 : (ls.setIfInBounds i true).toList[k] = ls[k] := by
              simp [Array.getElem_setIfInBounds, Ne.symm hki]
            rw [h2, h1] at he
            cases he
        have hf : f = 0 := by have := count_set ls i h0; omega
        subst hf
        refine ⟨?_, hq⟩
        rw [List.eq_nil_iff_forall_not_mem]
        intro j hj
        obtain ⟨hj0, p, hp, _⟩ := mem_ready.1 hj
        have := count_set _ j hj0
        omega
      · refine wpOp_mono ?_ (hstep i (by omega) x W hC fun j hj => hR j ?_ (hd j hj))
        · rintro b W' ⟨v, rfl, hv, hk, hC'⟩
          refine wpAny_last n mk R C hb hl hstep hlast f _ (upd x i v) W' (by simpa using hs) (by have := count_set ls i h0; omega) ?_ hC' fun j hj hlj => ?_
          · rw [getD_set_ne true (by exact hin2)]
            exact hn
          · by_cases he : j = i
            · subst he
              rw [upd_same]
              exact hv
            · rw [upd_ne x v he]
              rw [getD_set_ne true (Ne.symm he)] at hlj
              exact hk j he _ (hR j hj hlj)
        · unfold backward_ at hb
          simp only [List.all_eq_true, List.mem_range, decide_eq_true_eq] at hb
          have := hb i hin j hj
          omega
theorem wp_region_last {P : Program} {ops : Array Oper} {Q : Exit → Act → World → Prop} {id : Nat} {a : Act} {w : World} (n : Nat) (ds : List (Option Tmp)) (R : Nat → Value → World → Prop) (C : World → Prop) (hm : P.follows .mixedOrders = true) (hb : backward_ ops = true) (hl : lastWaits ops n = true)
    (hds : ops.toList.map (·.dst) = ds) (hsa : slotsApart ds = true) (hC : C w.drew)
    (hstep : ∀ i, i < n → ∀ x W, C W → (∀ j ∈ depsOf ops i, R j (x j) W) → wpOp P ops Q i (fun b W' => ∃ v, b = (putL ds 0 x a).put (ds.getD i none) v ∧ R i v W' ∧ (∀ j, j ≠ i → ∀ u, R j u W → R j u W') ∧ C W') (putL ds 0 x a) W)
    (hlast : ∀ x W, C W → (∀ i, i < n → R i (x i) W) → wpOp P ops Q n (fun b W' => Q .normal b W') (putL ds 0 x a) W) : (Code.region id ops true).wp P Q a w := by
  obtain ⟨x0, hx0⟩ := putL_self ds 0 a
  have hsz : ops.size = n + 1 := by
    unfold lastWaits at hl
    rw [Bool.and_eq_true] at hl
    exact of_decide_eq_true hl.1
  refine wp_region_any hm ?_
  have h := wpAny_last (P := P) (ops := ops) (Q := Q) n (fun x => putL ds 0 x a) R C hb hl (fun i hi x W hC hd => ?_) hlast ops.size (Array.replicate ops.size false) x0 w.drew (by simp) (by rw [Array.toList_replicate, List.count_replicate]; simp) (by simp [hsz]) hC (fun j hj hlj => by simp [show j < ops.size by omega] at hlj)
  · rw [hx0] at h
    exact h
  · refine wpOp_mono ?_ (hstep i hi x W hC hd)
    rintro b W' ⟨v, rfl, h1, h2, h3⟩
    refine ⟨v, ?_, h1, h2, h3⟩
    have hl2 : i < ds.length := by rw [← hds]; simp; omega
    have e := putL_set ds 0 x a i v (ds[i]'hl2) hsa (List.getElem?_eq_getElem hl2)
    rw [Nat.zero_add] at e
    rw [← e]
    simp [List.getD, hl2]
theorem wpAny_two {P : Program} {ops : Array Oper} {Q : Exit → Act → World → Prop} (m n : Nat) (hmn : m < n) (mk : (Nat → Value) → Act) (R : Nat → Value → World → Prop) (C : Bool → World → Prop) (hb : backward_ ops = true) (hl : lastWaits ops n = true)
    (hstep : ∀ i, i < n → i ≠ m → ∀ c x W, C c W → (∀ j ∈ depsOf ops i, R j (x j) W) → wpOp P ops Q i (fun b W' => ∃ v, b = mk (upd x i v) ∧ R i v W' ∧ (∀ j, j ≠ i → ∀ u, R j u W → R j u W') ∧ C c W') (mk x) W)
    (hmid : ∀ x W, C false W → (∀ j ∈ depsOf ops m, R j (x j) W) → wpOp P ops Q m (fun b W' => ∃ v, b = mk (upd x m v) ∧ R m v W' ∧ (∀ j, j ≠ m → ∀ u, R j u W → R j u W') ∧ C true W') (mk x) W)
    (hlast : ∀ x W, C true W → (∀ i, i < n → R i (x i) W) → wpOp P ops Q n (fun b W' => Q .normal b W') (mk x) W) :
    ∀ (f : Nat) (ls : Array Bool) (x : Nat → Value) (W : World), ls.size = ops.size → ls.toList.count false = f → ls.getD n true = false → C (ls.getD m false) W → (∀ j, j < n → ls.getD j true = true → R j (x j) W) → wpAny P .any ops Q f ls (mk x) W
  | 0, ls, x, W, hs, hc, hn, hC, hR => by
    have := count_set ls n hn
    omega
  | f + 1, ls, x, W, hs, hc, hn, hC, hR => by
    have hsz : ops.size = n + 1 := by
      unfold lastWaits at hl
      rw [Bool.and_eq_true] at hl
      exact of_decide_eq_true hl.1
    have hdn : ∀ i, i < n → i ∈ depsOf ops n := fun i hi => by
      unfold lastWaits at hl
      rw [Bool.and_eq_true, List.all_eq_true] at hl
      simpa using hl.2 i (List.mem_range.2 hi)
    refine ⟨fun h => ?_, fun i hi => ?_⟩
    · have := all_listed hs hb h n (by omega)
      rw [this] at hn
      cases hn
    · obtain ⟨h0, o, ho, _⟩ := mem_ready.1 hi
      have hin := (Array.getElem?_eq_some_iff.1 ho).1
      have both : ∀ j, ls.getD j false = true → ls.getD j true = true := fun j h1 => by
        rcases Nat.lt_or_ge j ls.size with h2 | h2
        · simp only [Array.getD_eq_getD_getElem?, Array.getElem?_eq_getElem h2, Option.getD_some] at h1 ⊢
          exact h1
        · simp [Array.getD_eq_getD_getElem?, Array.getElem?_eq_none h2]
      have hd : ∀ j ∈ depsOf ops i, ls.getD j true = true := fun j hj => both j (deps_ready hi j hj)
      by_cases hin2 : i = n
      · subst hin2
        have hall : ∀ j, j < i → ls.getD j true = true := fun j hj => hd j (hdn j hj)
        have hmt : ls.getD m false = true := deps_ready hi m (hdn m hmn)
        rw [hmt] at hC
        refine wpOp_mono (fun b W' hq => ?_) (hlast x W hC fun j hj => hR j hj (hall j hj))
        have hz : (ls.setIfInBounds i true).toList.count false = 0 := by
          rw [List.count_eq_zero]
          intro hm
          obtain ⟨k, hk, he⟩ := List.getElem_of_mem hm
          have hk2 : k < ls.size := by simpa using hk
          by_cases hki : k = i
          · subst hki
            simp at he
          · have h1 := hall k (by omega)
            simp only [Array.getD_eq_getD_getElem?, Array.getElem?_eq_getElem hk2, Option.getD_some] at h1
            have h2 : (ls.setIfInBounds i true).toList[k] = ls[k] := by
              simp [Array.getElem_setIfInBounds, Ne.symm hki]
            rw [h2, h1] at he
            cases he
        have hf : f = 0 := by have := count_set ls i h0; omega
        subst hf
        refine ⟨?_, hq⟩
        rw [List.eq_nil_iff_forall_not_mem]
        intro j hj
        obtain ⟨hj0, p, hp, _⟩ := mem_ready.1 hj
        have := count_set _ j hj0
        omega
      · have hR' : ∀ j ∈ depsOf ops i, R j (x j) W := fun j hj => hR j (by
          unfold backward_ at hb
          simp only [List.all_eq_true, List.mem_range, decide_eq_true_eq] at hb
          have := hb i hin j hj
          omega) (hd j hj)
        have next : ∀ (c' : Bool), (ls.setIfInBounds i true).getD m false = c' → ∀ b W', (∃ v, b = mk (upd x i v) ∧ R i v W' ∧ (∀ j, j ≠ i → ∀ u, R j u W → R j u W') ∧ C c' W') → wpAny P .any ops Q f (ls.setIfInBounds i true) b W' := by
          rintro c' hc' b W' ⟨v, rfl, hv, hk, hC'⟩
          refine wpAny_two m n hmn mk R C hb hl hstep hmid hlast f _ (upd x i v) W' (by simpa using hs) (by have := count_set ls i h0; omega) ?_ (by rw [hc']; exact hC') fun j hj hlj => ?_
          · rw [getD_set_ne true (by exact hin2)]
            exact hn
          · by_cases he : j = i
            · subst he
              rw [upd_same]
              exact hv
            · rw [upd_ne x v he]
              rw [getD_set_ne true (Ne.symm he)] at hlj
              exact hk j he _ (hR j hj hlj)
        by_cases him : i = m
        · subst him
          have hf0 : ls.getD i false = false := by
            rcases Nat.lt_or_ge i ls.size with h2 | h2
            · simp only [Array.getD_eq_getD_getElem?, Array.getElem?_eq_getElem h2, Option.getD_some] at h0 ⊢
              exact h0
            · simp [Array.getD_eq_getD_getElem?, Array.getElem?_eq_none h2]
          rw [hf0] at hC
          refine wpOp_mono (next true ?_) (hmid x W hC hR')
          have h2 : i < ls.size := by omega
          simp [h2]
        · refine wpOp_mono (next _ (getD_set_ne false him)) (hstep i (by omega) him _ x W hC hR')
theorem wp_region_two {P : Program} {ops : Array Oper} {Q : Exit → Act → World → Prop} {id : Nat} {a : Act} {w : World} (m n : Nat) (ds : List (Option Tmp)) (R : Nat → Value → World → Prop) (C : Bool → World → Prop) (hmn : m < n) (hm : P.follows .mixedOrders = true) (hb : backward_ ops = true) (hl : lastWaits ops n = true)
    (hds : ops.toList.map (·.dst) = ds) (hsa : slotsApart ds = true) (hC : C false w.drew)
    (hstep : ∀ i, i < n → i ≠ m → ∀ c x W, C c W → (∀ j ∈ depsOf ops i, R j (x j) W) → wpOp P ops Q i (fun b W' => ∃ v, b = (putL ds 0 x a).put (ds.getD i none) v ∧ R i v W' ∧ (∀ j, j ≠ i → ∀ u, R j u W → R j u W') ∧ C c W') (putL ds 0 x a) W)
    (hmid : ∀ x W, C false W → (∀ j ∈ depsOf ops m, R j (x j) W) → wpOp P ops Q m (fun b W' => ∃ v, b = (putL ds 0 x a).put (ds.getD m none) v ∧ R m v W' ∧ (∀ j, j ≠ m → ∀ u, R j u W → R j u W') ∧ C true W') (putL ds 0 x a) W)
    (hlast : ∀ x W, C true W → (∀ i, i < n → R i (x i) W) → wpOp P ops Q n (fun b W' => Q .normal b W') (putL ds 0 x a) W) : (Code.region id ops true).wp P Q a w := by
  obtain ⟨x0, hx0⟩ := putL_self ds 0 a
  have hsz : ops.size = n + 1 := by
    unfold lastWaits at hl
    rw [Bool.and_eq_true] at hl
    exact of_decide_eq_true hl.1
  refine wp_region_any hm ?_
  have conv : ∀ (i : Nat) (c : Bool) (x : Nat → Value) (W : World), i < n → wpOp P ops Q i (fun b W' => ∃ v, b = (putL ds 0 x a).put (ds.getD i none) v ∧ R i v W' ∧ (∀ j, j ≠ i → ∀ u, R j u W → R j u W') ∧ C c W') (putL ds 0 x a) W →
      wpOp P ops Q i (fun b W' => ∃ v, b = putL ds 0 (upd x i v) a ∧ R i v W' ∧ (∀ j, j ≠ i → ∀ u, R j u W → R j u W') ∧ C c W') (putL ds 0 x a) W := by
    intro i c x W hi h
    refine wpOp_mono ?_ h
    rintro b W' ⟨v, rfl, h1, h2, h3⟩
    refine ⟨v, ?_, h1, h2, h3⟩
    have hl2 : i < ds.length := by rw [← hds]; simp; omega
    have e := putL_set ds 0 x a i v (ds[i]'hl2) hsa (List.getElem?_eq_getElem hl2)
    rw [Nat.zero_add] at e
    rw [← e]
    simp [List.getD, hl2]
  have h := wpAny_two (P := P) (ops := ops) (Q := Q) m n hmn (fun x => putL ds 0 x a) R C hb hl (fun i hi him c x W hC hd => conv i c x W hi (hstep i hi him c x W hC hd)) (fun x W hC hd => conv m true x W hmn (hmid x W hC hd)) hlast ops.size (Array.replicate ops.size false) x0 w.drew (by simp) (by rw [Array.toList_replicate, List.count_replicate]; simp) (by simp [hsz]) (by simpa [show m < ops.size by omega] using hC) (fun j hj hlj => by simp [show j < ops.size by omega] at hlj)
  rw [hx0] at h
  exact h
theorem getD_put_same (a : Act) (t : Tmp) (v : Value) (h : t < a.tmps.size) : (a.put (some t) v).tmps[t]?.getD undef = v := by
  show (a.tmps.setIfInBounds t v)[t]?.getD undef = v
  rw [Array.getElem?_setIfInBounds_self_of_lt h]
  rfl
theorem getD_put_other (a : Act) (d : Option Tmp) (t : Tmp) (v : Value) (h : d ≠ some t) : (a.put d v).tmps[t]?.getD undef = a.tmps[t]?.getD undef := by
  cases d with
  | none => rfl
  | some u =>
    show (a.tmps.setIfInBounds u v)[t]?.getD undef = _
    rw [Array.getElem?_setIfInBounds_ne (fun e => h (by rw [e]))]
theorem size_put (a : Act) (d : Option Tmp) (v : Value) : (a.put d v).tmps.size = a.tmps.size := by
  cases d with
  | none => rfl
  | some u => show (a.tmps.setIfInBounds u v).size = _; simp
theorem getD_putL_other (t : Tmp) : ∀ (ds : List (Option Tmp)) (k : Nat) (x : Nat → Value) (a : Act), (∀ d ∈ ds, d ≠ some t) → (putL ds k x a).tmps[t]?.getD undef = a.tmps[t]?.getD undef
  | [], _, _, _, _ => rfl
  | d :: r, k, x, a, h => by
    show (putL r (k + 1) x (a.put d (x k))).tmps[t]?.getD undef = _
    rw [getD_putL_other t r (k + 1) x _ fun e he => h e (by simp [he]), getD_put_other a d t (x k) (h d (by simp))]
theorem getD_putL : ∀ (ds : List (Option Tmp)) (k : Nat) (x : Nat → Value) (a : Act) (i : Nat) (t : Tmp), slotsApart ds = true → ds[i]? = some (some t) → t < a.tmps.size → (putL ds k x a).tmps[t]?.getD undef = x (k + i)
  | [], _, _, _, _, _, _, h, _ => by cases h
  | d :: r, k, x, a, 0, t, hs, h, ht => by
    have hd : d = some t := by simpa using h
    subst hd
    show (putL r (k + 1) x (a.put (some t) (x k))).tmps[t]?.getD undef = x (k + 0)
    rw [getD_putL_other t r (k + 1) x _ ?_, getD_put_same a t (x k) ht, Nat.add_zero]
    intro e he h2
    unfold slotsApart at hs
    simp only [Bool.and_eq_true, List.all_eq_true] at hs
    have := hs.1 e he
    rw [h2] at this
    simp at this
  | d :: r, k, x, a, i + 1, t, hs, h, ht => by
    have hs' : slotsApart r = true := by
      cases d with
      | none => exact hs
      | some u =>
        unfold slotsApart at hs
        rw [Bool.and_eq_true] at hs
        exact hs.2
    show (putL r (k + 1) x (a.put d (x k))).tmps[t]?.getD undef = x (k + (i + 1))
    rw [getD_putL r (k + 1) x _ i t hs' (by simpa using h) (by rw [size_put]; exact ht), show k + 1 + i = k + (i + 1) by omega]
theorem defers_putL : ∀ (ds : List (Option Tmp)) (k : Nat) (x : Nat → Value) (a : Act), (putL ds k x a).defers = a.defers
  | [], _, _, _ => rfl
  | d :: r, k, x, a => by
    show (putL r (k + 1) x (a.put d (x k))).defers = _
    rw [defers_putL r (k + 1) x]
    cases d <;> rfl
/-- what an operation finds: the slot of an operation that it waits for -/
def found (ds : List (Option Tmp)) (A : Act) (j : Nat) (v : Value) : Prop := ∀ t, ds[j]? = some (some t) → A.tmps[t]?.getD undef = v
/-- a region that draws its order, whose last operation waits for all others; one of them (an append, say) writes -/
theorem wp_region_three {P : Program} {ops : Array Oper} {Q : Exit → Act → World → Prop} {id : Nat} {a : Act} {w : World} (m n : Nat) (ds : List (Option Tmp)) (R : Nat → Value → World → Prop) (C : Bool → World → Prop) (hmn : m < n) (hm : P.follows .mixedOrders = true) (hb : backward_ ops = true) (hl : lastWaits ops n = true)
    (hds : (ops.toList.take n).map (·.dst) = ds) (hsa : slotsApart ds = true) (hsz : (ds.all fun d => match d with | some t => decide (t < a.tmps.size) | none => true) = true) (hC : C false w.drew)
    (hstep : ∀ i, i < n → i ≠ m → ∀ c (A : Act) (x : Nat → Value) W, C c W → (∀ j ∈ depsOf ops i, found ds A j (x j) ∧ R j (x j) W) → (∀ t, (ds.all fun d => !(d == some t)) = true → A.tmps[t]?.getD undef = a.tmps[t]?.getD undef) →
      wpOp P ops Q i (fun b W' => ∃ v, b = A.put (ds.getD i none) v ∧ R i v W' ∧ (∀ j, j ≠ i → ∀ u, R j u W → R j u W') ∧ C c W') A W)
    (hmid : ∀ (A : Act) (x : Nat → Value) W, C false W → (∀ j ∈ depsOf ops m, found ds A j (x j) ∧ R j (x j) W) → (∀ t, (ds.all fun d => !(d == some t)) = true → A.tmps[t]?.getD undef = a.tmps[t]?.getD undef) →
      wpOp P ops Q m (fun b W' => ∃ v, b = A.put (ds.getD m none) v ∧ R m v W' ∧ (∀ j, j ≠ m → ∀ u, R j u W → R j u W') ∧ C true W') A W)
    (hlast : ∀ x W, C true W → (∀ i, i < n → R i (x i) W) → wpOp P ops Q n (fun b W' => Q .normal b W') (putL ds 0 x a) W) : (Code.region id ops true).wp P Q a w := by
  obtain ⟨x0, hx0⟩ := putL_self ds 0 a
  have hon : ops.size = n + 1 := by
    unfold lastWaits at hl
    rw [Bool.and_eq_true] at hl
    exact of_decide_eq_true hl.1
  refine wp_region_any hm ?_
  have hlen : ds.length = n := by rw [← hds]; simp; omega
  have hfound : ∀ x j, j < n → found ds (putL ds 0 x a) j (x j) := fun x j hj t ht => by
    have h1 := getD_putL ds 0 x a j t hsa ht (by
      rw [List.all_eq_true] at hsz
      have := hsz (some t) (List.mem_of_getElem? ht)
      simpa using this)
    rwa [Nat.zero_add] at h1
  have hrest : ∀ x t, (ds.all fun d => !(d == some t)) = true → (putL ds 0 x a).tmps[t]?.getD undef = a.tmps[t]?.getD undef := fun x t ht => by
    refine getD_putL_other t ds 0 x a fun d hd he => ?_
    rw [List.all_eq_true] at ht
    have := ht d hd
    rw [he] at this
    simp at this
  have hB : ∀ i, i < ops.size → ∀ j ∈ depsOf ops i, j < i := by
    unfold backward_ at hb
    simp only [List.all_eq_true, List.mem_range, decide_eq_true_eq] at hb
    exact hb
  have conv : ∀ (i : Nat) (c : Bool) (x : Nat → Value) (W : World), i < n → wpOp P ops Q i (fun b W' => ∃ v, b = (putL ds 0 x a).put (ds.getD i none) v ∧ R i v W' ∧ (∀ j, j ≠ i → ∀ u, R j u W → R j u W') ∧ C c W') (putL ds 0 x a) W →
      wpOp P ops Q i (fun b W' => ∃ v, b = putL ds 0 (upd x i v) a ∧ R i v W' ∧ (∀ j, j ≠ i → ∀ u, R j u W → R j u W') ∧ C c W') (putL ds 0 x a) W := by
    intro i c x W hi h
    refine wpOp_mono ?_ h
    rintro b W' ⟨v, rfl, h1, h2, h3⟩
    refine ⟨v, ?_, h1, h2, h3⟩
    have hl2 : i < ds.length := by omega
    have e := putL_set ds 0 x a i v (ds[i]'hl2) hsa (List.getElem?_eq_getElem hl2)
    rw [Nat.zero_add] at e
    rw [← e]
    simp [List.getD, hl2]
  have h := wpAny_two (P := P) (ops := ops) (Q := Q) m n hmn (fun x => putL ds 0 x a) R C hb hl
    (fun i hi him c x W hC hd => conv i c x W hi (hstep i hi him c _ x W hC (fun j hj => ⟨hfound x j (by have := hB i (by omega) j hj; omega), hd j hj⟩) (hrest x)))
    (fun x W hC hd => conv m true x W hmn (hmid _ x W hC (fun j hj => ⟨hfound x j (by have := hB m (by omega) j hj; omega), hd j hj⟩) (hrest x))) hlast ops.size (Array.replicate ops.size false) x0 w.drew (by simp) (by rw [Array.toList_replicate, List.count_replicate]; simp) (by simp [hon]) (by simpa [show m < ops.size by omega] using hC) (fun j hj hlj => by simp [show j < ops.size by omega] at hlj)
  rw [hx0] at h
  exact h
end Go.Proofs.Ytbcfndhnopmbbaa
