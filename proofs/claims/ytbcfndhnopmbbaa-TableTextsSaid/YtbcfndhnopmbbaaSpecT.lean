/-
  A region as in SpecR's wp_region_three, where what the last operation does not wait for itself is waited for by a later one.
-/
import Derived.Test.YtbcfndhnopmbbaaSpecR
namespace Go.Proofs.Ytbcfndhnopmbbaa
open Go.RowKit
set_option linter.unusedVariables false
set_option linter.unusedSimpArgs false
/-- whose last operation waits for all others, or for those that wait for them -/
def lastWaitsT (ops : Array Oper) (n : Nat) : Bool := decide (ops.size = n + 1) && (List.range n).all fun i => (depsOf ops n).contains i || (List.range n).any fun j => decide (i < j) && (depsOf ops j).contains i
theorem wpAny_twoT {P : Program} {ops : Array Oper} {Q : Exit → Act → World → Prop} (m n : Nat) (hmn : m < n) (mk : (Nat → Value) → Act) (R : Nat → Value → World → Prop) (C : Bool → World → Prop) (hb : backward_ ops = true) (hl : lastWaitsT ops n = true)
    (hstep : ∀ i, i < n → i ≠ m → ∀ c x W, C c W → (∀ j ∈ depsOf ops i, R j (x j) W) → wpOp P ops Q i (fun b W' => ∃ v, b = mk (upd x i v) ∧ R i v W' ∧ (∀ j, j ≠ i → ∀ u, R j u W → R j u W') ∧ C c W') (mk x) W)
    (hmid : ∀ x W, C false W → (∀ j ∈ depsOf ops m, R j (x j) W) → wpOp P ops Q m (fun b W' => ∃ v, b = mk (upd x m v) ∧ R m v W' ∧ (∀ j, j ≠ m → ∀ u, R j u W → R j u W') ∧ C true W') (mk x) W)
    (hlast : ∀ x W, C true W → (∀ i, i < n → R i (x i) W) → wpOp P ops Q n (fun b W' => Q .normal b W') (mk x) W) :
    ∀ (f : Nat) (ls : Array Bool) (x : Nat → Value) (W : World), ls.size = ops.size → ls.toList.count false = f → ls.getD n true = false → C (ls.getD m false) W → (∀ j, j < n → ls.getD j true = true → ∀ k ∈ depsOf ops j, ls.getD k true = true) → (∀ j, j < n → ls.getD j true = true → R j (x j) W) → wpAny P .any ops Q f ls (mk x) W
  | 0, ls, x, W, hs, hc, hn, hC, hcl, hR => by
    have := count_set ls n hn
    omega
  | f + 1, ls, x, W, hs, hc, hn, hC, hcl, hR => by
    have hsz : ops.size = n + 1 := by
      unfold lastWaitsT at hl
      rw [Bool.and_eq_true] at hl
      exact of_decide_eq_true hl.1
    have hdn : ∀ i, i < n → i ∈ depsOf ops n ∨ ∃ j, i < j ∧ j < n ∧ i ∈ depsOf ops j := fun i hi => by
      unfold lastWaitsT at hl
      rw [Bool.and_eq_true, List.all_eq_true] at hl
      have h := hl.2 i (List.mem_range.2 hi)
      rw [Bool.or_eq_true, List.any_eq_true] at h
      rcases h with h | ⟨j, hj, h⟩
      · exact .inl (by simpa using h)
      · rw [Bool.and_eq_true] at h
        exact .inr ⟨j, of_decide_eq_true h.1, List.mem_range.1 hj, by simpa using h.2⟩
    refine ⟨fun h => ?_, fun i hi => ?_⟩
    · have := all_listed hs hb h n (by omega)
      rw [this] at hn
      cases hn
    · obtain ⟨h0, o, ho, _⟩ := mem_ready.1 hi
      have hin := (Array.getElem?_eq_some_iff.1 ho).1
      have both : ∀ j, ls.getD j false = true → ls.getD j true = true := fun j h1 => by
        rcases Nat.lt_or_ge j ls.size with h2 | h2
        · simp only [Array.getD_eq_getD_getElem?, Array.getElem?_eq_getElem h2, Option.getD_some] at h1 ⊢
          exact h1
        · simp [Array.getD_eq_getD_getElem?, Array.getElem?_eq_none h2]
      have hd : ∀ j ∈ depsOf ops i, ls.getD j true = true := fun j hj => both j (deps_ready hi j hj)
      by_cases hin2 : i = n
      · subst hin2
        have hall : ∀ d j, j < i → i - j ≤ d → ls.getD j true = true := fun d => by
          induction d with
          | zero => intro j hj hd; omega
          | succ d ih =>
            intro j hj hjd
            rcases hdn j hj with h | ⟨k, h1, h2, h3⟩
            · exact hd j h
            · exact hcl k h2 (ih k h2 (by omega)) j h3
        have hall : ∀ j, j < i → ls.getD j true = true := fun j hj => hall i j hj (by omega)
        have hmt : ls.getD m false = true := by
          have h2 := hall m hmn
          have h1 : m < ls.size := by omega
          simp only [Array.getD_eq_getD_getElem?, Array.getElem?_eq_getElem h1, Option.getD_some] at h2 ⊢
          exact h2
        rw [hmt] at hC
        refine wpOp_mono (fun b W' hq => ?_) (hlast x W hC fun j hj => hR j hj (hall j hj))
        have hz : (ls.setIfInBounds i true).toList.count false = 0 := by
          rw [List.count_eq_zero]
          intro hm
          obtain ⟨k, hk, he⟩ := List.getElem_of_mem hm
          have hk2 : k < ls.size := by simpa using hk
          by_cases hki : k = i
          · subst hki
            simp at he
          · have h1 := hall k (by omega)
            simp only [Array.getD_eq_getD_getElem?, Array.getElem?_eq_getElem hk2, Option.getD_some] at h1
            have h2 : (ls.setIfInBounds i true).toList[k] = ls[k] := by
              simp [Array.getElem_setIfInBounds, Ne.symm hki]
            rw [h2, h1] at he
            cases he
        have hf : f = 0 := by have := count_set ls i h0; omega
        subst hf
        refine ⟨?_, hq⟩
        rw [List.eq_nil_iff_forall_not_mem]
        intro j hj
        obtain ⟨hj0, p, hp, _⟩ := mem_ready.1 hj
        have := count_set _ j hj0
        omega
      · have hR' : ∀ j ∈ depsOf ops i, R j (x j) W := fun j hj => hR j (by
          unfold backward_ at hb
          simp only [List.all_eq_true, List.mem_range, decide_eq_true_eq] at hb
          have := hb i hin j hj
          omega) (hd j hj)
        have next : ∀ (c' : Bool), (ls.setIfInBounds i true).getD m false = c' → ∀ b W', (∃ v, b = mk (upd x i v) ∧ R i v W' ∧ (∀ j, j ≠ i → ∀ u, R j u W → R j u W') ∧ C c' W') → wpAny P .any ops Q f (ls.setIfInBounds i true) b W' := by
          rintro c' hc' b W' ⟨v, rfl, hv, hk, hC'⟩
          refine wpAny_twoT m n hmn mk R C hb hl hstep hmid hlast f _ (upd x i v) W' (by simpa using hs) (by have := count_set ls i h0; omega) ?_ (by rw [hc']; exact hC') (fun j hj hlj k hkd => ?_) fun j hj hlj => ?_
          · rw [getD_set_ne true (by exact hin2)]
            exact hn
          · have hkl : ls.getD k true = true := by
              by_cases he : j = i
              · subst he
                exact hd k hkd
              · rw [getD_set_ne true (Ne.symm he)] at hlj
                exact hcl j hj hlj k hkd
            by_cases he : k = i
            · subst he
              have h2 : k < ls.size := by omega
              simp [h2]
            · rw [getD_set_ne true (Ne.symm he)]
              exact hkl
          · by_cases he : j = i
            · subst he
              rw [upd_same]
              exact hv
            · rw [upd_ne x v he]
              rw [getD_set_ne true (Ne.symm he)] at hlj
              exact hk j he _ (hR j hj hlj)
        by_cases him : i = m
        · subst him
          have hf0 : ls.getD i false = false := by
            rcases Nat.lt_or_ge i ls.size with h2 | h2
            · simp only [Array.getD_eq_getD_getElem?, Array.getElem?_eq_getElem h2, Option.getD_some] at h0 ⊢
              exact h0
            · simp [Array.getD_eq_getD_getElem?, Array.getElem?_eq_none h2]
          rw [hf0] at hC
          refine wpOp_mono (next true ?_) (hmid x W hC hR')
          have h2 : i < ls.size := by omega
          simp [h2]
        · refine wpOp_mono (next _ (getD_set_ne false him)) (hstep i (by omega) him _ x W hC hR')
/-- a region that draws its order, whose last operation waits for all others; one of them (an append, say) writes -/
theorem wp_region_threeT {P : Program} {ops : Array Oper} {Q : Exit → Act → World → Prop} {id : Nat} {a : Act} {w : World} (m n : Nat) (ds : List (Option Tmp)) (R : Nat → Value → World → Prop) (C : Bool → World → Prop) (hmn : m < n) (hm : P.follows .mixedOrders = true) (hb : backward_ ops = true) (hl : lastWaitsT ops n = true)
    (hds : (ops.toList.take n).map (·.dst) = ds) (hsa : slotsApart ds = true) (hsz : (ds.all fun d => match d with | some t => decide (t < a.tmps.size) | none => true) = true) (hC : C false w.drew)
    (hstep : ∀ i, i < n → i ≠ m → ∀ c (A : Act) (x : Nat → Value) W, C c W → (∀ j ∈ depsOf ops i, found ds A j (x j) ∧ R j (x j) W) → (∀ t, (ds.all fun d => !(d == some t)) = true → A.tmps[t]?.getD undef = a.tmps[t]?.getD undef) →
      wpOp P ops Q i (fun b W' => ∃ v, b = A.put (ds.getD i none) v ∧ R i v W' ∧ (∀ j, j ≠ i → ∀ u, R j u W → R j u W') ∧ C c W') A W)
    (hmid : ∀ (A : Act) (x : Nat → Value) W, C false W → (∀ j ∈ depsOf ops m, found ds A j (x j) ∧ R j (x j) W) → (∀ t, (ds.all fun d => !(d == some t)) = true → A.tmps[t]?.getD undef = a.tmps[t]?.getD undef) →
      wpOp P ops Q m (fun b W' => ∃ v, b = A.put (ds.getD m none) v ∧ R m v W' ∧ (∀ j, j ≠ m → ∀ u, R j u W → R j u W') ∧ C true W') A W)
    (hlast : ∀ x W, C true W → (∀ i, i < n → R i (x i) W) → wpOp P ops Q n (fun b W' => Q .normal b W') (putL ds 0 x a) W) : (Code.region id ops true).wp P Q a w := by
  obtain ⟨x0, hx0⟩ := putL_self ds 0 a
  have hon : ops.size = n + 1 := by
    unfold lastWaitsT at hl
    rw [Bool.and_eq_true] at hl
    exact of_decide_eq_true hl.1
  refine wp_region_any hm ?_
  have hlen : ds.length = n := by rw [← hds]; simp; omega
  have hfound : ∀ x j, j < n → found ds (putL ds 0 x a) j (x j) := fun x j hj t ht => by
    have h1 := getD_putL ds 0 x a j t hsa ht (by
      rw [List.all_eq_true] at hsz
      have := hsz (some t) (List.mem_of_getElem? ht)
      simpa using this)
    rwa [Nat.zero_add] at h1
  have hrest : ∀ x t, (ds.all fun d => !(d == some t)) = true → (putL ds 0 x a).tmps[t]?.getD undef = a.tmps[t]?.getD undef := fun x t ht => by
    refine getD_putL_other t ds 0 x a fun d hd he => ?_
    rw [List.all_eq_true] at ht
    have := ht d hd
    rw [he] at this
    simp at this
  have hB : ∀ i, i < ops.size → ∀ j ∈ depsOf ops i, j < i := by
    unfold backward_ at hb
    simp only [List.all_eq_true, List.mem_range, decide_eq_true_eq] at hb
    exact hb
  have conv : ∀ (i : Nat) (c : Bool) (x : Nat → Value) (W : World), i < n → wpOp P ops Q i (fun b W' => ∃ v, b = (putL ds 0 x a).put (ds.getD i none) v ∧ R i v W' ∧ (∀ j, j ≠ i → ∀ u, R j u W → R j u W') ∧ C c W') (putL ds 0 x a) W →
      wpOp P ops Q i (fun b W' => ∃ v, b = putL ds 0 (upd x i v) a ∧ R i v W' ∧ (∀ j, j ≠ i → ∀ u, R j u W → R j u W') ∧ C c W') (putL ds 0 x a) W := by
    intro i c x W hi h
    refine wpOp_mono ?_ h
    rintro b W' ⟨v, rfl, h1, h2, h3⟩
    refine ⟨v, ?_, h1, h2, h3⟩
    have hl2 : i < ds.length := by omega
    have e := putL_set ds 0 x a i v (ds[i]'hl2) hsa (List.getElem?_eq_getElem hl2)
    rw [Nat.zero_add] at e
    rw [← e]
    simp [List.getD, hl2]
  have h := wpAny_twoT (P := P) (ops := ops) (Q := Q) m n hmn (fun x => putL ds 0 x a) R C hb hl
    (fun i hi him c x W hC hd => conv i c x W hi (hstep i hi him c _ x W hC (fun j hj => ⟨hfound x j (by have := hB i (by omega) j hj; omega), hd j hj⟩) (hrest x)))
    (fun x W hC hd => conv m true x W hmn (hmid _ x W hC (fun j hj => ⟨hfound x j (by have := hB m (by omega) j hj; omega), hd j hj⟩) (hrest x))) hlast ops.size (Array.replicate ops.size false) x0 w.drew (by simp) (by rw [Array.toList_replicate, List.count_replicate]; simp) (by simp [hon]) (by simpa [show m < ops.size by omega] using hC) (fun j hj hlj => by simp [show j < ops.size by omega] at hlj) (fun j hj hlj => by simp [show j < ops.size by omega] at hlj)
  rw [hx0] at h
  exact h
end Go.Proofs.Ytbcfndhnopmbbaa
