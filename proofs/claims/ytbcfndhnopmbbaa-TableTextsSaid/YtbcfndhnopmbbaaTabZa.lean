/-
  Tables, plainly: there is always a step, and steps go on within the text.
-/
import Derived.Test.YtbcfndhnopmbbaaTabZ
namespace Go.Proofs.Ytbcfndhnopmbbaa
open Go.RowKit
set_option linter.unusedVariables false
set_option linter.unusedSimpArgs false
namespace Tb
/-- the marks that the made tables have, in both languages -/
def marked (rs : List Rl) : Prop := ∀ m ∈ markB, ([m], (0 : Int)) ∈ rs.map key
def good (x : Int × UInt8) : Prop := langOk x.1 = true ∧ (letter x.2 = true ∨ digit x.2 = true ∨ x.2 ∈ markB)
theorem once_marked (n : Int) (lang : Nat) : marked (once (rawR n lang)) := by
  intro m hm
  obtain ⟨i, hi, rfl⟩ : ∃ i, i < 6 ∧ m = markB.getD i 0 := by
    unfold markB at hm
    simp only [List.mem_cons, List.not_mem_nil, or_false] at hm
    rcases hm with rfl | rfl | rfl | rfl | rfl | rfl
    · exact ⟨0, by decide, rfl⟩
    · exact ⟨1, by decide, rfl⟩
    · exact ⟨2, by decide, rfl⟩
    · exact ⟨3, by decide, rfl⟩
    · exact ⟨4, by decide, rfl⟩
    · exact ⟨5, by decide, rfl⟩
  refine once_has (rawR n lang) (markR n i) ?_
  unfold rawR
  exact List.mem_append_left _ (List.mem_append_right _ (List.mem_map_of_mem (List.mem_range.2 hi)))
theorem good_symOk {x : Int × UInt8} (h : good x) : symOk x = true := by
  unfold symOk
  rw [h.1, Bool.true_and]
  unfold written
  refine decide_eq_true ?_
  rcases h.2 with h | h | h
  · unfold letter small capital at h
    simp only [Bool.or_eq_true, decide_eq_true_eq] at h
    omega
  · unfold digit at h
    simp only [decide_eq_true_eq] at h
    omega
  · unfold markB at h
    simp only [List.mem_cons, List.not_mem_nil, or_false] at h
    rcases h with h | h | h | h | h | h <;> rw [h] <;> decide
theorem low_letter {c : UInt8} (h : letter c = true) : ∃ i, i < 26 ∧ low c = UInt8.ofNat (97 + i) := by
  unfold letter small capital at h
  simp only [Bool.or_eq_true, decide_eq_true_eq] at h
  have e : (low c).toNat = if 65 ≤ c.toNat ∧ c.toNat ≤ 90 then c.toNat + 32 else c.toNat := by
    unfold low capital
    by_cases h1 : 65 ≤ c.toNat ∧ c.toNat ≤ 90
    · rw [if_pos (decide_eq_true h1), if_pos h1, UInt8.toNat_add]
      show (c.toNat + 32) % 256 = _
      omega
    · rw [if_neg (by simpa using h1), if_neg h1]
  refine ⟨(low c).toNat - 97, ?_, ?_⟩
  · rw [e]; split <;> omega
  · apply UInt8.toNat.inj
    simp only [UInt8.toNat_ofNat']
    rw [e]
    split <;> omega
theorem low_mark {c : UInt8} (h : c ∈ markB) : low c = c ∧ letter c = false ∧ digit c = false := by
  unfold markB at h
  simp only [List.mem_cons, List.not_mem_nil, or_false] at h
  rcases h with h | h | h | h | h | h <;> rw [h] <;> exact ⟨by decide, by decide, by decide⟩
/-- a rule for one character anywhere fits where the character stands -/
theorem fits_one {r : Rl} {l : Text} {p : Nat} (c : UInt8) (hp : p < l.length) (hk : key r = ([c], 0)) (hc : low (at_ l p).2 = c) : fits r l p = true := by
  have h1 : r.text = [c] := congrArg Prod.fst hk
  have h2 : r.wh = 0 := congrArg Prod.snd hk
  unfold fits
  rw [h1, h2]
  have hs : stands [c] l p = true := by
    unfold stands
    rw [decide_eq_true (by show p + 1 ≤ l.length; omega), Bool.true_and]
    show (List.range 1).all _ = true
    rw [List.all_eq_true]
    intro i hi
    have hi0 : i = 0 := by have := List.mem_range.1 hi; omega
    subst hi0
    unfold standsAt
    rw [if_pos rfl, Nat.add_zero, decide_eq_true (show low (at_ l p).2 = [c].getD 0 0 from hc), Bool.true_and]
    exact decide_eq_true rfl
  rw [hs, Bool.true_and]
  rfl
theorem pieces_some {rs : List Rl} {t : Tab} {s : St} {l : Text} {p : Nat} {r : Rl} (hr : r ∈ rs) (hf : fits r l p = true) : pieces rs t s l p ≠ [] := by
  obtain ⟨k, hk, e⟩ := List.getElem_of_mem hr
  intro hn
  have hm : ⟨⟨s.lang, false, letter (at_ l p).2⟩, r.text.length, before t s (at_ l p).2 ++ r.cells.l, (k : Int)⟩ ∈ pieces rs t s l p := by
    unfold pieces
    rw [List.mem_filterMap]
    refine ⟨k, List.mem_range.2 hk, ?_⟩
    unfold pieceAt
    rw [List.getElem?_eq_getElem hk, e]
    show (if fits r l p = true then _ else none) = _
    rw [if_pos hf]
  rw [hn] at hm
  cases hm
theorem pieces_mem {rs : List Rl} {t : Tab} {s : St} {l : Text} {p : Nat} {x : Sp} (h : x ∈ pieces rs t s l p) : ∃ r ∈ rs, ∃ k, fits r l p = true ∧ x = ⟨⟨s.lang, false, letter (at_ l p).2⟩, r.text.length, before t s (at_ l p).2 ++ r.cells.l, (k : Int)⟩ := by
  unfold pieces at h
  rw [List.mem_filterMap] at h
  obtain ⟨k, hk, h⟩ := h
  have hk' : k < rs.length := List.mem_range.1 hk
  unfold pieceAt at h
  rw [List.getElem?_eq_getElem hk'] at h
  simp only [] at h
  split at h
  · rename_i hf
    injection h with h
    exact ⟨rs[k], List.getElem_mem hk', k, hf, h.symm⟩
  · cases h
theorem key_mem {rs : List Rl} {x : List UInt8 × Int} (h : x ∈ rs.map key) : ∃ r ∈ rs, key r = x := by
  obtain ⟨r, h1, h2⟩ := List.mem_map.1 h
  exact ⟨r, h1, h2⟩
/-- the pieces at a letter or a mark -/
theorem pieces_there {rs : List Rl} (ho : owns rs = true) (hm : marked rs) (t : Tab) (s : St) {l : Text} {p : Nat} (hp : p < l.length) (hg : letter (at_ l p).2 = true ∨ (at_ l p).2 ∈ markB) : pieces rs t s l p ≠ [] := by
  rcases hg with hl | hk
  · obtain ⟨i, hi, e⟩ := low_letter hl
    unfold owns at ho
    rw [List.all_eq_true] at ho
    have h := ho i (List.mem_range.2 hi)
    unfold ownsC at h
    obtain ⟨r, hr, hk⟩ := key_mem (of_decide_eq_true h)
    exact pieces_some hr (fits_one _ hp hk e)
  · obtain ⟨e, _⟩ := low_mark hk
    obtain ⟨r, hr, hkk⟩ := key_mem (hm _ hk)
    exact pieces_some hr (fits_one _ hp hkk e)
theorem fits_in {r : Rl} {l : Text} {p : Nat} (h : fits r l p = true) : p + r.text.length ≤ l.length := by
  unfold fits stands at h
  simp only [Bool.and_eq_true, decide_eq_true_eq] at h
  exact h.1.1
/-- the steps of the language of the character -/
theorem next_own {t : Tab} (hv : valid t = 0) (m0 : marked t.r0) (m1 : marked t.r1) (s : St) {l : Text} {p : Nat} (hp : p < l.length) (hs : (at_ l p).1 = s.lang) (hg : good (at_ l p)) :
    next t s l p ≠ [] ∧ ∀ x ∈ next t s l p, 1 ≤ x.len ∧ p + x.len ≤ l.length ∧ x.cells ≠ [] := by
  obtain ⟨_, _, hpr, _, _, o0, o1⟩ := valid_zero hv
  obtain ⟨r0, r1, _⟩ := proper_parts hpr
  unfold next
  rw [if_neg (by simp [hs])]
  cases hd : digit (at_ l p).2 with
  | true =>
    rw [if_pos rfl]
    refine ⟨by simp, fun x hx => ?_⟩
    rw [List.mem_singleton] at hx
    subst hx
    refine ⟨Nat.le_refl 1, by show p + 1 ≤ _; omega, ?_⟩
    unfold number
    simp
  | false =>
    rw [if_neg (by simp)]
    have hc : letter (at_ l p).2 = true ∨ (at_ l p).2 ∈ markB := by
      rcases hg.2 with h | h | h
      · exact .inl h
      · rw [hd] at h; cases h
      · exact .inr h
    have hall : ∀ r ∈ rulesOf t s.lang, right r = true := by
      unfold rulesOf
      split
      · exact r0
      · exact r1
    refine ⟨?_, fun x hx => ?_⟩
    · unfold rulesOf
      split
      · exact pieces_there o0 m0 t s hp hc
      · exact pieces_there o1 m1 t s hp hc
    · obtain ⟨r, hr, k, hf, rfl⟩ := pieces_mem hx
      refine ⟨(right_text (hall r hr)).1, fits_in hf, ?_⟩
      have h1 := (right_cells (hall r hr)).1
      intro hn
      have h2 := congrArg List.length hn
      rw [List.length_append] at h2
      simp only [List.length_nil] at h2
      omega
/-- there is always a step, and steps go on within the text -/
theorem always {t : Tab} (hv : valid t = 0) (m0 : marked t.r0) (m1 : marked t.r1) (s : St) {l : Text} {p : Nat} (hp : p < l.length) (hs : langOk s.lang = true) (hg : ∀ x ∈ l, good x) :
    steps t s l p ≠ [] ∧ ∀ x ∈ steps t s l p, p + x.len ≤ l.length ∧ x.cells ≠ [] ∧
      (x.len = 0 → x.to.lang = (at_ l p).1 ∧ steps t x.to l p ≠ [] ∧ ∀ y ∈ steps t x.to l p, y.len ≠ 0) := by
  have hsy : l.all symOk = true := by
    rw [List.all_eq_true]
    exact fun x hx => good_symOk (hg x hx)
  have hgp : good (at_ l p) := by
    rw [show at_ l p = l[p] by unfold at_; simp [List.getD, hp]]
    exact hg _ (List.getElem_mem hp)
  have hst : ∀ u : St, langOk u.lang = true → steps t u l (p : Int) = next t u l p := fun u hu => by
    unfold steps
    rw [if_pos ⟨by omega, by omega, hu, hsy, hv⟩]
    rfl
  rw [hst s hs]
  by_cases he : (at_ l p).1 = s.lang
  · obtain ⟨h1, h2⟩ := next_own hv m0 m1 s hp he hgp
    exact ⟨h1, fun x hx => ⟨(h2 x hx).2.1, (h2 x hx).2.2, fun h0 => absurd h0 (by have := (h2 x hx).1; omega)⟩⟩
  · have hn : next t s l p = [⟨⟨(at_ l p).1, false, false⟩, 0, t.sw.l, -1⟩] := by
      unfold next
      rw [if_pos he]
    rw [hn]
    refine ⟨by simp, fun x hx => ?_⟩
    rw [List.mem_singleton] at hx
    subst hx
    obtain ⟨h1, h2⟩ := next_own hv m0 m1 ⟨(at_ l p).1, false, false⟩ hp rfl hgp
    refine ⟨by show p + 0 ≤ _; omega, ?_, fun _ => ⟨rfl, ?_, ?_⟩⟩
    · obtain ⟨_, _, hpr, _⟩ := valid_zero hv
      obtain ⟨_, _, _, _, _, _, _, hw⟩ := proper_parts hpr
      have h := (writable_len hw).1
      intro hn
      have h3 : t.sw.l = [] := hn
      rw [h3] at h
      exact absurd h (by simp)
    · show steps t ⟨(at_ l p).1, false, false⟩ l p ≠ []
      rw [hst _ hgp.1]
      exact h1
    · show ∀ y ∈ steps t ⟨(at_ l p).1, false, false⟩ l p, y.len ≠ 0
      rw [hst _ hgp.1]
      intro y hy
      have := (h2 y hy).1
      omega
end Tb
end Go.Proofs.Ytbcfndhnopmbbaa
