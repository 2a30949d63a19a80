/-
  Tables, plainly: addresses do not matter; the tables made of a number are valid; the examples.
-/
import Derived.Test.YtbcfndhnopmbbaaTabV
namespace Go.Proofs.Ytbcfndhnopmbbaa
open Go.RowKit
set_option linter.unusedVariables false
set_option linter.unusedSimpArgs false
namespace Tb
theorem right_eR (r : Rl) : right (eR r) = right r := rfl
theorem all_right_eR (l : List Rl) : (l.map eR).all right = l.all right := by rw [List.all_map]; rfl
theorem proper_eT (t : Tab) : proper (eT t) = proper t := by
  show ((t.r0.map eR).all right && (t.r1.map eR).all right && _ && _ && _ && _ && _ && _) = _
  rw [all_right_eR, all_right_eR]
  rfl
theorem lone_eR (l : List Rl) : lone (l.map eR) = lone l := by unfold lone; rw [map_key_eR]
theorem owns_eR (l : List Rl) : owns (l.map eR) = owns l := by unfold owns ownsC; rw [map_key_eR]
theorem valid_eT (t : Tab) : valid (eT t) = valid t := by
  unfold valid
  rw [proper_eT, show (eT t).r0 = t.r0.map eR from rfl, show (eT t).r1 = t.r1.map eR from rfl, lone_eR, lone_eR, owns_eR, owns_eR, List.length_map, List.length_map]
theorem rulesOf_eT (t : Tab) (x : Int) : rulesOf (eT t) x = (rulesOf t x).map eR := by unfold rulesOf; split <;> rfl
theorem pieceAt_eT (rs : List Rl) (t : Tab) (s : St) (l : Text) (p i : Nat) : pieceAt (rs.map eR) (eT t) s l p i = pieceAt rs t s l p i := by
  unfold pieceAt
  rw [List.getElem?_map]
  cases rs[i]? <;> rfl
theorem pieces_eT (rs : List Rl) (t : Tab) (s : St) (l : Text) (p : Nat) : pieces (rs.map eR) (eT t) s l p = pieces rs t s l p := by
  unfold pieces
  rw [List.length_map]
  congr 1
  funext i
  exact pieceAt_eT rs t s l p i
theorem steps_eT (t : Tab) (s : St) (l : Text) (p : Int) : steps (eT t) s l p = steps t s l p := by
  unfold steps next
  rw [valid_eT, rulesOf_eT, pieces_eT]
  rfl
/-- what the tables that come out at the same erased tables do -/
theorem steps_same {t u : Tab} (h : eT t = eT u) (s : St) (l : Text) (p : Int) : steps t s l p = steps u s l p := by rw [← steps_eT t, h, steps_eT]
theorem valid_same {t u : Tab} (h : eT t = eT u) : valid t = valid u := by rw [← valid_eT t, h, valid_eT]
theorem once_keys (l : List Rl) : ((once l).map key).Nodup := by
  refine Wr.snoc_ind (P := fun l => ((once l).map key).Nodup) List.nodup_nil (fun l a ih => ?_) l
  rw [once_snoc]
  split
  · exact ih
  · rename_i h
    rw [List.map_append, List.map_singleton, List.nodup_append]
    refine ⟨ih, by simp, fun x hx y hy => ?_⟩
    rw [List.mem_singleton] at hy
    subst hy
    rintro rfl
    exact h hx
theorem once_sub (l : List Rl) : ∀ r ∈ once l, r ∈ l := by
  refine Wr.snoc_ind (P := fun l => ∀ r ∈ once l, r ∈ l) (fun r h => by cases h) (fun l a ih => ?_) l
  rw [once_snoc]
  intro r hr
  split at hr
  · exact List.mem_append_left _ (ih r hr)
  · rcases List.mem_append.1 hr with h | h
    · exact List.mem_append_left _ (ih r h)
    · exact List.mem_append_right _ h
theorem once_has (l : List Rl) : ∀ r ∈ l, key r ∈ (once l).map key := by
  refine Wr.snoc_ind (P := fun l => ∀ r ∈ l, key r ∈ (once l).map key) (fun r h => by cases h) (fun l a ih => ?_) l
  rw [once_snoc]
  intro r hr
  split
  · rename_i h
    rcases List.mem_append.1 hr with h1 | h1
    · exact ih r h1
    · rw [List.mem_singleton] at h1; subst h1; exact h
  · rw [List.map_append]
    rcases List.mem_append.1 hr with h1 | h1
    · exact List.mem_append_left _ (ih r h1)
    · rw [List.mem_singleton] at h1; subst h1; exact List.mem_append_right _ (by simp)
theorem once_len (l : List Rl) : (once l).length ≤ l.length := by
  refine Wr.snoc_ind (P := fun l => (once l).length ≤ l.length) (Nat.le_refl 0) (fun l a ih => ?_) l
  rw [once_snoc]
  split
  · rw [List.length_append]; omega
  · rw [List.length_append, List.length_append]; omega
theorem cellC_filled (n : Int) (k : Nat) : filled (cellC n k) = true := by
  unfold filled
  rw [cellC_nat]
  exact decide_eq_true (cellN_lt n k)
theorem writable_one (n : Int) (k : Nat) : writable [cellC n k] = true := by
  unfold writable
  simp [cellC_filled]
theorem writable_two (n : Int) (k j : Nat) : writable [cellC n k, cellC n j] = true := by
  unfold writable
  simp [cellC_filled]
theorem right_letterR (n : Int) (lang i : Nat) (h : i < 26) : right (letterR n lang i) = true := by
  have hs : ([UInt8.ofNat (97 + i)] : List UInt8).all small = true := by
    rw [List.all_cons, List.all_nil, Bool.and_true]
    unfold small
    have e : (UInt8.ofNat (97 + i)).toNat = 97 + i := by simp only [UInt8.toNat_ofNat']; omega
    rw [e]
    exact decide_eq_true ⟨by omega, by omega⟩
  unfold right letterR mkR
  simp only [hs, if_pos, writable_one]
  rfl
theorem right_markR (n : Int) (i : Nat) (h : i < 6) : right (markR n i) = true := by
  have hm : ([markB.getD i 0] : List UInt8).all small = false ∧ mark (markB.getD i 0) = true := by
    match i, h with
    | 0, _ => exact ⟨by decide, by decide⟩
    | 1, _ => exact ⟨by decide, by decide⟩
    | 2, _ => exact ⟨by decide, by decide⟩
    | 3, _ => exact ⟨by decide, by decide⟩
    | 4, _ => exact ⟨by decide, by decide⟩
    | 5, _ => exact ⟨by decide, by decide⟩
  unfold right markR mkR
  simp only [hm.1, writable_one, List.headD_cons, hm.2]
  rfl
theorem words_right (k : Nat) (h : k < 12) : (words.getD k []).all small = true ∧ 1 ≤ (words.getD k []).length ∧ (words.getD k []).length ≤ 8 := by
  match k, h with
  | 0, _ => exact ⟨by decide, by decide, by decide⟩
  | 1, _ => exact ⟨by decide, by decide, by decide⟩
  | 2, _ => exact ⟨by decide, by decide, by decide⟩
  | 3, _ => exact ⟨by decide, by decide, by decide⟩
  | 4, _ => exact ⟨by decide, by decide, by decide⟩
  | 5, _ => exact ⟨by decide, by decide, by decide⟩
  | 6, _ => exact ⟨by decide, by decide, by decide⟩
  | 7, _ => exact ⟨by decide, by decide, by decide⟩
  | 8, _ => exact ⟨by decide, by decide, by decide⟩
  | 9, _ => exact ⟨by decide, by decide, by decide⟩
  | 10, _ => exact ⟨by decide, by decide, by decide⟩
  | 11, _ => exact ⟨by decide, by decide, by decide⟩
theorem shortCells_writable (n : Int) (i : Nat) : writable (shortCells n i) = true := by
  unfold shortCells
  split
  · exact writable_two _ _ _
  · split
    · exact writable_two _ _ _
    · exact writable_one _ _
theorem right_shortR (n : Int) (lang i : Nat) : right (shortR n lang i) = true := by
  obtain ⟨h1, h2, h3⟩ := words_right (wordOf n lang i) (Ce.around_lt _ _ (by decide))
  have hw : whereOf n i < 4 := Nat.mod_lt _ (by decide)
  unfold right shortR mkR
  simp only [h1, if_pos, shortCells_writable, Bool.true_and]
  rw [decide_eq_true ⟨h2, h3⟩, Bool.true_and]
  exact decide_eq_true ⟨by omega, by omega⟩
theorem rawR_right (n : Int) (lang : Nat) : ∀ r ∈ rawR n lang, right r = true := by
  intro r hr
  unfold rawR at hr
  simp only [List.mem_append, List.mem_map, List.mem_range] at hr
  rcases hr with (⟨i, hi, rfl⟩ | ⟨i, hi, rfl⟩) | ⟨i, hi, rfl⟩
  · exact right_letterR n lang i hi
  · exact right_markR n i hi
  · exact right_shortR n lang i
theorem manyOf_lt (n : Int) (lang : Nat) : manyOf n lang ≤ 8 := by
  unfold manyOf
  have := Ce.around_lt (n.tdiv 630 + lang) 6 (by decide)
  omega
theorem rawR_len (n : Int) (lang : Nat) : (rawR n lang).length ≤ 40 := by
  unfold rawR
  simp only [List.length_append, List.length_map, List.length_range]
  have := manyOf_lt n lang
  omega
theorem rawR_owns (n : Int) (lang : Nat) : owns (once (rawR n lang)) = true := by
  unfold owns
  rw [List.all_eq_true]
  intro i hi
  unfold ownsC
  refine decide_eq_true ?_
  refine once_has (rawR n lang) (letterR n lang i) ?_
  unfold rawR
  exact List.mem_append_left _ (List.mem_append_left _ (List.mem_map_of_mem hi))
theorem once_right (n : Int) (lang : Nat) : (once (rawR n lang)).all right = true := by
  rw [List.all_eq_true]
  exact fun r hr => rawR_right n lang r (once_sub _ r hr)
theorem swC_writable (n : Int) : writable (swC n) = true := by
  unfold swC
  split
  · exact writable_two _ _ _
  · exact writable_one _ _
theorem valid_of {a b : List Rl} {d c n f s : Bs} (ha : a.length ≤ 96) (hb : b.length ≤ 96) (ra : a.all right = true) (rb : b.all right = true) (hd : d.l.length = 10) (hdf : d.l.all filled = true)
    (hc : writable c.l = true) (hn : writable n.l = true) (hf : writable f.l = true) (hs : writable s.l = true) (la : lone a = true) (lb : lone b = true) (oa : owns a = true) (ob : owns b = true) : valid ⟨a, b, d, c, n, f, s⟩ = 0 := by
  unfold valid proper
  simp only [ra, rb, hd, hdf, hc, hn, hf, hs, la, lb, oa, ob]
  rw [if_neg (by omega)]
  simp
/-- the tables made of a number are valid -/
theorem valid_tablesT (n : Int) : valid (tablesT n) = 0 := by
  have h0 := Nat.le_trans (once_len (rawR n 0)) (rawR_len n 0)
  have h1 := Nat.le_trans (once_len (rawR n 1)) (rawR_len n 1)
  have hd : ((List.range 10).map (cellC n)).length = 10 := by rw [List.length_map, List.length_range]
  have hf : ((List.range 10).map (cellC n)).all filled = true := by
    rw [List.all_eq_true]
    intro c hc
    obtain ⟨k, _, rfl⟩ := List.mem_map.1 hc
    exact cellC_filled n k
  have l0 : lone (once (rawR n 0)) = true := decide_eq_true (once_keys _)
  have l1 : lone (once (rawR n 1)) = true := decide_eq_true (once_keys _)
  exact valid_of (by omega) (by omega) (once_right n 0) (once_right n 1) hd hf (writable_one _ _) (writable_one _ _) (writable_one _ _) (swC_writable n) l0 l1 (rawR_owns n 0) (rawR_owns n 1)
/-- the tables of the examples -/
def exL : List Rl := (List.range 26).map fun i => mkR [UInt8.ofNat (97 + i)] 0 [UInt8.ofNat (1 + i)]
def exMore : List Rl := [mkR [97, 110] 0 [30], mkR [97, 110] 1 [31], mkR [110] 3 [32], mkR [46] 0 [33]]
def exB (l : List UInt8) : Bs := ⟨l, none, 0⟩
def exT : Tab := ⟨exL ++ exMore, exL, exB [41, 42, 43, 44, 45, 46, 47, 48, 49, 50], exB [60], exB [61], exB [62], exB [63]⟩
def sp0 (s : List Nat) : Text := s.map fun c => (0, UInt8.ofNat c)
def zeroS : St := ⟨0, false, false⟩
def numS : St := ⟨0, true, false⟩
theorem ex_valid : valid exT = 0 := by decide +kernel
theorem ex_One : (steps exT zeroS (sp0 [65, 110]) 0).map (fun x => (x.len, x.cells)) = [(1, [60, 1]), (2, [60, 30]), (2, [60, 31])] := by decide +kernel
theorem ex_Ban1 : (steps exT zeroS (sp0 [98, 97, 110]) 1).map (fun x => (x.len, x.cells)) = [(1, [1]), (2, [30])] := by decide +kernel
theorem ex_Ban2 : (steps exT zeroS (sp0 [98, 97, 110]) 2).map (fun x => (x.len, x.cells)) = [(1, [14]), (1, [32])] := by decide +kernel
theorem ex_Seven : (steps exT zeroS (sp0 [55, 46]) 0).map (fun x => (x.len, x.cells)) = [(1, [61, 48])] := by decide +kernel
theorem ex_SevenA : (steps exT numS (sp0 [55, 97]) 1).map (fun x => (x.len, x.cells)) = [(1, [62, 1])] := by decide +kernel
theorem ex_SevenDot : (steps exT numS (sp0 [55, 46]) 1).map (fun x => (x.len, x.cells)) = [(1, [33])] := by decide +kernel
theorem ex_Switch : (steps exT zeroS [(1, 97)] 0).map (fun x => (x.len, x.cells)) = [(0, [63])] := by decide +kernel
end Tb
end Go.Proofs.Ytbcfndhnopmbbaa
