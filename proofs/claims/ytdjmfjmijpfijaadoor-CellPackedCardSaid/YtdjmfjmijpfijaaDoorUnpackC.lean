/-
  Cells: the plain function that Unpack computes; the function literal of Unpack, by contract.
-/
import Derived.Test.YtdjmfjmijpfijaaDoorPackE
namespace Go.Proofs.YtdjmfjmijpfijaaDoor
open Go.RowKit
set_option linter.unusedVariables false
set_option linter.unusedSimpArgs false
namespace Ce
/-- the length of the longest line -/
def wide (ls : List (List UInt8)) : Nat := ls.foldl (fun m l => max m l.length) 0
theorem wide_snoc (ls : List (List UInt8)) (l : List UInt8) : wide (ls ++ [l]) = max (wide ls) l.length := by unfold wide; rw [List.foldl_append]; rfl
theorem foldl_le (B : Nat) : ∀ (ls : List (List UInt8)) (m : Nat), m ≤ B → (∀ l ∈ ls, l.length ≤ B) → ls.foldl (fun m l => max m l.length) m ≤ B
  | [], m, hm, _ => hm
  | x :: r, m, hm, h => foldl_le B r (max m x.length) (Nat.max_le.2 ⟨hm, h x (by simp)⟩) (fun l hl => h l (List.mem_cons_of_mem _ hl))
theorem le_foldl : ∀ (ls : List (List UInt8)) (m : Nat), m ≤ ls.foldl (fun m l => max m l.length) m ∧ ∀ l ∈ ls, l.length ≤ ls.foldl (fun m l => max m l.length) m
  | [], m => ⟨Nat.le_refl _, fun l hl => by cases hl⟩
  | x :: r, m => by
    obtain ⟨h1, h2⟩ := le_foldl r (max m x.length)
    refine ⟨Nat.le_trans (Nat.le_max_left _ _) h1, fun l hl => ?_⟩
    rcases List.mem_cons.1 hl with h | h
    · subst h; exact Nat.le_trans (Nat.le_max_right _ _) h1
    · exact h2 l h
theorem wide_le (B : Nat) (ls : List (List UInt8)) (h : ∀ l ∈ ls, l.length ≤ B) : wide ls ≤ B := foldl_le B ls 0 (Nat.zero_le _) h
theorem le_wide (ls : List (List UInt8)) (l : List UInt8) (h : l ∈ ls) : l.length ≤ wide ls := (le_foldl ls 0).2 l h
def cellAt (ls : List (List UInt8)) (i j : Nat) : Nat := ((ls.getD i []).getD j 0).toNat
/-- the dot of a page in a column of a row -/
def unBit (ls : List (List UInt8)) (x y : Nat) : Bool := on (cellAt ls (y / 3) (x / 2)) (y % 3 + x % 2 * 3)
/-- the dots of a page, row by row -/
def unBits (ls : List (List UInt8)) (w h : Nat) : List Bool := (List.range (w * h)).map fun i => unBit ls (i % w) (i / w)
theorem unBits_len (ls : List (List UInt8)) (w h : Nat) : (unBits ls w h).length = w * h := by simp [unBits]
open Classical in
/-- as many bits as n, those of a set true -/
noncomputable def marks (n : Nat) (P : Nat → Prop) : List Bool := (List.range n).map fun i => decide (P i)
theorem marks_len (n : Nat) (P : Nat → Prop) : (marks n P).length = n := by simp [marks]
theorem marks_congr {n : Nat} {P Q : Nat → Prop} (h : ∀ i, i < n → (P i ↔ Q i)) : marks n P = marks n Q := by
  unfold marks
  apply List.map_congr_left
  intro i hi
  rw [List.mem_range] at hi
  exact decide_eq_decide.2 (h i hi)
theorem marks_set (n : Nat) (P : Nat → Prop) (j : Nat) (hj : j < n) : (marks n P).set j true = marks n fun i => P i ∨ i = j := by
  apply List.ext_getElem?
  intro k
  rw [List.getElem?_set]
  by_cases hk : k < n
  · by_cases hjk : j = k
    · subst hjk
      rw [if_pos rfl, if_pos (by rw [marks_len]; exact hj)]
      unfold marks
      rw [List.getElem?_map, List.getElem?_range hj]
      simp
    · rw [if_neg hjk]
      unfold marks
      rw [List.getElem?_map, List.getElem?_map, List.getElem?_range hk]
      simp only [Option.map_some]
      congr 2
      exact propext ⟨.inl, fun h => h.elim id fun e => absurd e.symm hjk⟩
  · rw [List.getElem?_eq_none (by rw [marks_len]; omega)]
    rw [if_neg (by omega), List.getElem?_eq_none (by rw [marks_len]; omega)]
theorem marks_none (n : Nat) : marks n (fun _ => False) = List.replicate n false := by
  unfold marks
  rw [List.map_const', List.length_range]
  congr 1
  exact @decide_eq_false False (Classical.propDecidable False) id
/-- the dots of a cell, counted from 0 -/
def dotsN (c : Nat) : List Nat := (List.range 6).filter (on c)
theorem dots_map (c : Nat) : dots c = (dotsN c).map fun k : Nat => 1 + (k : Int) := rfl
theorem dotsN_lt (c : Nat) : ∀ e ∈ dotsN c, e < 6 := fun e he => by
  unfold dotsN at he
  rw [List.mem_filter, List.mem_range] at he
  exact he.1
theorem dotsN_mem (c e : Nat) (he : e < 6) : e ∈ dotsN c ↔ on c e = true := by
  unfold dotsN
  rw [List.mem_filter, List.mem_range]
  exact ⟨fun h => h.2, fun h => ⟨he, h⟩⟩
/-- the place of a dot among the bits -/
def ix (w i k e : Nat) : Nat := (i * 3 + e % 3) * w + (k * 2 + e / 3)
/-- what the dots of a line's first k cells mark -/
def V (ls : List (List UInt8)) (w i k : Nat) (n : Nat) : Prop := ∃ k', k' < k ∧ ∃ e ∈ dotsN (cellAt ls i k'), n = ix w i k' e
/-- what the dots of the first i lines mark -/
def U (ls : List (List UInt8)) (w i : Nat) (n : Nat) : Prop := ∃ i', i' < i ∧ V ls w i' (ls.getD i' []).length n
theorem V_zero (ls : List (List UInt8)) (w i n : Nat) : ¬ V ls w i 0 n := by rintro ⟨_, h, _⟩; omega
theorem U_zero (ls : List (List UInt8)) (w n : Nat) : ¬ U ls w 0 n := by rintro ⟨_, h, _⟩; omega
theorem V_succ (ls : List (List UInt8)) (w i k n : Nat) : V ls w i (k + 1) n ↔ V ls w i k n ∨ ∃ e ∈ dotsN (cellAt ls i k), n = ix w i k e := by
  constructor
  · rintro ⟨k', hk, h⟩
    rcases Nat.lt_succ_iff_lt_or_eq.1 hk with h1 | h1
    · exact .inl ⟨k', h1, h⟩
    · subst h1; exact .inr h
  · rintro (⟨k', hk, h⟩ | h)
    · exact ⟨k', by omega, h⟩
    · exact ⟨k, by omega, h⟩
theorem U_succ (ls : List (List UInt8)) (w i n : Nat) : U ls w (i + 1) n ↔ U ls w i n ∨ V ls w i (ls.getD i []).length n := by
  constructor
  · rintro ⟨k', hk, h⟩
    rcases Nat.lt_succ_iff_lt_or_eq.1 hk with h1 | h1
    · exact .inl ⟨k', h1, h⟩
    · subst h1; exact .inr h
  · rintro (⟨k', hk, h⟩ | h)
    · exact ⟨k', by omega, h⟩
    · exact ⟨i, by omega, h⟩
theorem ix_div (w i k e : Nat) (he : e < 6) (hk : k * 2 + 1 < w) : ix w i k e / w = i * 3 + e % 3 ∧ ix w i k e % w = k * 2 + e / 3 := by
  have hw : 0 < w := by omega
  have hlt : k * 2 + e / 3 < w := by omega
  unfold ix
  rw [Nat.mul_comm _ w, Nat.mul_add_div hw, Nat.mul_add_mod, Nat.div_eq_of_lt hlt, Nat.mod_eq_of_lt hlt]
  exact ⟨rfl, rfl⟩
theorem ix_lt (w h i k e : Nat) (he : e < 6) (hk : k * 2 + 1 < w) (hi : i * 3 + 2 < h) : ix w i k e < w * h := by
  have hw : 0 < w := by omega
  have h1 := (ix_div w i k e he hk).1
  have : ix w i k e / w < h := by omega
  rwa [Nat.div_lt_iff_lt_mul hw, Nat.mul_comm] at this
theorem getD_mem {α : Type} (l : List α) (i : Nat) (d : α) (h : i < l.length) : l.getD i d ∈ l := by
  have : l.getD i d = l[i] := by simp [List.getD, h]
  rw [this]
  exact List.getElem_mem h
theorem on_zero (e : Nat) : on 0 e = false := by simp [on]
open Classical in
theorem marks_end (ls : List (List UInt8)) (w h : Nat) (hw : w = 2 * wide ls) (hh : h = 3 * ls.length) : marks (w * h) (U ls w ls.length) = unBits ls w h := by
  unfold marks unBits
  apply List.map_congr_left
  intro n hn
  rw [List.mem_range] at hn
  have hw0 : 0 < w := by
    rcases Nat.eq_zero_or_pos w with h0 | h0
    · rw [h0, Nat.zero_mul] at hn; omega
    · exact h0
  have hy : n / w < h := by rw [Nat.div_lt_iff_lt_mul hw0, Nat.mul_comm]; exact hn
  have hx := Nat.mod_lt n hw0
  have hnd := Nat.div_add_mod n w
  generalize hyy : n / w = y at *
  generalize hxx : n % w = x at *
  have key : U ls w ls.length n ↔ unBit ls x y = true := by
    unfold unBit
    constructor
    · rintro ⟨i, hi, k, hk, e, he, rfl⟩
      have he6 := dotsN_lt _ e he
      have hl := le_wide ls _ (getD_mem ls i [] hi)
      obtain ⟨h1, h2⟩ := ix_div w i k e he6 (by omega)
      rw [h1] at hyy
      rw [h2] at hxx
      rw [show y / 3 = i by omega, show x / 2 = k by omega, show y % 3 + x % 2 * 3 = e by omega]
      exact (dotsN_mem _ e he6).1 he
    · intro ho
      have hi : y / 3 < ls.length := by omega
      have hk : x / 2 < (ls.getD (y / 3) []).length := by
        rcases Nat.lt_or_ge (x / 2) (ls.getD (y / 3) []).length with h1 | h1
        · exact h1
        · have : cellAt ls (y / 3) (x / 2) = 0 := by
            unfold cellAt
            generalize ls.getD (y / 3) [] = l at *
            rw [show l.getD (x / 2) 0 = 0 by simp [List.getD, List.getElem?_eq_none h1]]
            rfl
          rw [this, on_zero] at ho
          cases ho
      refine ⟨y / 3, hi, x / 2, hk, y % 3 + x % 2 * 3, (dotsN_mem _ _ (by omega)).2 ho, ?_⟩
      unfold ix
      rw [show y / 3 * 3 + (y % 3 + x % 2 * 3) % 3 = y by omega, show x / 2 * 2 + (y % 3 + x % 2 * 3) / 3 = x by omega, Nat.mul_comm]
      exact hnd.symm
  by_cases hu : unBit ls x y = true
  · rw [hu, decide_eq_true (key.2 hu)]
  · rw [decide_eq_false (fun h => hu (key.1 h))]
    simpa using hu
end Ce
set_option maxHeartbeats 1000000 in
set_option maxRecDepth 100000 in
theorem uset_any (gon g9 g7 n wd line a e : Nat) (cur : Array Value) (w : World) (h9 : Blk w g9 35 #[.slice (some ⟨gon, 0, none⟩) n n]) (h7 : Blk w g7 3 #[.int .i64 (wd : Int)]) (hon : Blk w gon 4 cur) (hcur : cur.size = n) (hn : n ≤ 65536)
    (hlt : Ce.ix wd line a e < n) (he : e < 6) (hl : line ≤ 65536) (ha : a ≤ 65536) (hw : wd ≤ 65536) :
    Calls Tryd.prog 37 #[.int .i64 (line : Int), .int .i64 (a : Int), .int .i64 (1 + (e : Int)), .pointer (some ⟨g9, 0, none⟩), .pointer (some ⟨g7, 0, none⟩)] w fun ed w' => ed = .returned (.tuple #[]) ∧ w.setCell ⟨gon, Ce.ix wd line a e, none⟩ (.bool true) = w' := by
  have hc9 : w.cell? ⟨g9, 0, none⟩ = some (.slice (some ⟨gon, 0, none⟩) n n) := h9.cell 0
  have hc7 : w.cell? ⟨g7, 0, none⟩ = some (.int .i64 (wd : Int)) := h7.cell 0
  obtain ⟨old, hold⟩ : ∃ old, cur[Ce.ix wd line a e]? = some old := ⟨cur[Ce.ix wd line a e]'(by omega), Array.getElem?_eq_getElem (by omega)⟩
  have hco : w.cell? ⟨gon, Ce.ix wd line a e, none⟩ = some old := by rw [hon.cell]; exact hold
  have hfz := hon.frozen (Ce.ix wd line a e)
  have hix : Ce.ix wd line a e = (line * 3 + e % 3) * wd + (a * 2 + e / 3) := rfl
  obtain ⟨p, hp⟩ : ∃ p : Nat, p = (line * 3 + e % 3) * wd := ⟨_, rfl⟩
  rw [← hp] at hix
  have hpi : ((line : Int) * 3 + ((e % 3 : Nat) : Int)) * (wd : Int) = (p : Int) := by rw [hp, Int.natCast_mul, Int.natCast_add, Int.natCast_mul]; rfl
  generalize Ce.ix wd line a e = idx at *
  have hpn : p ≤ 65536 := by omega
  have hw1 : wrap64 (((line : Int) * 3 + ((e % 3 : Nat) : Int)) * (wd : Int)) = (p : Int) := by rw [hpi]; exact wrap64_in (by omega) (by omega)
  have hl0 : (0 : Int) ≤ (line : Int) := by omega
  have ha0 : (0 : Int) ≤ (a : Int) := by omega
  have hl1 : (line : Int) ≤ 65536 := by omega
  have ha1 : (a : Int) ≤ 65536 := by omega
  have hI : (p : Int) + ((a : Int) * 2 + ((e / 3 : Nat) : Int)) = (idx : Int) := by omega
  clear hold hp hcur
  obtain rfl | rfl | rfl | rfl | rfl | rfl : e = 0 ∨ e = 1 ∨ e = 2 ∨ e = 3 ∨ e = 4 ∨ e = 5 := by omega
  all_goals
    simp at hw1 hix hI
    have hidx : (idx : Int) < (n : Int) := by omega
    have hidx0 : (0 : Int) ≤ (idx : Int) := by omega
    clear hpi hix
    go_enter Tryd.func37, Tryd.ntmps37
    go_wp2
    exact bodyPost_end (v := .tuple #[]) (results_none rfl _ _ _) rfl ⟨rfl, rfl⟩
end Go.Proofs.YtdjmfjmijpfijaaDoor
