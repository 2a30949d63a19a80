/-
  Tables: plainly. Nothing here speaks of memory or of the program.
-/
import Derived.Test.YtbcfndhnopmbbaaWords
namespace Go.Proofs.Ytbcfndhnopmbbaa
open Go.RowKit
set_option linter.unusedVariables false
set_option linter.unusedSimpArgs false
namespace Tb
/-- bytes, and where they lie -/
structure Bs where
  l : List UInt8
  ad : Option Addr
  c : Nat
/-- a rule -/
structure Rl where
  text : List UInt8
  wh : Int
  cells : Bs
/-- tables -/
structure Tab where
  r0 : List Rl
  r1 : List Rl
  dig : Bs
  cap : Bs
  num : Bs
  fin : Bs
  sw : Bs
def small (c : UInt8) : Bool := decide (97 ≤ c.toNat ∧ c.toNat ≤ 122)
def capital (c : UInt8) : Bool := decide (65 ≤ c.toNat ∧ c.toNat ≤ 90)
def digit (c : UInt8) : Bool := decide (48 ≤ c.toNat ∧ c.toNat ≤ 57)
def written (c : UInt8) : Bool := decide (32 ≤ c.toNat ∧ c.toNat ≤ 126)
def filled (c : UInt8) : Bool := decide (1 ≤ c.toNat ∧ c.toNat ≤ 63)
def low (c : UInt8) : UInt8 := if capital c then c + 32 else c
def letter (c : UInt8) : Bool := small c || capital c
def mark (c : UInt8) : Bool := written c && !letter c && !digit c
def writable (b : List UInt8) : Bool := decide (1 ≤ b.length ∧ b.length ≤ 4) && b.all filled
def right (r : Rl) : Bool :=
  writable r.cells.l && decide (1 ≤ r.text.length ∧ r.text.length ≤ 8) &&
    (if r.text.all small then decide (0 ≤ r.wh ∧ r.wh ≤ 3) else decide (r.text.length = 1) && mark (r.text.headD 0) && decide (r.wh = 0))
def key (r : Rl) : List UInt8 × Int := (r.text, r.wh)
def lone (rs : List Rl) : Bool := decide (rs.map key).Nodup
def ownsC (rs : List Rl) (c : UInt8) : Bool := decide (([c], (0 : Int)) ∈ rs.map key)
def owns (rs : List Rl) : Bool := (List.range 26).all fun i => ownsC rs (UInt8.ofNat (97 + i))
def proper (t : Tab) : Bool :=
  t.r0.all right && t.r1.all right && decide (t.dig.l.length = 10) && t.dig.l.all filled && writable t.cap.l && writable t.num.l && writable t.fin.l && writable t.sw.l
/-- the number of what is wrong with tables -/
def valid (t : Tab) : Int :=
  if 96 < t.r0.length ∨ 96 < t.r1.length then 4
  else if proper t = false then 1
  else if lone t.r0 = false ∨ lone t.r1 = false then 7
  else if owns t.r0 = false ∨ owns t.r1 = false then 6
  else 0
abbrev Text := List (Int × UInt8)
def langOk (x : Int) : Bool := decide (0 ≤ x ∧ x < 2)
def symOk (x : Int × UInt8) : Bool := langOk x.1 && written x.2
structure St where
  lang : Int
  num : Bool
  inn : Bool
deriving DecidableEq
structure Sp where
  to : St
  len : Nat
  cells : List UInt8
  rule : Int
deriving DecidableEq
def at_ (l : Text) (i : Nat) : Int × UInt8 := l.getD i (0, 0)
/-- whether a word has characters both before a place and at it -/
def inside (l : Text) (i : Nat) : Bool :=
  decide (0 < i ∧ i < l.length) && decide ((at_ l (i - 1)).1 = (at_ l i).1) && letter (at_ l (i - 1)).2 && letter (at_ l i).2
def standsAt (s : List UInt8) (l : Text) (p i : Nat) : Bool :=
  decide ((if i = 0 then low (at_ l (p + i)).2 else (at_ l (p + i)).2) = s.getD i 0) && decide ((at_ l (p + i)).1 = (at_ l p).1)
def stands (s : List UInt8) (l : Text) (p : Nat) : Bool :=
  decide (p + s.length ≤ l.length) && (List.range s.length).all (standsAt s l p)
def whereOk (wh : Int) (b e : Bool) : Bool :=
  if wh = 1 then !b && !e else if wh = 2 then !b && e else if wh = 3 then b else true
def fits (r : Rl) (l : Text) (p : Nat) : Bool :=
  stands r.text l p && whereOk r.wh (inside l p) (inside l (p + r.text.length))
def before (t : Tab) (s : St) (c : UInt8) : List UInt8 :=
  (if letter c && s.num then t.fin.l else []) ++ (if capital c then t.cap.l else [])
def pieceAt (rs : List Rl) (t : Tab) (s : St) (l : Text) (p i : Nat) : Option Sp :=
  match rs[i]? with
  | some r => if fits r l p then some ⟨⟨s.lang, false, letter (at_ l p).2⟩, r.text.length, before t s (at_ l p).2 ++ r.cells.l, (i : Int)⟩ else none
  | none => none
def pieces (rs : List Rl) (t : Tab) (s : St) (l : Text) (p : Nat) : List Sp := (List.range rs.length).filterMap (pieceAt rs t s l p)
def rulesOf (t : Tab) (lang : Int) : List Rl := if lang = 0 then t.r0 else t.r1
def number (t : Tab) (s : St) (c : UInt8) : Sp :=
  ⟨⟨s.lang, true, false⟩, 1, (if s.num then [] else t.num.l) ++ [t.dig.l.getD (c.toNat - 48) 0], -1⟩
def next (t : Tab) (s : St) (l : Text) (p : Nat) : List Sp :=
  if (at_ l p).1 ≠ s.lang then [⟨⟨(at_ l p).1, false, false⟩, 0, t.sw.l, -1⟩]
  else if digit (at_ l p).2 then [number t s (at_ l p).2]
  else pieces (rulesOf t s.lang) t s l p
/-- the steps at a place -/
def steps (t : Tab) (s : St) (l : Text) (p : Int) : List Sp :=
  if 0 ≤ p ∧ p < l.length ∧ langOk s.lang = true ∧ l.all symOk = true ∧ valid t = 0 then next t s l p.toNat else []
theorem pieces_step (rs : List Rl) (t : Tab) (s : St) (l : Text) (p k : Nat) :
    (List.range (k + 1)).filterMap (pieceAt rs t s l p) = (List.range k).filterMap (pieceAt rs t s l p) ++ (pieceAt rs t s l p k).toList := by
  rw [List.range_succ, List.filterMap_append]
  cases h : pieceAt rs t s l p k <;> simp [h]
theorem valid_zero {t : Tab} (h : valid t = 0) : t.r0.length ≤ 96 ∧ t.r1.length ≤ 96 ∧ proper t = true ∧ lone t.r0 = true ∧ lone t.r1 = true ∧ owns t.r0 = true ∧ owns t.r1 = true := by
  unfold valid at h
  split at h
  · cases h
  · rename_i h1
    split at h
    · cases h
    · rename_i h2
      split at h
      · cases h
      · rename_i h3
        split at h
        · cases h
        · rename_i h4
          refine ⟨by omega, by omega, by simpa using h2, ?_, ?_, ?_, ?_⟩
          · cases h5 : lone t.r0
            · exact absurd (.inl h5) h3
            · rfl
          · cases h5 : lone t.r1
            · exact absurd (.inr h5) h3
            · rfl
          · cases h5 : owns t.r0
            · exact absurd (.inl h5) h4
            · rfl
          · cases h5 : owns t.r1
            · exact absurd (.inr h5) h4
            · rfl
theorem proper_parts {t : Tab} (h : proper t = true) : (∀ r ∈ t.r0, right r = true) ∧ (∀ r ∈ t.r1, right r = true) ∧ t.dig.l.length = 10 ∧ (∀ c ∈ t.dig.l, filled c = true) ∧ writable t.cap.l = true ∧ writable t.num.l = true ∧ writable t.fin.l = true ∧ writable t.sw.l = true := by
  unfold proper at h
  simp only [Bool.and_eq_true, List.all_eq_true, decide_eq_true_eq] at h
  obtain ⟨⟨⟨⟨⟨⟨⟨h1, h2⟩, h3⟩, h4⟩, h5⟩, h6⟩, h7⟩, h8⟩ := h
  exact ⟨h1, h2, h3, h4, h5, h6, h7, h8⟩
theorem writable_len {l : List UInt8} (h : writable l = true) : 1 ≤ l.length ∧ l.length ≤ 4 := by
  unfold writable at h
  rw [Bool.and_eq_true] at h
  exact of_decide_eq_true h.1
theorem right_text {r : Rl} (h : right r = true) : 1 ≤ r.text.length ∧ r.text.length ≤ 8 := by
  unfold right at h
  simp only [Bool.and_eq_true] at h
  exact of_decide_eq_true h.1.2
theorem right_cells {r : Rl} (h : right r = true) : 1 ≤ r.cells.l.length ∧ r.cells.l.length ≤ 4 := by
  unfold right at h
  simp only [Bool.and_eq_true] at h
  exact writable_len h.1.1
end Tb
end Go.Proofs.Ytbcfndhnopmbbaa
