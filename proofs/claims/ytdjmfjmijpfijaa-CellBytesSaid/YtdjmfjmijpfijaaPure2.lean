/-
  Plain mathematics: strings and lists: decoding an encoding gives back what was encoded, whatever follows; what is decoded is an encoding; a proper beginning asks for more.
-/
import Derived.Test.YtdjmfjmijpfijaaPure
import Derived.Test.YtdjmfjmijpfijaaEnc3
import Derived.Test.YtdjmfjmijpfijaaDec4
namespace Go.Proofs.Ytdjmfjmijpfijaa
set_option linter.unusedVariables false
set_option linter.unusedSimpArgs false
namespace Wr
theorem decLen_enc {size : Nat} (k : Nat) (hk : k ≤ 9223372036854775807) (rest : List UInt8) : decLen size (enc k ++ rest) = if ((rest.length : Nat) : Int) / (size : Int) < (k : Int) then (0, 0, 3) else ((k : Int), (enc k).length, 0) := by
  have hd := dec_enc (z := (k : Int)) (by unfold inI; omega) rest
  unfold decLen
  rw [hd]
  simp only [ne_eq, not_true_eq_false, if_false]
  rw [if_neg (by omega), List.length_append, Nat.add_sub_cancel_left]
theorem decLen_short {size : Nat} (k : Nat) (i : Nat) (hi : i < (enc (k : Int)).length) : decLen size ((enc (k : Int)).take i) = (0, 0, 3) := by
  have hd := dec_short (z := (k : Int)) i hi
  unfold decLen
  rw [hd]
  simp

/-- a way to write a value and to read it -/
structure Codec {α : Type} (size : Nat) (get : List UInt8 → α × Nat × Int) (e : α → List UInt8) (ok : α → Prop) : Prop where
  full : ∀ x tail, ok x → get (e x ++ tail) = (x, (e x).length, 0)
  canon : ∀ l, (get l).2.2 = 0 → ok (get l).1 ∧ (get l).2.1 ≤ l.length ∧ l.take (get l).2.1 = e (get l).1
  short : ∀ x i, ok x → i < (e x).length → (get ((e x).take i)).2.2 = 3
  least : ∀ x, ok x → size ≤ (e x).length

theorem codecInt : Codec 1 decI enc inI where
  full := fun x tail h => dec_enc h tail
  canon := fun l h => by
    obtain ⟨h1, h2, _, _, h3⟩ := enc_dec (l := l) (n := (decI l).1) (u := (decI l).2.1) (by rw [← h])
    exact ⟨h1, h2, h3⟩
  short := fun x i _ hi => by rw [dec_short i hi]
  least := fun x _ => enc_pos x

theorem encL_cons {α : Type} (e : α → List UInt8) (x : α) (l : List α) : encL e (x :: l) = e x ++ encL e l := by simp [encL]

section
variable {α : Type} {size : Nat} {get : List UInt8 → α × Nat × Int} {e : α → List UInt8} {ok : α → Prop}
theorem encL_least (h : ∀ x, ok x → size ≤ (e x).length) (xs : List α) (hx : ∀ x ∈ xs, ok x) : xs.length * size ≤ (encL e xs).length := by
  induction xs with
  | nil => simp
  | cons x xs ih =>
    rw [encL_cons, List.length_append, List.length_cons, Nat.succ_mul]
    have := h x (hx x (List.mem_cons.2 (Or.inl rfl)))
    have := ih (fun y hy => hx y (List.mem_cons.2 (Or.inr hy)))
    omega

theorem loop_full (hf : ∀ x tail, ok x → get (e x ++ tail) = (x, (e x).length, 0)) (xs : List α) (hx : ∀ x ∈ xs, ok x) (tail : List UInt8) : decLoop get xs.length (encL e xs ++ tail) = (xs, (encL e xs).length, 0) := by
  induction xs with
  | nil => rfl
  | cons x xs ih =>
    rw [encL_cons, List.append_assoc, List.length_cons, decLoop, hf x _ (hx x (List.mem_cons.2 (Or.inl rfl)))]
    simp only [List.drop_left]
    rw [ih (fun y hy => hx y (List.mem_cons.2 (Or.inr hy)))]
    simp

theorem list_full (hf : ∀ x tail, ok x → get (e x ++ tail) = (x, (e x).length, 0)) (hl : ∀ x, ok x → size ≤ (e x).length) (hs : 1 ≤ size) (xs : List α) (hx : ∀ x ∈ xs, ok x) (hn : xs.length ≤ 9223372036854775807) (tail : List UInt8) :
    decList size get (enc xs.length ++ encL e xs ++ tail) = (xs, (enc xs.length).length + (encL e xs).length, 0) := by
  have hle := encL_least hl xs hx
  unfold decList
  rw [List.append_assoc, decLen_enc _ hn]
  rw [if_neg (c := _ < (xs.length : Int))]
  · simp only [ne_eq, not_true_eq_false, if_false, Int.toNat_natCast, List.drop_left]
    rw [loop_full hf xs hx]
    simp [comb]
  · rw [List.length_append]
    have h1 : xs.length ≤ ((encL e xs).length + tail.length) / size := by rw [Nat.le_div_iff_mul_le (by omega)]; omega
    have h2 : (((encL e xs).length + tail.length : Nat) : Int) / (size : Int) = ((((encL e xs).length + tail.length) / size : Nat) : Int) := by simp
    rw [h2]; omega

theorem loop_canon (hc : ∀ l, (get l).2.2 = 0 → ok (get l).1 ∧ (get l).2.1 ≤ l.length ∧ l.take (get l).2.1 = e (get l).1) (k : Nat) : ∀ (l : List UInt8), (decLoop get k l).2.2 = 0 →
    (∀ x ∈ (decLoop get k l).1, ok x) ∧ (decLoop get k l).1.length = k ∧ (decLoop get k l).2.1 ≤ l.length ∧ l.take (decLoop get k l).2.1 = encL e (decLoop get k l).1 := by
  induction k with
  | zero => intro l _; simp [decLoop, encL_nil]
  | succ k ih =>
    intro l h
    unfold decLoop at h ⊢
    by_cases h1 : (get l).2.2 = 0
    · rw [if_neg (by simpa using h1)] at h ⊢
      by_cases h2 : (decLoop get k (l.drop (get l).2.1)).2.2 = 0
      · rw [if_neg (by simpa using h2)] at h ⊢
        obtain ⟨a1, a2, a3⟩ := hc l h1
        obtain ⟨b1, b2, b3, b4⟩ := ih _ h2
        rw [List.length_drop] at b3
        refine ⟨?_, by simp [b2], by simp only []; omega, ?_⟩
        · intro x hx
          rcases List.mem_cons.1 hx with rfl | hx
          · exact a1
          · exact b1 x hx
        · simp only [encL_cons]
          rw [List.take_add, a3, b4]
      · rw [if_pos (by simpa using h2)] at h
        exact absurd h h2
    · rw [if_pos (by simpa using h1)] at h
      exact absurd h h1

theorem list_canon (hc : ∀ l, (get l).2.2 = 0 → ok (get l).1 ∧ (get l).2.1 ≤ l.length ∧ l.take (get l).2.1 = e (get l).1) (hs : 1 ≤ size) (l : List UInt8) (h : (decList size get l).2.2 = 0) :
    (∀ x ∈ (decList size get l).1, ok x) ∧ (decList size get l).2.1 ≤ l.length ∧ l.take (decList size get l).2.1 = enc (decList size get l).1.length ++ encL e (decList size get l).1 := by
  unfold decList at h ⊢
  by_cases h1 : (decLen size l).2.2 = 0
  · rw [if_neg (by simpa using h1)] at h ⊢
    obtain ⟨d1, d2, d3, d4, d5⟩ := decLen_ok hs h1
    obtain ⟨e1, e2, _, _, e3⟩ := enc_dec (l := l) (n := (decI l).1) (u := (decI l).2.1) (by rw [← d2])
    unfold comb at h ⊢
    by_cases h2 : (decLoop get (decLen size l).1.toNat (l.drop (decLen size l).2.1)).2.2 = 0
    · rw [if_neg (by simpa using h2)]
      obtain ⟨b1, b2, b3, b4⟩ := loop_canon hc _ _ h2
      rw [List.length_drop] at b3
      refine ⟨by simpa using b1, by simp only []; rw [d1] at d5 b3 ⊢; omega, ?_⟩
      simp only [List.nil_append]
      rw [List.take_add, b4, b2, Int.toNat_of_nonneg d3]
      rw [d1, e3]
    · rw [if_pos (by simpa using h2)] at h
      exact absurd h h2
  · rw [if_pos (by simpa using h1)] at h
    exact absurd h h1

theorem loop_short (C : Codec size get e ok) (xs : List α) (hx : ∀ x ∈ xs, ok x) : ∀ (i : Nat), i < (encL e xs).length → (decLoop get xs.length ((encL e xs).take i)).2.2 = 3 := by
  induction xs with
  | nil => intro i hi; simp [encL_nil] at hi
  | cons x xs ih =>
    intro i hi
    have hxo := hx x (List.mem_cons.2 (Or.inl rfl))
    rw [encL_cons, List.length_append] at hi
    rw [encL_cons, List.length_cons, decLoop]
    by_cases h1 : i < (e x).length
    · rw [List.take_append_of_le_length (by omega)]
      have := C.short x i hxo h1
      rw [if_pos (by rw [this]; decide)]
      exact this
    · have ht : (e x ++ encL e xs).take i = e x ++ (encL e xs).take (i - (e x).length) := by
        rw [List.take_append]
        rw [List.take_of_length_le (by omega)]
      rw [ht, C.full x _ hxo]
      simp only [ne_eq, not_true_eq_false, if_false, List.drop_left]
      have := ih (fun y hy => hx y (List.mem_cons.2 (Or.inr hy))) (i - (e x).length) (by omega)
      rw [if_pos (by rw [this]; decide)]
      exact this

theorem list_short (C : Codec size get e ok) (xs : List α) (hx : ∀ x ∈ xs, ok x) (hn : xs.length ≤ 9223372036854775807) (i : Nat) (hi : i < (enc xs.length ++ encL e xs).length) : (decList size get ((enc xs.length ++ encL e xs).take i)).2.2 = 3 := by
  rw [List.length_append] at hi
  unfold decList
  by_cases h1 : i < (enc (xs.length : Int)).length
  · rw [List.take_append_of_le_length (by omega), decLen_short _ _ h1]
    simp
  · have ht : (enc (xs.length : Int) ++ encL e xs).take i = enc (xs.length : Int) ++ (encL e xs).take (i - (enc (xs.length : Int)).length) := by
      rw [List.take_append]
      rw [List.take_of_length_le (by omega)]
    rw [ht, decLen_enc _ hn]
    by_cases h2 : ((((encL e xs).take (i - (enc (xs.length : Int)).length)).length : Nat) : Int) / (size : Int) < (xs.length : Int)
    · rw [if_pos h2]; simp
    · rw [if_neg h2]
      simp only [ne_eq, not_true_eq_false, if_false, Int.toNat_natCast, List.drop_left]
      have := loop_short C xs hx (i - (enc (xs.length : Int)).length) (by omega)
      unfold comb
      rw [if_pos (by rw [this]; decide)]
      exact this
end
/-- strings -/
def okB (s : List UInt8) : Prop := s.length ≤ 9223372036854775807

theorem codecBytes : Codec 1 decB encB okB where
  full := fun s tail h => by
    unfold decB encB
    rw [List.append_assoc, decLen_enc _ h]
    rw [if_neg (c := _ < (s.length : Int)) (by rw [List.length_append]; omega)]
    simp
  canon := fun l h => by
    unfold decB at h ⊢
    by_cases h1 : (decLen 1 l).2.2 = 0
    · rw [if_neg (by simpa using h1)] at h ⊢
      obtain ⟨d1, d2, d3, d4, d5⟩ := decLen_ok (size := 1) (by omega) h1
      obtain ⟨e1, e2, _, _, e3⟩ := enc_dec (l := l) (n := (decI l).1) (u := (decI l).2.1) (by rw [← d2])
      have hlen : ((l.drop (decLen 1 l).2.1).take (decLen 1 l).1.toNat).length = (decLen 1 l).1.toNat := by rw [List.length_take, List.length_drop]; omega
      refine ⟨?_, by simp only []; omega, ?_⟩
      · unfold okB; simp only []; rw [hlen, d1]; unfold inI at e1; omega
      · unfold encB
        simp only []
        rw [hlen, List.take_add, Int.toNat_of_nonneg d3, d1, e3]
    · rw [if_pos (by simpa using h1)] at h
      exact absurd h h1
  short := fun s i h hi => by
    unfold decB
    unfold encB at hi ⊢
    rw [List.length_append] at hi
    by_cases h1 : i < (enc (s.length : Int)).length
    · rw [List.take_append_of_le_length (by omega), decLen_short _ _ h1]
      simp
    · have ht : (enc (s.length : Int) ++ s).take i = enc (s.length : Int) ++ s.take (i - (enc (s.length : Int)).length) := by
        rw [List.take_append]
        rw [List.take_of_length_le (by omega)]
      rw [ht, decLen_enc _ h]
      rw [if_pos (c := _ < (s.length : Int)) (by rw [List.length_take]; omega)]
      simp
  least := fun s _ => by unfold encB; rw [List.length_append]; have := enc_pos (s.length : Int); omega

/-- digests -/
def okD (d : List UInt8) : Prop := d.length = 16
theorem flat_encL (ds : List (List UInt8)) : encL (fun d => d) ds = ds.flatten := by simp [encL, List.flatMap_def]
end Wr
end Go.Proofs.Ytdjmfjmijpfijaa
