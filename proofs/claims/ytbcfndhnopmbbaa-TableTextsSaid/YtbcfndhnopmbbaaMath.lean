/-
  Plain mathematics of the encodings of layer 1: bytes of a number, encodings, decodings, and how they belong together. Nothing here speaks of the program or of memory.
-/
namespace Go.Proofs.Ytbcfndhnopmbbaa.Wr
set_option linter.unusedVariables false
set_option linter.unusedSimpArgs false
theorem snoc_ind {α : Type} {P : List α → Prop} (h0 : P []) (hs : ∀ l a, P l → P (l ++ [a])) (l : List α) : P l := by
  have h : ∀ r : List α, P r.reverse := fun r => by
    induction r with
    | nil => exact h0
    | cons a r ih => rw [List.reverse_cons]; exact hs _ _ ih
  have := h l.reverse
  rwa [List.reverse_reverse] at this

/-- the bytes of m in base 256, most significant first, of at most f bytes -/
def digs : Nat → Nat → List UInt8
  | 0, _ => []
  | f + 1, m => if m = 0 then [] else digs f (m / 256) ++ [UInt8.ofNat m]

theorem digs_zero (f : Nat) : digs f 0 = [] := by cases f <;> simp [digs]
theorem digs_len (f m : Nat) : (digs f m).length ≤ f := by
  induction f generalizing m with
  | zero => simp [digs]
  | succ f ih => simp only [digs]; split <;> simp; exact ih _
theorem digs_step (f m : Nat) (h : m ≠ 0) : digs (f + 1) m = digs f (m / 256) ++ [UInt8.ofNat m] := by simp [digs, h]

/-- the value of bytes in base 256 -/
def val : List UInt8 → Nat := fun l => l.foldl (fun a c => a * 256 + c.toNat) 0
theorem val_nil : val [] = 0 := rfl
theorem val_snoc (l : List UInt8) (c : UInt8) : val (l ++ [c]) = val l * 256 + c.toNat := by simp [val, List.foldl_append]
theorem val_digs (f m : Nat) (h : m < 256 ^ f) : val (digs f m) = m := by
  induction f generalizing m with
  | zero => simp at h; subst h; rfl
  | succ f ih =>
    simp only [digs]
    split
    · next h0 => subst h0; rfl
    · rw [val_snoc, ih (m / 256) (by rw [Nat.div_lt_iff_lt_mul (by omega)]; rw [Nat.pow_succ] at h; exact h)]
      simp only [UInt8.toNat_ofNat']
      omega
theorem digs_head (f m : Nat) (h : m < 256 ^ f) (c : UInt8) (r : List UInt8) (hd : digs f m = c :: r) : c ≠ 0 := by
  induction f generalizing m c r with
  | zero => simp [digs] at hd
  | succ f ih =>
    simp only [digs] at hd
    split at hd
    · simp at hd
    · next h0 =>
      have hlt : m / 256 < 256 ^ f := by rw [Nat.div_lt_iff_lt_mul (by omega)]; rw [Nat.pow_succ] at h; exact h
      cases hq : digs f (m / 256) with
      | nil =>
        rw [hq] at hd
        simp at hd
        have hz : m / 256 = 0 := by have := val_digs f (m / 256) hlt; rw [hq] at this; simpa [val] using this.symm
        have hm : m < 256 := by omega
        intro hc
        rw [← hd.1] at hc
        have := congrArg UInt8.toNat hc
        simp only [UInt8.toNat_ofNat'] at this
        have h2 : m % 256 = m := Nat.mod_eq_of_lt hm
        simp at this
        omega
      | cons c' r' =>
        rw [hq] at hd
        simp at hd
        rw [← hd.1]
        exact ih _ hlt c' r' hq

theorem val_lt (l : List UInt8) : val l < 256 ^ l.length := by
  induction l using snoc_ind with
  | h0 => simp [val]
  | hs l c ih =>
    rw [val_snoc, List.length_append, List.length_singleton, Nat.pow_succ]
    have := c.toNat_lt
    omega
theorem val_cons (c : UInt8) (l : List UInt8) : val (c :: l) = c.toNat * 256 ^ l.length + val l := by
  induction l using snoc_ind with
  | h0 => simp [val]
  | hs l d ih =>
    rw [← List.cons_append, val_snoc, ih, val_snoc, List.length_append, List.length_singleton, Nat.pow_succ]
    rw [Nat.add_mul, Nat.mul_assoc, Nat.add_assoc]

/-- bytes without a zero at their beginning are the bytes of their value -/
theorem digs_val (f : Nat) (l : List UInt8) (hl : l.length ≤ f) (hh : ∀ c r, l = c :: r → c ≠ 0) : digs f (val l) = l := by
  induction f generalizing l with
  | zero => have : l = [] := List.eq_nil_of_length_eq_zero (by omega); subst this; rfl
  | succ f ih =>
    rcases List.eq_nil_or_concat l with rfl | ⟨l', c, rfl⟩
    · simp [val, digs]
    · rw [List.concat_eq_append] at hl hh ⊢
      rw [val_snoc]
      have hc := c.toNat_lt
      have hne : val l' * 256 + c.toNat ≠ 0 := by
        intro h0
        cases l' with
        | nil => exact hh c [] rfl (UInt8.toNat_inj.1 (by simp [val] at h0; simpa using h0))
        | cons d r =>
          have hd := hh d (r ++ [c]) rfl
          have h1 : val (d :: r) = 0 := by omega
          rw [val_cons] at h1
          have h2 : d.toNat * 256 ^ r.length = 0 := by omega
          rcases Nat.mul_eq_zero.1 h2 with h3 | h3
          · exact hd (UInt8.toNat_inj.1 (by simpa using h3))
          · exact absurd h3 (Nat.pos_iff_ne_zero.1 (Nat.pow_pos (by omega)))
      rw [digs_step _ _ hne]
      have hq : (val l' * 256 + c.toNat) / 256 = val l' := by omega
      rw [hq, ih l' (by simp at hl; omega) (fun d r e => hh d (r ++ [c]) (by rw [e]; rfl))]
      congr 2
      apply UInt8.toNat_inj.1
      simp only [UInt8.toNat_ofNat']
      omega

theorem digs_more (f m : Nat) (h : m < 256 ^ f) : digs (f + 1) m = digs f m := by
  have h1 := digs_val (f + 1) (digs f m) (by have := digs_len f m; omega) (fun c r e => digs_head f m h c r e)
  rw [val_digs f m h] at h1
  exact h1
theorem digs_fit (f k m : Nat) (h : m < 256 ^ k) (hk : k ≤ f) : digs f m = digs k m := by
  obtain ⟨d, rfl⟩ := Nat.exists_eq_add_of_le hk
  clear hk
  induction d with
  | zero => rfl
  | succ d ih => rw [← Nat.add_assoc, digs_more _ _ (Nat.lt_of_lt_of_le h (Nat.pow_le_pow_right (by omega) (by omega))), ih]

/-- the mask of the bytes of a number: 255 below zero -/
def flip (z : Int) : UInt8 := if z < 0 then 255 else 0
/-- the number whose bytes are written -/
def mag (z : Int) : Nat := if z < 0 then (-1 - z).toNat else z.toNat
/-- the encoding of an integer -/
def enc (z : Int) : List UInt8 :=
  (UInt8.ofNat (128 + (digs 8 (mag z)).length) ^^^ flip z) :: (digs 8 (mag z)).map (· ^^^ flip z)

/-- the mask that a first byte tells -/
def flipOf (h : UInt8) : UInt8 := if h < 128 then 255 else 0
/-- the number of bytes that a first byte tells -/
def kOf (h : UInt8) : Nat := (h ^^^ flipOf h).toNat - 128

/-- what decoding an integer answers: the integer, the bytes used, the error's number -/
def decI : List UInt8 → Int × Nat × Int
  | [] => (0, 0, 3)
  | h :: t =>
    if 8 < kOf h then (0, 0, 2)
    else if t.length < kOf h then (0, 0, 3)
    else
      let m := val ((t.take (kOf h)).map (· ^^^ flipOf h))
      if (0 < kOf h ∧ t.head? = some (flipOf h)) ∨ 9223372036854775807 < m then (0, 0, 2)
      else (if h < 128 then -1 - (m : Int) else (m : Int), 1 + kOf h, 0)

theorem decI_cons (h : UInt8) (t : List UInt8) : decI (h :: t) =
    if 8 < kOf h then (0, 0, 2)
    else if t.length < kOf h then (0, 0, 3)
    else if (0 < kOf h ∧ t.head? = some (flipOf h)) ∨ 9223372036854775807 < val ((t.take (kOf h)).map (· ^^^ flipOf h)) then (0, 0, 2)
    else (if h < 128 then -1 - (val ((t.take (kOf h)).map (· ^^^ flipOf h)) : Int) else (val ((t.take (kOf h)).map (· ^^^ flipOf h)) : Int), 1 + kOf h, 0) := rfl

def inI (z : Int) : Prop := -9223372036854775808 ≤ z ∧ z ≤ 9223372036854775807

theorem mag_lt {z : Int} (h : inI z) : mag z < 9223372036854775808 := by unfold mag inI at *; split <;> omega
theorem mag_lt' {z : Int} (h : inI z) : mag z < 256 ^ 8 := Nat.lt_of_lt_of_le (mag_lt h) (by decide)

theorem xor_self_byte (a f : UInt8) : (a ^^^ f) ^^^ f = a := by rw [UInt8.xor_assoc, UInt8.xor_self, UInt8.xor_zero]
theorem map_xor_xor (l : List UInt8) (f : UInt8) : (l.map (· ^^^ f)).map (· ^^^ f) = l := by
  rw [List.map_map]
  conv => rhs; rw [← List.map_id l]
  apply List.map_congr_left
  intro a _
  exact xor_self_byte a f

theorem small9 (k : Nat) (hk : k ≤ 8) : flipOf (UInt8.ofNat (128 + k) ^^^ 255) = 255 ∧ kOf (UInt8.ofNat (128 + k) ^^^ 255) = k ∧ (UInt8.ofNat (128 + k) ^^^ 255) < 128 ∧
    flipOf (UInt8.ofNat (128 + k)) = 0 ∧ kOf (UInt8.ofNat (128 + k)) = k ∧ ¬ (UInt8.ofNat (128 + k)) < 128 := by
  have h : ∀ k : Fin 9, flipOf (UInt8.ofNat (128 + k.val) ^^^ 255) = 255 ∧ kOf (UInt8.ofNat (128 + k.val) ^^^ 255) = k.val ∧ (UInt8.ofNat (128 + k.val) ^^^ 255) < 128 ∧
    flipOf (UInt8.ofNat (128 + k.val)) = 0 ∧ kOf (UInt8.ofNat (128 + k.val)) = k.val ∧ ¬ (UInt8.ofNat (128 + k.val)) < 128 := by decide
  exact h ⟨k, by omega⟩

theorem enc_head (z : Int) : flipOf (UInt8.ofNat (128 + (digs 8 (mag z)).length) ^^^ flip z) = flip z ∧ kOf (UInt8.ofNat (128 + (digs 8 (mag z)).length) ^^^ flip z) = (digs 8 (mag z)).length ∧
    ((UInt8.ofNat (128 + (digs 8 (mag z)).length) ^^^ flip z) < 128 ↔ z < 0) := by
  have hl := digs_len 8 (mag z)
  obtain ⟨a, b, c, d, e, f⟩ := small9 _ hl
  unfold flip
  split
  · next hz => exact ⟨a, b, fun _ => hz, fun _ => c⟩
  · next hz => rw [UInt8.xor_zero]; exact ⟨d, e, fun h => absurd h f, fun h => absurd h hz⟩

theorem enc_len (z : Int) : (enc z).length = 1 + (digs 8 (mag z)).length := by simp [enc]; omega
theorem enc_pos (z : Int) : 1 ≤ (enc z).length := by rw [enc_len]; omega
theorem enc_le (z : Int) : (enc z).length ≤ 9 := by rw [enc_len]; have := digs_len 8 (mag z); omega
theorem z_of_mag (z : Int) : (if z < 0 then -1 - (mag z : Int) else (mag z : Int)) = z := by unfold mag; split <;> omega

/-- P1.6: an encoding is decoded, whatever follows -/
theorem dec_enc {z : Int} (hz : inI z) (tail : List UInt8) : decI (enc z ++ tail) = (z, (enc z).length, 0) := by
  obtain ⟨h1, h2, h3⟩ := enc_head z
  have hl := digs_len 8 (mag z)
  have ht : (((digs 8 (mag z)).map (· ^^^ flip z) ++ tail).take (digs 8 (mag z)).length) = (digs 8 (mag z)).map (· ^^^ flip z) := List.take_left' (by simp)
  rw [enc_len]
  unfold enc
  rw [List.cons_append]
  rw [decI_cons]
  simp only [h1, h2]
  rw [if_neg (by omega), if_neg (by simp), ht, map_xor_xor, val_digs 8 _ (mag_lt' hz)]
  rw [if_neg ?_]
  · have hm := z_of_mag z
    by_cases hn : z < 0
    · rw [if_pos (h3.2 hn)]; rw [if_pos hn] at hm; rw [hm]
    · rw [if_neg (fun h => hn (h3.1 h))]; rw [if_neg hn] at hm; rw [hm]
  · intro h
    rcases h with ⟨hp, hh⟩ | hh
    · cases hd : digs 8 (mag z) with
      | nil => rw [hd] at hp; simp at hp
      | cons c r =>
        rw [hd] at hh
        simp at hh
        have h0 := digs_head 8 _ (mag_lt' hz) c r hd
        apply h0
        have : (c ^^^ flip z) ^^^ flip z = flip z ^^^ flip z := by rw [hh]
        rw [xor_self_byte, UInt8.xor_self] at this
        exact this
    · have := mag_lt hz; omega

set_option maxRecDepth 100000 in
theorem kOf_cases (h : UInt8) : (h < 128 ∧ flipOf h = 255 ∧ h = UInt8.ofNat (128 + kOf h) ^^^ 255) ∨ (¬ h < 128 ∧ flipOf h = 0 ∧ h = UInt8.ofNat (128 + kOf h)) := by
  have H : ∀ h : Fin 256, (UInt8.ofNat h.val < 128 ∧ flipOf (UInt8.ofNat h.val) = 255 ∧ UInt8.ofNat h.val = UInt8.ofNat (128 + kOf (UInt8.ofNat h.val)) ^^^ 255) ∨ (¬ UInt8.ofNat h.val < 128 ∧ flipOf (UInt8.ofNat h.val) = 0 ∧ UInt8.ofNat h.val = UInt8.ofNat (128 + kOf (UInt8.ofNat h.val))) := by decide
  have := H ⟨h.toNat, h.toNat_lt⟩
  simpa using this

/-- P1.6: what is decoded is an encoding -/
theorem enc_dec {l : List UInt8} {n : Int} {u : Nat} (h : decI l = (n, u, 0)) : inI n ∧ u ≤ l.length ∧ 1 ≤ u ∧ u ≤ 9 ∧ l.take u = enc n := by
  cases l with
  | nil => simp [decI] at h
  | cons b t =>
    rw [decI_cons] at h
    by_cases h8 : 8 < kOf b
    · rw [if_pos h8] at h; simp at h
    · rw [if_neg h8] at h
      by_cases hlen : t.length < kOf b
      · rw [if_pos hlen] at h; simp at h
      · rw [if_neg hlen] at h
        split at h
        · simp at h
        · next hbad =>
          simp only [Prod.mk.injEq, and_true] at h
          obtain ⟨hn, hu⟩ := h
          have hb1 : ¬ (0 < kOf b ∧ t.head? = some (flipOf b)) := fun x => hbad (.inl x)
          have hb2 : val ((t.take (kOf b)).map (· ^^^ flipOf b)) ≤ 9223372036854775807 := by omega
          have hd : digs 8 (val ((t.take (kOf b)).map (· ^^^ flipOf b))) = (t.take (kOf b)).map (· ^^^ flipOf b) := by
            apply digs_val
            · simp; omega
            · intro c r e hc
              cases t with
              | nil => simp at e
              | cons d t' =>
                cases hk : kOf b with
                | zero => rw [hk] at e; simp at e
                | succ k' =>
                  rw [hk] at e
                  simp at e
                  apply hb1
                  refine ⟨by omega, ?_⟩
                  simp
                  have : (d ^^^ flipOf b) ^^^ flipOf b = 0 ^^^ flipOf b := by rw [e.1, hc]
                  rw [xor_self_byte] at this
                  rw [this]; simp
          have hlk : (t.take (kOf b)).length = kOf b := by simp; omega
          have hmag : mag n = val ((t.take (kOf b)).map (· ^^^ flipOf b)) := by
            rw [← hn]; unfold mag; split <;> split <;> omega
          have hflip : flip n = flipOf b := by
            rw [← hn]; unfold flip flipOf; split <;> split <;> first | rfl | omega
          refine ⟨?_, by simp only [List.length_cons]; omega, by omega, by omega, ?_⟩
          · rw [← hn]; unfold inI; split <;> omega
          · rw [← hu, Nat.add_comm, List.take_succ_cons]
            unfold enc
            rw [hmag, hd, hflip, map_xor_xor, List.length_map, hlk]
            have hb : b = UInt8.ofNat (128 + kOf b) ^^^ flipOf b := by
              rcases kOf_cases b with ⟨_, hf, he⟩ | ⟨_, hf, he⟩
              · rw [hf]; exact he
              · rw [hf, UInt8.xor_zero]; exact he
            rw [← hb]

/-- an error of decoding comes with zeros -/
theorem decI_err {l : List UInt8} (h : (decI l).2.2 ≠ 0) : decI l = (0, 0, (decI l).2.2) := by
  cases l with
  | nil => rfl
  | cons b t =>
    rw [decI_cons] at h ⊢
    split
    · rfl
    · split
      · rfl
      · split
        · rfl
        · next h1 h2 h3 => rw [if_neg h1, if_neg h2, if_neg h3] at h; simp at h
theorem decI_errs (l : List UInt8) : (decI l).2.2 = 0 ∨ (decI l).2.2 = 2 ∨ (decI l).2.2 = 3 := by
  cases l with
  | nil => simp [decI]
  | cons b t =>
    rw [decI_cons]
    split
    · simp
    · split
      · simp
      · split <;> simp

/-- P1.6: a proper beginning of an encoding yields ErrMore -/
theorem dec_short {z : Int} (i : Nat) (hi : i < (enc z).length) : decI ((enc z).take i) = (0, 0, 3) := by
  cases i with
  | zero => rfl
  | succ i =>
    obtain ⟨h1, h2, h3⟩ := enc_head z
    rw [enc_len] at hi
    unfold enc
    rw [List.take_succ_cons]
    rw [decI_cons]
    have hl := digs_len 8 (mag z)
    rw [h2, if_neg (by omega), if_pos (by simp; omega)]

end Go.Proofs.Ytbcfndhnopmbbaa.Wr
