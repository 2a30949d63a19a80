/-
  Plain mathematics: the order of the encodings of integers is the order of the integers, and no encoding begins another one.
-/
import Derived.Test.YtdjmfjmijpfijaaDec2
import Derived.Laws.Strings
namespace Go.Proofs.Ytdjmfjmijpfijaa
set_option linter.unusedVariables false
set_option linter.unusedSimpArgs false
namespace Wr
theorem bl_cons (a b : UInt8) (x y : List UInt8) : Op.bytesLess (a :: x) (b :: y) = true ↔ a.toNat < b.toNat ∨ (a.toNat = b.toNat ∧ Op.bytesLess x y = true) := by
  simp only [Op.bytesLess, Bool.or_eq_true, Bool.and_eq_true, decide_eq_true_eq, beq_iff_eq, UInt8.lt_iff_toNat_lt, ← UInt8.toNat_inj]

theorem bl_val (x y : List UInt8) (h : x.length = y.length) : Op.bytesLess x y = true ↔ val x < val y := by
  induction x generalizing y with
  | nil => cases y with
    | nil => simp [Op.bytesLess]
    | cons _ _ => simp at h
  | cons a x ih => cases y with
    | nil => simp at h
    | cons b y =>
      simp only [List.length_cons, Nat.add_right_cancel_iff] at h
      rw [bl_cons, ih y h, val_cons, val_cons, ← h]
      have hx := val_lt x
      have hy := val_lt y
      rw [← h] at hy
      generalize 256 ^ x.length = p at *
      rcases Nat.lt_trichotomy a.toNat b.toNat with hab | hab | hab
      · have := Nat.mul_le_mul_right p (Nat.succ_le_of_lt hab)
        rw [Nat.succ_mul] at this
        constructor
        · intro _; omega
        · intro _; exact .inl hab
      · rw [hab]; constructor
        · rintro (h1 | ⟨_, h1⟩) <;> omega
        · intro h1; exact .inr ⟨rfl, by omega⟩
      · have := Nat.mul_le_mul_right p (Nat.succ_le_of_lt hab)
        rw [Nat.succ_mul] at this
        constructor
        · rintro (h1 | ⟨h1, _⟩) <;> omega
        · intro h1; omega

theorem val_flip (x : List UInt8) : val (x.map (· ^^^ 255)) + val x + 1 = 256 ^ x.length := by
  induction x with
  | nil => simp [val]
  | cons c x ih =>
    have hc := c.toNat_lt
    rw [List.map_cons, val_cons, val_cons, xor_toNat, List.length_map, List.length_cons, Nat.pow_succ]
    have : (255 - c.toNat) * 256 ^ x.length + c.toNat * 256 ^ x.length = 255 * 256 ^ x.length := by rw [← Nat.add_mul]; congr 1; omega
    omega

theorem digs_ge {m : Nat} (h : m < 256 ^ 8) (hk : 0 < (digs 8 m).length) : 256 ^ ((digs 8 m).length - 1) ≤ m := by
  cases hd : digs 8 m with
  | nil => rw [hd] at hk; simp at hk
  | cons c r =>
    have hc := digs_head 8 m h c r hd
    have hv := val_digs 8 m h
    rw [hd, val_cons] at hv
    have hc0 : 1 ≤ c.toNat := by
      rcases Nat.eq_zero_or_pos c.toNat with h0 | h0
      · exact absurd (UInt8.toNat_inj.1 (by simpa using h0)) hc
      · exact h0
    have := Nat.mul_le_mul_right (256 ^ r.length) hc0
    simp only [List.length_cons, Nat.add_sub_cancel]
    omega
theorem digs_lt {m : Nat} (h : m < 256 ^ 8) : m < 256 ^ (digs 8 m).length := by
  have := val_lt (digs 8 m)
  rwa [val_digs 8 m h] at this
theorem mag_of_len {m n : Nat} (hm : m < 256 ^ 8) (hn : n < 256 ^ 8) (hl : (digs 8 m).length < (digs 8 n).length) : m < n := by
  have h1 := digs_lt hm
  have h2 := digs_ge hn (by omega)
  have h3 : 256 ^ (digs 8 m).length ≤ 256 ^ ((digs 8 n).length - 1) := Nat.pow_le_pow_right (by omega) (by omega)
  omega

/-- P1.7 of integers -/
theorem enc_less {m n : Int} (hm : inI m) (hn : inI n) : Op.bytesLess (enc m) (enc n) = decide (m < n) := by
  rw [Bool.eq_iff_iff, decide_eq_true_eq]
  have hm1 := mag_lt' hm
  have hn1 := mag_lt' hn
  have hvm := val_digs 8 _ hm1
  have hvn := val_digs 8 _ hn1
  have hlm := digs_len 8 (mag m)
  have hln := digs_len 8 (mag n)
  obtain ⟨hm2, hm3⟩ := head_val _ hlm
  obtain ⟨hn2, hn3⟩ := head_val _ hln
  have l1 := fun h => mag_of_len hm1 hn1 h
  have l2 := fun h => mag_of_len hn1 hm1 h
  have fm := val_flip (digs 8 (mag m))
  have fn := val_flip (digs 8 (mag n))
  have hzm := z_of_mag m
  have hzn := z_of_mag n
  unfold enc
  rw [bl_cons]
  by_cases hm0 : m < 0 <;> by_cases hn0 : n < 0
  · have e1 : flip m = 255 := by simp [flip, hm0]
    have e2 : flip n = 255 := by simp [flip, hn0]
    rw [if_pos hm0] at hzm
    rw [if_pos hn0] at hzn
    rw [e1, e2, hm2, hn2]
    rcases Nat.lt_trichotomy (digs 8 (mag m)).length (digs 8 (mag n)).length with h | h | h
    · have := l1 h
      constructor
      · rintro (h1 | ⟨h1, _⟩) <;> omega
      · intro h1; omega
    · rw [bl_val _ _ (by simpa using h)]
      rw [h] at fm
      constructor
      · rintro (h1 | ⟨_, h1⟩) <;> omega
      · intro h1; exact .inr ⟨by omega, by omega⟩
    · have := l2 h
      constructor
      · intro _; omega
      · intro h1; exact .inl (by omega)
  · have e1 : flip m = 255 := by simp [flip, hm0]
    have e2 : flip n = 0 := by simp [flip, hn0]
    rw [e1, e2, hm2, UInt8.xor_zero, hn3]
    constructor
    · intro _; omega
    · intro _; exact .inl (by omega)
  · have e1 : flip m = 0 := by simp [flip, hm0]
    have e2 : flip n = 255 := by simp [flip, hn0]
    rw [e1, e2, hn2, UInt8.xor_zero, hm3]
    constructor
    · rintro (h1 | ⟨h1, _⟩) <;> omega
    · intro _; omega
  · have e1 : flip m = 0 := by simp [flip, hm0]
    have e2 : flip n = 0 := by simp [flip, hn0]
    rw [if_neg hm0] at hzm
    rw [if_neg hn0] at hzn
    rw [e1, e2, UInt8.xor_zero, UInt8.xor_zero, hm3, hn3, map_xor_zero, map_xor_zero]
    rcases Nat.lt_trichotomy (digs 8 (mag m)).length (digs 8 (mag n)).length with h | h | h
    · have := l1 h
      constructor
      · intro _; omega
      · intro h1; exact .inl (by omega)
    · rw [bl_val _ _ (by simpa using h)]
      constructor
      · rintro (h1 | ⟨_, h1⟩) <;> omega
      · intro h1; exact .inr ⟨by omega, by omega⟩
    · have := l2 h
      constructor
      · rintro (h1 | ⟨h1, _⟩) <;> omega
      · intro h1; omega

/-- no encoding begins another one -/
theorem enc_pre {m n : Int} (hm : inI m) (hn : inI n) {k : Nat} (h : enc m = (enc n).take k) : m = n := by
  have h1 := dec_enc hm ((enc n).drop k)
  rw [h, List.take_append_drop] at h1
  have h2 := dec_enc hn []
  rw [List.append_nil, h1] at h2
  exact congrArg Prod.fst h2
theorem enc_inj {m n : Int} (hm : inI m) (hn : inI n) (h : enc m = enc n) : m = n := enc_pre hm hn (k := (enc n).length) (by rw [List.take_length]; exact h)
end Wr
theorem S_toList (l : List UInt8) : (S l).toList = l := by rw [ByteArray.toList_eq]; rfl
theorem S_take (l : List UInt8) (k : Nat) : (S l).extract 0 k = S (l.take k) := by
  apply ByteArray.ext
  simp [S]

theorem ord_less {m n : Int} (hm : Wr.inI m) (hn : Wr.inI n) : Op.bytesLess (S (Wr.enc m)).toList (S (Wr.enc n)).toList = decide (m < n) := by
  rw [S_toList, S_toList]; exact Wr.enc_less hm hn
theorem ord_eq {m n : Int} (hm : Wr.inI m) (hn : Wr.inI n) : ((S (Wr.enc m)).toList == (S (Wr.enc n)).toList) = (m == n) := by
  rw [S_toList, S_toList, Bool.eq_iff_iff, beq_iff_eq, beq_iff_eq]
  exact ⟨Wr.enc_inj hm hn, fun h => by rw [h]⟩
theorem ord_pre {m n : Int} (hm : Wr.inI m) (hn : Wr.inI n) : ((S (Wr.enc m)).toList == ((S (Wr.enc n)).extract 0 (S (Wr.enc m)).size).toList) = (m == n) := by
  rw [S_take, S_toList, S_toList, Bool.eq_iff_iff, beq_iff_eq, beq_iff_eq]
  exact ⟨fun h => Wr.enc_pre hm hn h, fun h => by rw [h, S_size, List.take_length]⟩
theorem ord_pre' {m n : Int} (hm : Wr.inI m) (hn : Wr.inI n) : (((S (Wr.enc m)).extract 0 (S (Wr.enc n)).size).toList == (S (Wr.enc n)).toList) = (m == n) := by
  rw [S_take, S_toList, S_toList, Bool.eq_iff_iff, beq_iff_eq, beq_iff_eq]
  exact ⟨fun h => (Wr.enc_pre hn hm h.symm).symm, fun h => by rw [h, S_size, List.take_length]⟩
end Go.Proofs.Ytdjmfjmijpfijaa
