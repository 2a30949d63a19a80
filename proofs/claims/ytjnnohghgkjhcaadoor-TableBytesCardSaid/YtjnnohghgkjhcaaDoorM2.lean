/-
  Plain mathematics of the encodings of layer 1: bytes of a number, encodings, decodings, and how they belong together. Nothing here speaks of the program or of memory.
-/
import Derived.Test.YtjnnohghgkjhcaaDoorProg
import Derived.Test.YtjnnohghgkjhcaaDoorM1
import Derived.WalkKit
import Derived.WalkSpells
import Derived.WalkLawsBesides
import Derived.Laws.BitsAllLaws
import Derived.Laws.BytesArg
import Derived.Deep.QuietTactic
import Derived.BigQuiet
import Derived.Deep.DeepFit
import Derived.Deep.LoopGhost
import Derived.WalkSmall
import Derived.Laws.CopyOwn
import Derived.Laws.Tables
import Derived.Deep.MidRow
import Derived.Deep.WholeRow
import Derived.Deep.RegionWith
import Derived.Deep.RegionHeld3
import Derived.WalkMore
import Derived.Lib.AppendStr
import Derived.Laws.Strings
import Derived.Laws.IdiomStrings
import Derived.Deep.DeepCutAuto
import Derived.Deep.Upon
import Derived.IntWalk
namespace Go.Proofs.YtjnnohghgkjhcaaDoor.Wr
set_option linter.unusedVariables false
set_option linter.unusedSimpArgs false
theorem snoc_ind {α : Type} {P : List α → Prop} (h0 : P []) (hs : ∀ l a, P l → P (l ++ [a])) (l : List α) : P l := by
 have h : ∀ r : List α, P r.reverse := fun r => by
  induction r with
  | nil => exact h0
  | cons a r ih => rw [List.reverse_cons]; exact hs _ _ ih
 have := h l.reverse
 rwa [List.reverse_reverse] at this
def digs : Nat → Nat → List UInt8
 | 0, _ => []
 | f + 1, m => if m = 0 then [] else digs f (m / 256) ++ [UInt8.ofNat m]
theorem digs_zero (f : Nat) : digs f 0 = [] := by cases f <;> simp [digs]
theorem digs_len (f m : Nat) : (digs f m).length ≤ f := by
 induction f generalizing m with
 | zero => simp [digs]
 | succ f ih => simp only [digs]; split <;> simp; exact ih _
theorem digs_step (f m : Nat) (h : m ≠ 0) : digs (f + 1) m = digs f (m / 256) ++ [UInt8.ofNat m] := by simp [digs, h]
def val : List UInt8 → Nat := fun l => l.foldl (fun a c => a * 256 + c.toNat) 0
theorem val_snoc (l : List UInt8) (c : UInt8) : val (l ++ [c]) = val l * 256 + c.toNat := by simp [val, List.foldl_append]
theorem val_digs (f m : Nat) (h : m < 256 ^ f) : val (digs f m) = m := by
 induction f generalizing m with
 | zero => simp at h; subst h; rfl
 | succ f ih =>
  simp only [digs]
  split
  ·next h0 => subst h0; rfl
  ·rw [val_snoc, ih (m / 256) (by rw [Nat.div_lt_iff_lt_mul (by omega)]; rw [Nat.pow_succ] at h; exact h)]
   simp only [UInt8.toNat_ofNat']
   omega
theorem digs_head (f m : Nat) (h : m < 256 ^ f) (c : UInt8) (r : List UInt8) (hd : digs f m = c :: r) : c ≠ 0 := by
 induction f generalizing m c r with
 | zero => simp [digs] at hd
 | succ f ih =>
  simp only [digs] at hd
  split at hd
  ·simp at hd
  ·next h0 =>
   have hlt : m / 256 < 256 ^ f := by rw [Nat.div_lt_iff_lt_mul (by omega)]; rw [Nat.pow_succ] at h; exact h
   cases hq : digs f (m / 256) with
   | nil =>
    rw [hq] at hd
    simp at hd
    have hz : m / 256 = 0 := by have := val_digs f (m / 256) hlt; rw [hq] at this; simpa [val] using this.symm
    have hm : m < 256 := by omega
    intro hc
    rw [← hd.1] at hc
    have := congrArg UInt8.toNat hc
    simp only [UInt8.toNat_ofNat'] at this
    have h2 : m % 256 = m := Nat.mod_eq_of_lt hm
    simp at this
    omega
   | cons c' r' =>
    rw [hq] at hd
    simp at hd
    rw [← hd.1]
    exact ih _ hlt c' r' hq
theorem val_lt (l : List UInt8) : val l < 256 ^ l.length := by
 induction l using snoc_ind with
 | h0 => simp [val]
 | hs l c ih =>
  rw [val_snoc, List.length_append, List.length_singleton, Nat.pow_succ]
  have := c.toNat_lt
  omega
theorem val_cons (c : UInt8) (l : List UInt8) : val (c :: l) = c.toNat * 256 ^ l.length + val l := by
 induction l using snoc_ind with
 | h0 => simp [val]
 | hs l d ih =>
  rw [← List.cons_append, val_snoc, ih, val_snoc, List.length_append, List.length_singleton, Nat.pow_succ]
  rw [Nat.add_mul, Nat.mul_assoc, Nat.add_assoc]
theorem digs_val (f : Nat) (l : List UInt8) (hl : l.length ≤ f) (hh : ∀ c r, l = c :: r → c ≠ 0) : digs f (val l) = l := by
 induction f generalizing l with
 | zero => have : l = [] := List.eq_nil_of_length_eq_zero (by omega); subst this; rfl
 | succ f ih =>
  rcases List.eq_nil_or_concat l with rfl | ⟨l', c, rfl⟩
  ·simp [val, digs]
  ·rw [List.concat_eq_append] at hl hh ⊢
   rw [val_snoc]
   have hc := c.toNat_lt
   have hne : val l' * 256 + c.toNat ≠ 0 := by
    intro h0
    cases l' with
    | nil => exact hh c [] rfl (UInt8.toNat_inj.1 (by simp [val] at h0; simpa using h0))
    | cons d r =>
     have hd := hh d (r ++ [c]) rfl
     have h1 : val (d :: r) = 0 := by omega
     rw [val_cons] at h1
     have h2 : d.toNat * 256 ^ r.length = 0 := by omega
     rcases Nat.mul_eq_zero.1 h2 with h3 | h3
     ·exact hd (UInt8.toNat_inj.1 (by simpa using h3))
     ·exact absurd h3 (Nat.pos_iff_ne_zero.1 (Nat.pow_pos (by omega)))
   rw [digs_step _ _ hne]
   have hq : (val l' * 256 + c.toNat) / 256 = val l' := by omega
   rw [hq, ih l' (by simp at hl; omega) (fun d r e => hh d (r ++ [c]) (by rw [e]; rfl))]
   congr 2
   apply UInt8.toNat_inj.1
   simp only [UInt8.toNat_ofNat']
   omega
theorem digs_more (f m : Nat) (h : m < 256 ^ f) : digs (f + 1) m = digs f m := by
 have h1 := digs_val (f + 1) (digs f m) (by have := digs_len f m; omega) (fun c r e => digs_head f m h c r e)
 rw [val_digs f m h] at h1
 exact h1
def flip (z : Int) : UInt8 := if z < 0 then 255 else 0
def mag (z : Int) : Nat := if z < 0 then (-1 - z).toNat else z.toNat
def enc (z : Int) : List UInt8 :=
 (UInt8.ofNat (128 + (digs 8 (mag z)).length) ^^^ flip z) :: (digs 8 (mag z)).map (· ^^^ flip z)
def flipOf (h : UInt8) : UInt8 := if h < 128 then 255 else 0
def kOf (h : UInt8) : Nat := (h ^^^ flipOf h).toNat - 128
def decI : List UInt8 → Int × Nat × Int
 | [] => (0, 0, 3)
 | h :: t =>
  if 8 < kOf h then (0, 0, 2)
  else if t.length < kOf h then (0, 0, 3)
  else
   let m := val ((t.take (kOf h)).map (· ^^^ flipOf h))
   if (0 < kOf h ∧ t.head? = some (flipOf h)) ∨ 9223372036854775807 < m then (0, 0, 2)
   else (if h < 128 then -1 - (m : Int) else (m : Int), 1 + kOf h, 0)
theorem decI_cons (h : UInt8) (t : List UInt8) : decI (h :: t) =
  if 8 < kOf h then (0, 0, 2)
  else if t.length < kOf h then (0, 0, 3)
  else if (0 < kOf h ∧ t.head? = some (flipOf h)) ∨ 9223372036854775807 < val ((t.take (kOf h)).map (· ^^^ flipOf h)) then (0, 0, 2)
  else (if h < 128 then -1 - (val ((t.take (kOf h)).map (· ^^^ flipOf h)) : Int) else (val ((t.take (kOf h)).map (· ^^^ flipOf h)) : Int), 1 + kOf h, 0) := rfl
def inI (z : Int) : Prop := -9223372036854775808 ≤ z ∧ z ≤ 9223372036854775807
theorem mag_lt {z : Int} (h : inI z) : mag z < 9223372036854775808 := by unfold mag inI at *; split <;> omega
theorem mag_lt' {z : Int} (h : inI z) : mag z < 256 ^ 8 := Nat.lt_of_lt_of_le (mag_lt h) (by decide)
theorem xor_self_byte (a f : UInt8) : (a ^^^ f) ^^^ f = a := by rw [UInt8.xor_assoc, UInt8.xor_self, UInt8.xor_zero]
theorem map_xor_xor (l : List UInt8) (f : UInt8) : (l.map (· ^^^ f)).map (· ^^^ f) = l := by
 rw [List.map_map]
 conv => rhs; rw [← List.map_id l]
 apply List.map_congr_left
 intro a _
 exact xor_self_byte a f
theorem small9 (k : Nat) (hk : k ≤ 8) : flipOf (UInt8.ofNat (128 + k) ^^^ 255) = 255 ∧ kOf (UInt8.ofNat (128 + k) ^^^ 255) = k ∧ (UInt8.ofNat (128 + k) ^^^ 255) < 128 ∧
  flipOf (UInt8.ofNat (128 + k)) = 0 ∧ kOf (UInt8.ofNat (128 + k)) = k ∧ ¬ (UInt8.ofNat (128 + k)) < 128 := by
 have h : ∀ k : Fin 9, flipOf (UInt8.ofNat (128 + k.val) ^^^ 255) = 255 ∧ kOf (UInt8.ofNat (128 + k.val) ^^^ 255) = k.val ∧ (UInt8.ofNat (128 + k.val) ^^^ 255) < 128 ∧
  flipOf (UInt8.ofNat (128 + k.val)) = 0 ∧ kOf (UInt8.ofNat (128 + k.val)) = k.val ∧ ¬ (UInt8.ofNat (128 + k.val)) < 128 := by decide
 exact h ⟨k, by omega⟩
theorem enc_head (z : Int) : flipOf (UInt8.ofNat (128 + (digs 8 (mag z)).length) ^^^ flip z) = flip z ∧ kOf (UInt8.ofNat (128 + (digs 8 (mag z)).length) ^^^ flip z) = (digs 8 (mag z)).length ∧
  ((UInt8.ofNat (128 + (digs 8 (mag z)).length) ^^^ flip z) < 128 ↔ z < 0) := by
 have hl := digs_len 8 (mag z)
 obtain ⟨a, b, c, d, e, f⟩ := small9 _ hl
 unfold flip
 split
 ·next hz => exact ⟨a, b, fun _ => hz, fun _ => c⟩
 ·next hz => rw [UInt8.xor_zero]; exact ⟨d, e, fun h => absurd h f, fun h => absurd h hz⟩
theorem enc_len (z : Int) : (enc z).length = 1 + (digs 8 (mag z)).length := by simp [enc]; omega
theorem enc_pos (z : Int) : 1 ≤ (enc z).length := by rw [enc_len]; omega
theorem enc_le (z : Int) : (enc z).length ≤ 9 := by rw [enc_len]; have := digs_len 8 (mag z); omega
theorem z_of_mag (z : Int) : (if z < 0 then -1 - (mag z : Int) else (mag z : Int)) = z := by unfold mag; split <;> omega
theorem dec_enc {z : Int} (hz : inI z) (tail : List UInt8) : decI (enc z ++ tail) = (z, (enc z).length, 0) := by
 obtain ⟨h1, h2, h3⟩ := enc_head z
 have hl := digs_len 8 (mag z)
 have ht : (((digs 8 (mag z)).map (· ^^^ flip z) ++ tail).take (digs 8 (mag z)).length) = (digs 8 (mag z)).map (· ^^^ flip z) := List.take_left' (by simp)
 rw [enc_len]
 unfold enc
 rw [List.cons_append]
 rw [decI_cons]
 simp only [h1, h2]
 rw [if_neg (by omega), if_neg (by simp), ht, map_xor_xor, val_digs 8 _ (mag_lt' hz)]
 rw [if_neg ?_]
 ·have hm := z_of_mag z
  by_cases hn : z < 0
  ·rw [if_pos (h3.2 hn)]; rw [if_pos hn] at hm; rw [hm]
  ·rw [if_neg (fun h => hn (h3.1 h))]; rw [if_neg hn] at hm; rw [hm]
 ·intro h
  rcases h with ⟨hp, hh⟩ | hh
  ·cases hd : digs 8 (mag z) with
   | nil => rw [hd] at hp; simp at hp
   | cons c r =>
    rw [hd] at hh
    simp at hh
    have h0 := digs_head 8 _ (mag_lt' hz) c r hd
    apply h0
    have : (c ^^^ flip z) ^^^ flip z = flip z ^^^ flip z := by rw [hh]
    rw [xor_self_byte, UInt8.xor_self] at this
    exact this
  ·have := mag_lt hz; omega
set_option maxRecDepth 100000 in
theorem kOf_cases (h : UInt8) : (h < 128 ∧ flipOf h = 255 ∧ h = UInt8.ofNat (128 + kOf h) ^^^ 255) ∨ (¬ h < 128 ∧ flipOf h = 0 ∧ h = UInt8.ofNat (128 + kOf h)) := by
 have H : ∀ h : Fin 256, (UInt8.ofNat h.val < 128 ∧ flipOf (UInt8.ofNat h.val) = 255 ∧ UInt8.ofNat h.val = UInt8.ofNat (128 + kOf (UInt8.ofNat h.val)) ^^^ 255) ∨ (¬ UInt8.ofNat h.val < 128 ∧ flipOf (UInt8.ofNat h.val) = 0 ∧ UInt8.ofNat h.val = UInt8.ofNat (128 + kOf (UInt8.ofNat h.val))) := by decide
 have := H ⟨h.toNat, h.toNat_lt⟩
 simpa using this
theorem enc_dec {l : List UInt8} {n : Int} {u : Nat} (h : decI l = (n, u, 0)) : inI n ∧ u ≤ l.length ∧ 1 ≤ u ∧ u ≤ 9 ∧ l.take u = enc n := by
 cases l with
 | nil => simp [decI] at h
 | cons b t =>
  rw [decI_cons] at h
  by_cases h8 : 8 < kOf b
  ·rw [if_pos h8] at h; simp at h
  ·rw [if_neg h8] at h
   by_cases hlen : t.length < kOf b
   ·rw [if_pos hlen] at h; simp at h
   ·rw [if_neg hlen] at h
    split at h
    ·simp at h
    ·next hbad =>
     simp only [Prod.mk.injEq, and_true] at h
     obtain ⟨hn, hu⟩ := h
     have hb1 : ¬ (0 < kOf b ∧ t.head? = some (flipOf b)) := fun x => hbad (.inl x)
     have hb2 : val ((t.take (kOf b)).map (· ^^^ flipOf b)) ≤ 9223372036854775807 := by omega
     have hd : digs 8 (val ((t.take (kOf b)).map (· ^^^ flipOf b))) = (t.take (kOf b)).map (· ^^^ flipOf b) := by
      apply digs_val
      ·simp; omega
      ·intro c r e hc
       cases t with
       | nil => simp at e
       | cons d t' =>
        cases hk : kOf b with
        | zero => rw [hk] at e; simp at e
        | succ k' =>
         rw [hk] at e
         simp at e
         apply hb1
         refine ⟨by omega, ?_⟩
         simp
         have : (d ^^^ flipOf b) ^^^ flipOf b = 0 ^^^ flipOf b := by rw [e.1, hc]
         rw [xor_self_byte] at this
         rw [this]; simp
     have hlk : (t.take (kOf b)).length = kOf b := by simp; omega
     have hmag : mag n = val ((t.take (kOf b)).map (· ^^^ flipOf b)) := by
      rw [← hn]; unfold mag; split <;> split <;> omega
     have hflip : flip n = flipOf b := by
      rw [← hn]; unfold flip flipOf; split <;> split <;> first | rfl | omega
     refine ⟨?_, by simp only [List.length_cons]; omega, by omega, by omega, ?_⟩
     ·rw [← hn]; unfold inI; split <;> omega
     ·rw [← hu, Nat.add_comm, List.take_succ_cons]
      unfold enc
      rw [hmag, hd, hflip, map_xor_xor, List.length_map, hlk]
      have hb : b = UInt8.ofNat (128 + kOf b) ^^^ flipOf b := by
       rcases kOf_cases b with ⟨_, hf, he⟩ | ⟨_, hf, he⟩
       ·rw [hf]; exact he
       ·rw [hf, UInt8.xor_zero]; exact he
      rw [← hb]
theorem decI_err {l : List UInt8} (h : (decI l).2.2 ≠ 0) : decI l = (0, 0, (decI l).2.2) := by
 cases l with
 | nil => rfl
 | cons b t =>
  rw [decI_cons] at h ⊢
  split
  ·rfl
  ·split
   ·rfl
   ·split
    ·rfl
    ·next h1 h2 h3 => rw [if_neg h1, if_neg h2, if_neg h3] at h; simp at h
theorem decI_errs (l : List UInt8) : (decI l).2.2 = 0 ∨ (decI l).2.2 = 2 ∨ (decI l).2.2 = 3 := by
 cases l with
 | nil => simp [decI]
 | cons b t =>
  rw [decI_cons]
  split
  ·simp
  ·split
   ·simp
   ·split <;> simp
theorem dec_short {z : Int} (i : Nat) (hi : i < (enc z).length) : decI ((enc z).take i) = (0, 0, 3) := by
 cases i with
 | zero => rfl
 | succ i =>
  obtain ⟨h1, h2, h3⟩ := enc_head z
  rw [enc_len] at hi
  unfold enc
  rw [List.take_succ_cons]
  rw [decI_cons]
  have hl := digs_len 8 (mag z)
  rw [h2, if_neg (by omega), if_pos (by simp; omega)]
end Go.Proofs.YtjnnohghgkjhcaaDoor.Wr
namespace Go.Proofs.YtjnnohghgkjhcaaDoor
open Go.RowKit
set_option linter.unusedVariables false
set_option linter.unusedSimpArgs false
set_option linter.unusedVariables false
set_option linter.unusedSimpArgs false
def BV (l : List UInt8) : List Value := l.map fun c => .int .u8 (c.toNat : Int)
theorem BV_len (l : List UInt8) : (BV l).length = l.length := by simp [BV]
theorem BV_get (l : List UInt8) (i : Nat) (h : i < l.length) : (BV l)[i]? = some (.int .u8 ((l[i]'h).toNat : Int)) := by simp [BV, h]
theorem BV_append (a b : List UInt8) : BV (a ++ b) = BV a ++ BV b := by simp [BV]
theorem xor_byte (a b : UInt8) : bits .xor .u8 (a.toNat : Int) (b.toNat : Int) = ((a ^^^ b).toNat : Int) := by
 rw [u8_xor_nat _ _ a.toNat_lt b.toNat_lt, UInt8.toNat_xor]
theorem reads_cell {w : World} {B n : Nat} {ad : Addr} {l : List UInt8} (hr : Reads w B 1 (some ad) n (BV l)) (i : Nat) (hi : i < l.length) : w.cell? (ad.add i) = some (.int .u8 ((l[i]'hi).toNat : Int)) := by
 have hn : l.length = n := by have := hr.1; simp [BV] at this; omega
 obtain ⟨ad', u, e, _, hx, hcc⟩ := hr.at_ (k := i) (by omega)
 injection e with e; subst e
 rw [BV_get l i hi] at hx
 rw [hcc, ← hx]
theorem reads_far {w : World} {B n : Nat} {ad : Addr} {l : List UInt8} (hr : Reads w B 1 (some ad) n (BV l)) (i : Nat) (hi : i + 1 < l.length) : w.cell? ⟨ad.block, ad.off + 1 + i, none⟩ = some (.int .u8 ((l[i + 1]'hi).toNat : Int)) := by
 have := reads_cell hr (i + 1) hi
 unfold Addr.add at this
 rw [if_neg (by omega)] at this
 rw [← this, Nat.add_assoc, Nat.add_comm 1 i]
def S (l : List UInt8) : ByteArray := ⟨l.toArray⟩
theorem S_size (l : List UInt8) : (S l).size = l.length := rfl
theorem S_inj {a b : List UInt8} (h : S a = S b) : a = b := by
 have := congrArg (fun s : ByteArray => s.data.toList) h
 exact this
theorem S_nil : S [] = ByteArray.empty := rfl
theorem S_of (s : ByteArray) : S s.data.toList = s := by simp [S]
theorem run_conv_reads {P : Program} {w : World} {B n : Nat} {A : Option Addr} {l : List UInt8} (hr : Reads w B 1 A n (BV l)) (src dst e : TypeId) (c : Nat) (hs : P.underlying src = some (.slice e)) (he : P.underlying e = some (.int .u8)) (hd : P.underlying dst = some .string) :
  (convert src dst (.slice A n c)).run P w = .ok (.string (S l)) w := by
 have hn : n = l.length := by have := hr.1; simp [BV] at this; omega
 rcases A with _ | ad
 ·have h0 : n = 0 := by
   rcases Nat.eq_zero_or_pos n with h | h
   ·exact h
   ·obtain ⟨_, e, _⟩ := hr.2 h
    cases e
  have : l = [] := List.eq_nil_of_length_eq_zero (by omega)
  subst this
  rw [S_nil]
  exact run_convert_bytes_nil w src e hs he n c dst hd
 ·have hl : (loadCells ad n).run P w = .ok ((l.map fun c => (c.toNat : Int)).map (Value.int .u8)).toArray w := by
   have := run_loadCells_list (P := P) w ad (BV l) (fun j v hj => by
    rcases Nat.eq_zero_or_pos n with h | h
    ·have : l = [] := List.eq_nil_of_length_eq_zero (by omega)
     subst this
     simp [BV] at hj
    ·obtain ⟨ad', e, _, hc⟩ := hr.2 h
     injection e with e
     subst e
     exact hc j v hj)
   rw [BV_len, ← hn] at this
   rw [this]
   simp [BV]
  rw [run_convert_bytes_string w src dst e _ n c hs he hd, run_bytesToString w _ n c _ hl, foldl_push_bytes]
  simp [S, ByteArray.empty, ByteArray.emptyWithCapacity]
  congr 1
  conv => rhs; rw [← List.map_id l]
  apply List.map_congr_left
  intro a _
  simp
theorem reads_sub {w : World} {B n : Nat} {ad : Addr} {l : List UInt8} (hr : Reads w B 1 (some ad) n (BV l)) (u z : Nat) (h : u + z ≤ n) : Reads w B 1 (some (ad.add u)) z (BV ((l.drop u).take z)) := by
 have hn : n = l.length := by have := hr.1; simp [BV] at this; omega
 refine ⟨by simp [BV]; omega, fun hz => ?_⟩
 obtain ⟨ad', e, hb, hc⟩ := hr.2 (by omega)
 injection e with e
 subst e
 refine ⟨_, rfl, by rw [block_of_add]; exact hb, fun j v hj => ?_⟩
 rw [add_of_add]
 apply hc
 rw [← hj]
 unfold BV
 rw [List.getElem?_map, List.getElem?_map]
 have hjz : j < z := by
  rcases Nat.lt_or_ge j z with h | h
  ·exact h
  ·rw [List.getElem?_eq_none (by simp [BV]; omega)] at hj; cases hj
 rw [List.getElem?_take_of_lt hjz, List.getElem?_drop]
theorem reads_zero (w : World) (B : Nat) (A : Option Addr) : Reads w B 1 A 0 (BV []) := ⟨by simp [BV], fun h => absurd h (by omega)⟩
theorem reads_rest {w : World} {B n : Nat} {ad : Addr} {l : List UInt8} (hr : Reads w B 1 (some ad) n (BV l)) (used : Nat) (hun : used ≤ n) : Reads w B 1 (some (ad.add used)) (n - used) (BV (l.drop used)) := by
 have hn : n = l.length := by have := hr.1; simp [BV] at this; omega
 have := reads_sub hr used (n - used) (by omega)
 rwa [List.take_of_length_le (by simp; omega)] at this
theorem own_lower {w : World} {b b' e size n : Nat} {v : Value} {xs : List Value} (h : w.ownsRow b e size v n xs) (hb : b' ≤ b) : w.ownsRow b' e size v n xs := by
 refine ⟨h.1, ?_⟩
 rcases h.2 with h | ⟨g, cap, cur, h1, h2, h3⟩
 ·exact .inl h
 ·exact .inr ⟨g, cap, cur, h1, by omega, h3⟩
theorem own_drewN {w : World} {b e size n : Nat} {v : Value} {xs : List Value} (h : w.ownsRow b e size v n xs) (m : Nat) : (w.drewN m).ownsRow b e size v n xs := h
def VS (l : List UInt8) : Value := .string (S l)
def filled (z k : Nat) (f : List Value) (zero : Value) : List Value := f ++ List.replicate (z - k) zero
theorem filled_set (z k : Nat) (f : List Value) (zero v : Value) (hf : f.length = k) (hk : k < z) : (filled z k f zero).set k v = filled z (k + 1) (f ++ [v]) zero := by
 unfold filled
 rw [List.set_append_right _ _ (by omega), hf, Nat.sub_self]
 obtain ⟨d, hd⟩ : ∃ d, z - k = d + 1 := ⟨z - k - 1, by omega⟩
 rw [hd, List.replicate_succ, List.set_cons_zero, show z - (k + 1) = d by omega]
 simp
theorem filled_get (z k : Nat) (f : List Value) (zero : Value) (hf : f.length = k) (hk : k < z) : (filled z k f zero)[k]? = some zero := by
 unfold filled
 rw [List.getElem?_append_right (by omega), hf, Nat.sub_self, List.getElem?_replicate, if_pos (by omega)]
theorem filled_full (z : Nat) (f : List Value) (zero : Value) : filled z z f zero = f := by simp [filled]
theorem byteSize : (Tryd.prog.info? 5).map (·.size) = some 1 := by kernel_rfl
theorem BV_one (l : List UInt8) : ∀ v ∈ BV l, v.oneCell' = true := by
 intro v hv
 simp only [BV, List.mem_map] at hv
 obtain ⟨c, _, rfl⟩ := hv
 rfl
theorem reads_cells {w : World} {B n : Nat} {ad : Addr} {l : List UInt8} (hr : Reads w B 1 (some ad) n (BV l)) (m : Nat) : ∀ j v, (BV (l.take m))[j]? = some v → w.cell? (ad.add j) = some v := by
 intro j v hj
 unfold BV at hj
 rw [List.getElem?_map] at hj
 have hjm : j < m := by
  rcases Nat.lt_or_ge j m with h | h
  ·exact h
  ·rw [List.getElem?_eq_none (by simp; omega)] at hj; simp at hj
 rw [List.getElem?_take_of_lt hjm] at hj
 have hjl : j < l.length := by
  rcases Nat.lt_or_ge j l.length with h | h
  ·exact h
  ·rw [List.getElem?_eq_none h] at hj; simp at hj
 rw [reads_cell hr j hjl]
 rw [List.getElem?_eq_getElem hjl] at hj
 simpa using hj
theorem wpList_copy_stop {P : Program} {w : World} {ops : Array Oper} {rest : List Oper} {o : Oper} {a : Act} {Q : Exit → Act → World → Prop} (hgd : o.guard = none) (d s : Operand) (dT sT : TypeId)
  (ho : o.op = .call { callee := .builtin .copy, args := #[d, s], argTypes := #[dT, sT] }) (elem : TypeId) (hu : P.underlying dT = some (.slice elem)) (hsz : (P.info? elem).map (·.size) = some 1)
  (g off dLen dCap : Nat) (ad : Addr) (sLen sCap : Nat) (hd : a.eval d = .slice (some ⟨g, off, none⟩) dLen dCap) (hs : a.eval s = .slice (some ad) sLen sCap)
  (cur : Array Value) (t : TypeId) (hg : w.heap[g]? = some (.cells cur t (0, 0))) (cs : List Value) (hn : cs.length = Nat.min sLen dLen)
  (hsrc : ∀ j v, cs[j]? = some v → w.cell? (ad.add j) = some v) (hfit : off + cs.length ≤ cur.size) (h1 : ∀ v ∈ cs, v.oneCell' = true)
  (h : ∀ w', Hid (w.setRow g (cur.toList.take off ++ (cs ++ cur.toList.drop (off + cs.length))).toArray = w') → wpList P ops Q rest (a.put o.dst (goInt cs.length)) w') : wpList P ops Q (o :: rest) a w :=
 wpList_copy_own hgd d s dT sT ho elem hu hsz g off dLen dCap ad sLen sCap hd hs cur t hg cs hn hsrc hfit h1 (h _ rfl)
theorem below_setCells {B b : Nat} {w0 : World} (hb : B ≤ b) (cs : List Value) (o : Nat) (w : World) (h : Below B w0 w) : Below B w0 (w.setCells b o cs) := by
 induction cs generalizing o w with
 | nil => exact h
 | cons v r ih => exact ih _ _ (h.setCell (by exact hb) _)
theorem Blk.farCells {w : World} {g b : Nat} {t : TypeId} {cs : Array Value} (vs : List Value) (o : Nat) (h : Blk w g t cs) (hne : g ≠ b) : Blk (w.setCells b o vs) g t cs := by
 induction vs generalizing o w with
 | nil => exact h
 | cons v r ih => exact ih _ (h.far (p := ⟨b, o, none⟩) hne v)
theorem Blk.otherRow {w : World} {g b : Nat} {t : TypeId} {cs : Array Value} (h : Blk w g t cs) (hne : g ≠ b) (vs : Array Value) : Blk (w.setRow b vs) g t cs := (setRow_other w b g vs hne).trans h
namespace Wr
def encB (s : List UInt8) : List UInt8 := enc s.length ++ s
def encL {α : Type} (e : α → List UInt8) (l : List α) : List UInt8 := l.flatMap e
theorem encL_nil {α : Type} (e : α → List UInt8) : encL e [] = [] := rfl
theorem encL_snoc {α : Type} (e : α → List UInt8) (l : List α) (x : α) : encL e (l ++ [x]) = encL e l ++ e x := by simp [encL, List.flatMap_append]
theorem encL_take {α : Type} (e : α → List UInt8) (l : List α) (k : Nat) (h : k < l.length) : encL e (l.take (k + 1)) = encL e (l.take k) ++ e l[k] := by
 rw [List.take_succ_eq_append_getElem h, encL_snoc]
theorem encL_take_le {α : Type} (e : α → List UInt8) (l : List α) (k : Nat) : (encL e (l.take k)).length ≤ (encL e l).length := by
 have h : encL e l = encL e (l.take k) ++ encL e (l.drop k) := by
  conv => lhs; rw [← List.take_append_drop k l]
  unfold encL
  rw [List.flatMap_append]
 rw [h, List.length_append]
 exact Nat.le_add_right _ _
theorem encB_len (s : List UInt8) : (encB s).length = (enc s.length).length + s.length := by simp [encB]
set_option maxRecDepth 100000 in
theorem xor_toNat (c : UInt8) : (c ^^^ 255).toNat = 255 - c.toNat := by
 have H : ∀ c : Fin 256, (UInt8.ofNat c.val ^^^ 255).toNat = 255 - c.val := by decide
 have := H ⟨c.toNat, c.toNat_lt⟩
 simpa using this
theorem head_val (k : Nat) (hk : k ≤ 8) : (UInt8.ofNat (128 + k) ^^^ 255).toNat = 127 - k ∧ (UInt8.ofNat (128 + k)).toNat = 128 + k := by
 have h : ∀ k : Fin 9, (UInt8.ofNat (128 + k.val) ^^^ 255).toNat = 127 - k.val ∧ (UInt8.ofNat (128 + k.val)).toNat = 128 + k.val := by decide
 exact h ⟨k, by omega⟩
theorem map_xor_zero (x : List UInt8) : x.map (· ^^^ (0 : UInt8)) = x := by
 conv => rhs; rw [← List.map_id x]
 apply List.map_congr_left
 intro a _
 simp
end Wr
theorem own_slice {w : World} {b e size n : Nat} {v : Value} {xs : List Value} (h : w.ownsRow b e size v n xs) : ∃ A c, v = .slice A n c ∧ n ≤ c ∧ (A = none → n = 0) := by
 rcases h.2 with ⟨rfl, rfl⟩ | ⟨g, cap, cur, rfl, _, _, hc, _⟩
 ·exact ⟨none, 0, rfl, Nat.le_refl _, fun _ => rfl⟩
 ·exact ⟨_, _, rfl, hc, fun h => by cases h⟩
theorem reads_item {w : World} {B n : Nat} {A : Option Addr} {xs : List Value} (hr : Reads w B 1 A n xs) (k : Nat) (hk : k < n) : ∃ ad, A = some ad ∧ ∃ hx : k < xs.length, w.cell? (ad.add k) = some xs[k] := by
 obtain ⟨ad, u, rfl, _, hx, hc⟩ := hr.at_ hk
 have hl : k < xs.length := by have := hr.1; omega
 rw [List.getElem?_eq_getElem hl] at hx
 injection hx with hx
 subst hx
 exact ⟨ad, rfl, hl, hc⟩
set_option linter.unusedVariables false
set_option linter.unusedSimpArgs false
theorem byteInfo : (Tryd.prog.info? 5).map (fun i => (i.zero, i.size, i.bytes)) = some (some (.int .u8 0), 1, 1) := by kernel_rfl
structure Onto (base : Nat) (w : World) (v : Value) (w' : World) (v' : Value) (n : Nat) (xs : List Value) : Prop where
 own : w'.ownsRow base 5 1 v' n xs
 grow : w.grownBy w' v.ownBlock
 at_ : v'.ownBlock = v.ownBlock ∨ ∃ k, v'.ownBlock = some k ∧ w.heap.size ≤ k
theorem Onto.refl {base : Nat} {w : World} {v : Value} {n : Nat} {xs : List Value} (h : w.ownsRow base 5 1 v n xs) : Onto base w v w v n xs := ⟨h, World.grownBy.refl w _, .inl rfl⟩
theorem Onto.trans {base : Nat} {w w1 w2 : World} {v v1 v2 : Value} {n1 n2 : Nat} {xs1 xs2 : List Value} (h : Onto base w v w1 v1 n1 xs1) (k : Onto base w1 v1 w2 v2 n2 xs2) : Onto base w v w2 v2 n2 xs2 := by
 refine ⟨k.own, ⟨k.grow.os.trans h.grow.os, k.grow.tape.trans h.grow.tape, k.grow.output.trans h.grow.output, Nat.le_trans h.grow.size k.grow.size, fun i hi hne => ?_⟩, ?_⟩
 ·have hs := h.grow.size
  refine (k.grow.block i (by omega) ?_).trans (h.grow.block i hi hne)
  rcases h.at_ with e | ⟨g, e, hg⟩
  ·rw [e]; exact hne
  ·rw [e]; intro he; injection he with he; omega
 ·have hs := h.grow.size
  rcases k.at_ with e | ⟨g, e, hg⟩
  ·rcases h.at_ with e' | ⟨g', e', hg'⟩
   ·exact .inl (e.trans e')
   ·exact .inr ⟨g', e.trans e', hg'⟩
  ·exact .inr ⟨g, e, by omega⟩
theorem Onto.alloc {base : Nat} {w w1 : World} {v v1 : Value} {n : Nat} {xs : List Value} (h : Onto base w v w1 v1 n xs) (o : Obj) : Onto base w v (w1.alloc o) v1 n xs :=
 ⟨h.own.alloc o, only_alloc h.grow o, h.at_⟩
theorem Onto.append {base : Nat} {w w1 w2 : World} {v v1 v2 : Value} {n m : Nat} {xs news : List Value} (h : Onto base w v w1 v1 n xs) (h1 : w2.ownsRow base 5 1 v2 (n + m) (xs ++ news)) (h2 : w1.grownBy w2 v1.ownBlock)
  (h3 : v2.ownBlock = v1.ownBlock ∨ v2.ownBlock = some w1.heap.size) : Onto base w v w2 v2 (n + m) (xs ++ news) :=
 h.trans ⟨h1, h2, h3.elim .inl fun e => .inr ⟨_, e, Nat.le_refl _⟩⟩
theorem Onto.form {base : Nat} {w w1 : World} {v v1 : Value} {n : Nat} {xs : List Value} (h : Onto base w v w1 v1 n xs) (hn : 0 < n) : ∃ g cap, v1 = .slice (some ⟨g, 0, none⟩) n cap ∧ n ≤ cap := by
 rcases h.own.2 with ⟨_, h0⟩ | ⟨g, cap, cur, hv, _, _, hc, _⟩
 ·omega
 ·exact ⟨g, cap, hv, hc⟩
theorem reads_new (w : World) (v : Value) (t : TypeId) : Reads (w.alloc (.cells #[v] t)) (w.alloc (.cells #[v] t)).heap.size 1 (some ⟨w.heap.size, 0, none⟩) 1 [v] := by
 refine ⟨rfl, fun _ => ⟨_, rfl, by simp, fun j u hj => ?_⟩⟩
 cases j with
 | zero =>
  simp at hj
  subst hj
  show (w.alloc (.cells #[v] t)).cell? ⟨w.heap.size, 0, none⟩ = _
  rw [World.cell?_alloc_at _ _ _ _ rfl]; rfl
 | succ j => simp at hj
set_option linter.unusedVariables false
set_option linter.unusedSimpArgs false
theorem below_grown {base : Nat} {w w' : World} {e : TypeId} {size n : Nat} {v : Value} {xs : List Value} (h : w.grownBy w' v.ownBlock) (ho : w.ownsRow base e size v n xs) (hb : base ≤ w.heap.size) : Below base w w' :=
 (Below.refl _ _).grown h hb (fun k hk => (ho.lt k hk).1)
set_option linter.unusedVariables false
set_option linter.unusedSimpArgs false
theorem conv_own {w : World} {b n : Nat} {v : Value} {l : List UInt8} (h : w.ownsRow b 5 1 v n (BV l)) {W : World} (hW : Below w.heap.size w W) :
  (convert 23 9 v).run Tryd.prog W = .ok (.string (S l)) W := by
 obtain ⟨A, c, rfl, _, _⟩ := own_slice h
 exact run_conv_reads (P := Tryd.prog) ((Reads.of_own h).below hW) _ _ _ _ Tryd.underlying23 Tryd.underlying5 Tryd.underlying9
theorem own_form {w : World} {b n : Nat} {v : Value} {xs : List Value} (h : w.ownsRow b 5 1 v n xs) (hn : 0 < n) : ∃ g cap, v = .slice (some ⟨g, 0, none⟩) n cap ∧ n ≤ cap ∧ Reads w w.heap.size 1 (some ⟨g, 0, none⟩) n xs := by
 obtain ⟨A, c, rfl, hnc, _⟩ := own_slice h
 obtain ⟨g, cap, hv, _, _⟩ := h.form hn
 injection hv with h1 h2 h3
 subst h1
 exact ⟨g, c, rfl, hnc, Reads.of_own h⟩
theorem own_below {w w' : World} {b e size n : Nat} {v : Value} {xs : List Value} (h : w.ownsRow b e size v n xs) (hb : Below w.heap.size w w') : w'.ownsRow b e size v n xs := by
 refine ⟨h.1, ?_⟩
 rcases h.2 with h0 | ⟨g, cap, cur, h1, h2, h3, h4⟩
 ·exact .inl h0
 ·refine .inr ⟨g, cap, cur, h1, h2, ?_, h4⟩
  have hg : g < w.heap.size := by
   rcases Nat.lt_or_ge g w.heap.size with h | h
   ·exact h
   ·rw [Array.getElem?_eq_none h] at h3; cases h3
  rw [hb.block g hg]; exact h3
theorem own_empty (w : World) : (w.alloc (.cells #[] 5)).ownsRow w.heap.size 5 1 (.slice (some ⟨w.heap.size, 0, none⟩) 0 0) 0 [] :=
 ⟨rfl, .inr ⟨w.heap.size, 0, #[], rfl, Nat.le_refl _, heap_alloc_new w _, Nat.le_refl _, by unfold maxLen; omega, rfl, rfl⟩⟩
theorem below_alloc (w : World) (o : Obj) : Below w.heap.size w (w.alloc o) := ⟨rfl, rfl, rfl, by simp, fun k hk => Below.heap_alloc w o k hk⟩
theorem below_then {a b c : World} (h : Below a.heap.size a b) (k : Below b.heap.size b c) : Below a.heap.size a c := h.trans (k.mono h.size)
theorem below_drawn {w w' : World} (h : Below w.drew.heap.size w.drew w') : Below w.heap.size w w' := ⟨h.os, h.tape, h.output, h.size, h.block⟩
theorem below_alloc' {B : Nat} (w : World) (o : Obj) (h : B ≤ w.heap.size) : Below B w (w.alloc o) := (below_alloc w o).mono h
set_option linter.unusedVariables false
set_option linter.unusedSimpArgs false
theorem conv_bytes (s : List UInt8) (W : World) : ∃ A c w', (convert 9 23 (.string (S s))).run Tryd.prog W = .ok (.slice (some A) (S s).size c) w' ∧ Reads w' w'.heap.size 1 (some A) (S s).size (BV s) ∧ Below W.heap.size W w' := by
 refine ⟨_, _, _, run_bytes_of_string W 9 23 5 (S s) Tryd.underlying9 Tryd.underlying23 Tryd.underlying5, ⟨by rw [BV_len, Nat.mul_one]; rfl, fun _ => ⟨_, rfl, by simp, fun j u hj => ?_⟩⟩, ⟨rfl, rfl, rfl, by simp, fun k hk => ?_⟩⟩
 ·rw [show ((⟨W.heap.size, 0, none⟩ : Addr).add j) = ⟨W.heap.size, j, none⟩ by simp [Addr.add]; intro h; omega]
  have hjl : j < s.length := by
   rcases Nat.lt_or_ge j s.length with h | h
   ·exact h
   ·rw [List.getElem?_eq_none (by rw [BV_len]; exact h)] at hj; cases hj
  refine (cell_of_row _ W.heap.size j _ 5 _ (show (World.alloc W.drew _).heap[W.heap.size]? = some _ from Array.getElem?_push_size)).trans ?_
  rw [bytesRow_at (S s) _ j (by simpa [S] using hjl)]
  rw [BV_get s j hjl] at hj
  simpa [S] using hj
 ·exact Below.heap_alloc W.drew _ k hk
end Go.Proofs.YtjnnohghgkjhcaaDoor
namespace Go.Proofs.YtjnnohghgkjhcaaDoor
open Go.RowKit
set_option linter.unusedVariables false
set_option linter.unusedSimpArgs false
def dg (f : UInt8) (m i : Nat) : List UInt8 := (Wr.digs i (m / 256 ^ (8 - i))).map (· ^^^ f)
theorem dg_len (f : UInt8) (m i : Nat) : (dg f m i).length ≤ i := by unfold dg; rw [List.length_map]; exact Wr.digs_len _ _
theorem pow_256 (i : Nat) (h : i < 8) : 2 ^ (56 - 8 * i) = 256 ^ (7 - i) := by
 rw [show (256 : Nat) = 2 ^ 8 from rfl, ← Nat.pow_mul]
 congr 1
 omega
theorem dg_zero (f : UInt8) (m i : Nat) (hi : i < 8) (hq : m / 2 ^ (56 - 8 * i) = 0) : dg f m (i + 1) = dg f m i := by
 rw [pow_256 i hi] at hq
 unfold dg
 rw [show 8 - (i + 1) = 7 - i by omega, hq, Wr.digs_zero, show 8 - i = (7 - i) + 1 by omega, Nat.pow_succ, ← Nat.div_div_eq_div_mul, hq, Nat.zero_div, Wr.digs_zero]
theorem dg_step (f : UInt8) (m i : Nat) (hi : i < 8) (hq : m / 2 ^ (56 - 8 * i) ≠ 0) : dg f m (i + 1) = dg f m i ++ [UInt8.ofNat (m / 2 ^ (56 - 8 * i)) ^^^ f] := by
 rw [pow_256 i hi] at hq ⊢
 unfold dg
 rw [show 8 - (i + 1) = 7 - i by omega, Wr.digs_step _ _ hq, List.map_append, show 8 - i = (7 - i) + 1 by omega, Nat.pow_succ, ← Nat.div_div_eq_div_mul, List.map_singleton]
theorem dg_full (f : UInt8) (m : Nat) : dg f m 8 = (Wr.digs 8 m).map (· ^^^ f) := by unfold dg; simp
theorem Onto.store {base : Nat} {w w1 : World} {v : Value} {n k cap g : Nat} {l t : List UInt8} {x b : UInt8} (h : Onto base w v w1 (.slice (some ⟨g, 0, none⟩) k cap) k (BV (l ++ x :: t))) (hl : l.length = n) :
  Onto base w v (w1.setCell ⟨g, n, none⟩ (.int .u8 (b.toNat : Int))) (.slice (some ⟨g, 0, none⟩) k cap) k (BV (l ++ b :: t)) := by
 obtain ⟨h1, h2⟩ := h.own.stored n (.int .u8 (b.toNat : Int))
 have he : (BV (l ++ x :: t)).set n (.int .u8 (b.toNat : Int)) = BV (l ++ b :: t) := by
  rw [BV_append, List.set_append_right _ _ (by rw [BV_len]; omega), BV_len, hl, Nat.sub_self, BV_append]
  rfl
 rw [he] at h1
 exact h.trans ⟨h1, h2, .inl rfl⟩
theorem xor_mod (q : Nat) (f : UInt8) : bits .xor .u8 ((q : Int) % 256) (f.toNat : Int) = ((UInt8.ofNat q ^^^ f).toNat : Int) := by
 have h := xor_byte (UInt8.ofNat q) f
 rw [← h]
 congr 1
theorem xor_top (k : Nat) (hk : k ≤ 8) (f : UInt8) : bits .xor .u8 (128 + (k : Int)) (f.toNat : Int) = ((UInt8.ofNat (128 + k) ^^^ f).toNat : Int) := by
 have h := xor_mod (128 + k) f
 rw [← h]
 congr 1
 omega
set_option maxHeartbeats 1000000 in
set_option maxRecDepth 100000 in
theorem addInt_pos (base : Nat) (A : Option Addr) (n c m : Nat) (z : Int) (l : List UInt8) (w : World) (hown : w.ownsRow base 5 1 (.slice A n c) n (BV l)) (hb : base ≤ w.heap.size) (hn : n ≤ 17592186044416) (hm : m < 9223372036854775808) (hmz : z = (m : Int)) :
  Calls Tryd.prog 49 #[.slice A n c, .int .i64 z] w fun e w' => ∃ v, e = .returned v ∧ Onto base w (.slice A n c) w' v (n + (1 + (Wr.digs 8 m).length)) (BV (l ++ (UInt8.ofNat (128 + (Wr.digs 8 m).length) ^^^ 0) :: (Wr.digs 8 m).map (· ^^^ 0))) := by
 obtain ⟨i0, hi, hz0, hz1, hz2⟩ := info_parts byteInfo
 have HI := hide hi
 have HZ0 := hide hz0
 have HZ1 := hide hz1
 have HZ2 := hide hz2
 have HO := hide (Onto.refl hown)
 clear hi hz0 hz1 hz2 hown
 subst hmz
 go_enter Tryd.func49, Tryd.ntmps49
 go_wp2
 go_step3
 go_wp2_with (at_builtin; refine wpList_append_any _ rfl (.tmp 14) (.tmp 15) 23 rfl base 5 i0 (.int .u8 0) 1 1 Tryd.underlying23 HI.out HZ0.out HZ1.out HZ2.out rfl (by omega) (.slice A n c) n (BV l) rfl (HO.out.own.alloc _) _ (some ⟨w.heap.size, 0, none⟩) 1 1 [.int .u8 0] rfl (reads_new w (.int .u8 0) _) (by simp [Value.oneCell']) (by unfold maxLen; omega) (by omega) (by simp; omega) ?_; intro v1 w1 hown1 hgrow1 hat1)
 have hO1 : Onto base w (.slice A n c) w1 v1 (n + 1) (BV (l ++ 0 :: dg 0 m 0)) := by
  have := (HO.out.alloc (.cells #[.int .u8 0] 5)).append hown1 hgrow1 hat1
  simpa [BV, dg, Wr.digs] using this
 obtain ⟨g1, c1, rfl, hc1⟩ := hO1.form (by omega)
 have HO1 := hide hO1
 clear hown1 hgrow1 hat1 hO1
 go_step3
 go_wp2
 go_loopw [0, 7] (fun v p wr => ∃ (i g cap : Nat), i ≤ 8 ∧ p = .int .i64 (56 - 8 * (i : Int)) ∧ v = .slice (some ⟨g, 0, none⟩) (n + 1 + (dg 0 m i).length) cap ∧ n + 1 + (dg 0 m i).length ≤ cap ∧ Onto base w (.slice A n c) wr v (n + 1 + (dg 0 m i).length) (BV (l ++ 0 :: dg 0 m i))) (fun _ p _ => (64 + intOf p).toNat)
 case atStart => exact ⟨0, g1, c1, by omega, by go_num, rfl, hc1, HO1.out⟩
 case round =>
  obtain ⟨i, g, cap, hi, rfl, rfl, hcap, hO⟩ := hrel
  have HO2 := hide hO
  have hsz := hO.grow.size
  clear hO
  have hdl := dg_len 0 m i
  by_cases hi8 : i < 8
  ·have hD0 := dg_zero 0 m i hi8
   have hDS := dg_step 0 m i hi8
   have hxm := xor_mod (m / 2 ^ (56 - 8 * i)) 0
   rw [show ((0 : UInt8).toNat : Int) = 0 from rfl] at hxm
   have hqq : (m : Int) / 2 ^ (56 - 8 * i) = ((m / 2 ^ (56 - 8 * i) : Nat) : Int) := by
    rw [Int.natCast_ediv, Int.natCast_pow]; rfl
   have hbt := (UInt8.ofNat (m / 2 ^ (56 - 8 * i)) ^^^ 0).toNat_lt
   generalize hQ : m / 2 ^ (56 - 8 * i) = q at *
   clear hQ
   have HD0 := hide hD0
   have HDS := hide hDS
   clear hD0 hDS
   generalize hBB : UInt8.ofNat q ^^^ 0 = b at *
   clear hBB
   generalize hDG : dg 0 m i = D at *
   clear hDG
   by_cases hq : q = 0
   ·have hq0 : ((q : Int) == 0) = true := by rw [beq_iff_eq]; omega
    have HE := hide (HD0.out hq)
    clear hq
    go_wp2
    go_roundw
    case rel => exact ⟨i + 1, g, cap, by omega, by go_num, by rw [HE.out], by rw [HE.out]; exact hcap, by rw [HE.out]; exact HO2.out⟩
    case measure => simp [intOf]; omega
   ·have hq0 : ((q : Int) == 0) = false := by rw [beq_eq_false_iff_ne]; omega
    have HE := hide (HDS.out hq)
    clear hq
    go_wp2_with (at_builtin; refine wpList_append_any _ rfl (.tmp 27) (.tmp 34) 23 rfl base 5 i0 (.int .u8 0) 1 1 Tryd.underlying23 HI.out HZ0.out HZ1.out HZ2.out rfl (by omega) (.slice (some ⟨g, 0, none⟩) (n + 1 + D.length) cap) (n + 1 + D.length) (BV (l ++ 0 :: D)) rfl (HO2.out.own.alloc _) _ (some ⟨wr.heap.size, 0, none⟩) 1 1 [.int .u8 (b.toNat : Int)] rfl (reads_new wr _ _) (by simp [Value.oneCell']) (by unfold maxLen; omega) (by omega) (by simp; omega) ?_; intro v2 w2 hown2 hgrow2 hat2)
    have hO3 : Onto base w (.slice A n c) w2 v2 (n + 1 + (D ++ [b]).length) (BV (l ++ 0 :: (D ++ [b]))) := by
     have := (HO2.out.alloc (.cells #[.int .u8 (b.toNat : Int)] 5)).append hown2 hgrow2 hat2
     rw [show n + 1 + (D ++ [b]).length = n + 1 + D.length + 1 by simp; omega]
     simpa [BV] using this
    obtain ⟨g2, c2, rfl, hc2⟩ := hO3.form (by omega)
    have HO3 := hide hO3
    clear hown2 hgrow2 hat2 hO3
    go_wp2
    go_roundw
    case rel => exact ⟨i + 1, g2, c2, by omega, by go_num, by rw [HE.out], by rw [HE.out]; exact hc2, by rw [HE.out]; exact HO3.out⟩
    case measure => simp [intOf]; omega
  ·obtain rfl : i = 8 := by omega
   have hdf := dg_full 0 m
   have hx := xor_top (Wr.digs 8 m).length (Wr.digs_len 8 m) 0
   rw [show ((0 : UInt8).toNat : Int) = 0 from rfl] at hx
   have hbt := (UInt8.ofNat (128 + (Wr.digs 8 m).length) ^^^ 0).toNat_lt
   have hlen : (dg 0 m 8).length = (Wr.digs 8 m).length := by rw [hdf, List.length_map]
   rw [hlen, hdf] at HO2
   rw [hlen] at hcap hdl ⊢
   have HDF := hide hdf
   clear hdf hlen
   generalize hTT : (Wr.digs 8 m).map (· ^^^ 0) = T at *
   generalize hKK : (Wr.digs 8 m).length = K at *
   generalize hBB : UInt8.ofNat (128 + K) ^^^ 0 = b at *
   have HTT := hide hTT
   have HKK := hide hKK
   have HBB := hide hBB
   clear hBB hKK hTT
   have hcell : wr.cell? ⟨g, n, none⟩ = some (.int .u8 0) := by
    rw [HO2.out.own.cellAt n (by omega)]
    have hl : (BV l).length = n := by
     have := HO.out.own.1
     omega
    rw [BV_append, List.getElem?_append_right (by omega), hl, Nat.sub_self]
    rfl
   have hfree := HO2.out.own.frozenAt n
   have hsum : (128 : Int) + ((n : Int) + 1 + (K : Int)) - (n : Int) - 1 = 128 + (K : Int) := by omega
   have hl : l.length = n := by
    have := HO.out.own.1
    simpa [BV] using this
   have HL := hide hl
   clear hl
   go_wp2
   rw [Exit.noGoto_ret]
   go_ret
   refine ⟨.slice (some ⟨g, 0, none⟩) (n + 1 + K) cap, rfl, ?_⟩
   have := HO2.out.store (b := b) HL.out
   rw [HKK.out, HTT.out, HBB.out, show n + (1 + K) = n + 1 + K by omega]
   exact this
set_option maxHeartbeats 1000000 in
set_option maxRecDepth 100000 in
theorem addInt_neg (base : Nat) (A : Option Addr) (n c m : Nat) (z : Int) (l : List UInt8) (w : World) (hown : w.ownsRow base 5 1 (.slice A n c) n (BV l)) (hb : base ≤ w.heap.size) (hn : n ≤ 17592186044416) (hm : m < 9223372036854775808) (hz : z < 0) (hmz : -1 - z = (m : Int)) :
  Calls Tryd.prog 49 #[.slice A n c, .int .i64 z] w fun e w' => ∃ v, e = .returned v ∧ Onto base w (.slice A n c) w' v (n + (1 + (Wr.digs 8 m).length)) (BV (l ++ (UInt8.ofNat (128 + (Wr.digs 8 m).length) ^^^ 255) :: (Wr.digs 8 m).map (· ^^^ 255))) := by
 obtain ⟨i0, hi, hz0, hz1, hz2⟩ := info_parts byteInfo
 have HI := hide hi
 have HZ0 := hide hz0
 have HZ1 := hide hz1
 have HZ2 := hide hz2
 have HO := hide (Onto.refl hown)
 clear hi hz0 hz1 hz2 hown
 have hz2 : -9223372036854775808 ≤ z := by omega
 go_enter Tryd.func49, Tryd.ntmps49
 go_wp2
 go_step3
 go_wp2_with (at_builtin; refine wpList_append_any _ rfl (.tmp 14) (.tmp 15) 23 rfl base 5 i0 (.int .u8 0) 1 1 Tryd.underlying23 HI.out HZ0.out HZ1.out HZ2.out rfl (by omega) (.slice A n c) n (BV l) rfl (HO.out.own.alloc _) _ (some ⟨w.heap.size, 0, none⟩) 1 1 [.int .u8 0] rfl (reads_new w (.int .u8 0) _) (by simp [Value.oneCell']) (by unfold maxLen; omega) (by omega) (by simp; omega) ?_; intro v1 w1 hown1 hgrow1 hat1)
 have hO1 : Onto base w (.slice A n c) w1 v1 (n + 1) (BV (l ++ 0 :: dg 255 m 0)) := by
  have := (HO.out.alloc (.cells #[.int .u8 0] 5)).append hown1 hgrow1 hat1
  simpa [BV, dg, Wr.digs] using this
 obtain ⟨g1, c1, rfl, hc1⟩ := hO1.form (by omega)
 have HO1 := hide hO1
 clear hown1 hgrow1 hat1 hO1
 go_step3
 go_wp2
 go_loopw [0, 7] (fun v p wr => ∃ (i g cap : Nat), i ≤ 8 ∧ p = .int .i64 (56 - 8 * (i : Int)) ∧ v = .slice (some ⟨g, 0, none⟩) (n + 1 + (dg 255 m i).length) cap ∧ n + 1 + (dg 255 m i).length ≤ cap ∧ Onto base w (.slice A n c) wr v (n + 1 + (dg 255 m i).length) (BV (l ++ 0 :: dg 255 m i))) (fun _ p _ => (64 + intOf p).toNat)
 case atStart => exact ⟨0, g1, c1, by omega, by go_num, rfl, hc1, HO1.out⟩
 case round =>
  obtain ⟨i, g, cap, hi, rfl, rfl, hcap, hO⟩ := hrel
  have HO2 := hide hO
  have hsz := hO.grow.size
  clear hO
  have hdl := dg_len 255 m i
  by_cases hi8 : i < 8
  ·have hD0 := dg_zero 255 m i hi8
   have hDS := dg_step 255 m i hi8
   have hxm := xor_mod (m / 2 ^ (56 - 8 * i)) 255
   rw [show ((255 : UInt8).toNat : Int) = 255 from rfl] at hxm
   have hqq : (m : Int) / 2 ^ (56 - 8 * i) = ((m / 2 ^ (56 - 8 * i) : Nat) : Int) := by
    rw [Int.natCast_ediv, Int.natCast_pow]; rfl
   have hbt := (UInt8.ofNat (m / 2 ^ (56 - 8 * i)) ^^^ 255).toNat_lt
   generalize hQ : m / 2 ^ (56 - 8 * i) = q at *
   clear hQ
   have HD0 := hide hD0
   have HDS := hide hDS
   clear hD0 hDS
   generalize hBB : UInt8.ofNat q ^^^ 255 = b at *
   clear hBB
   generalize hDG : dg 255 m i = D at *
   clear hDG
   by_cases hq : q = 0
   ·have hq0 : ((q : Int) == 0) = true := by rw [beq_iff_eq]; omega
    have HE := hide (HD0.out hq)
    clear hq
    go_wp2
    go_roundw
    case rel => exact ⟨i + 1, g, cap, by omega, by go_num, by rw [HE.out], by rw [HE.out]; exact hcap, by rw [HE.out]; exact HO2.out⟩
    case measure => simp [intOf]; omega
   ·have hq0 : ((q : Int) == 0) = false := by rw [beq_eq_false_iff_ne]; omega
    have HE := hide (HDS.out hq)
    clear hq
    go_wp2_with (at_builtin; refine wpList_append_any _ rfl (.tmp 27) (.tmp 34) 23 rfl base 5 i0 (.int .u8 0) 1 1 Tryd.underlying23 HI.out HZ0.out HZ1.out HZ2.out rfl (by omega) (.slice (some ⟨g, 0, none⟩) (n + 1 + D.length) cap) (n + 1 + D.length) (BV (l ++ 0 :: D)) rfl (HO2.out.own.alloc _) _ (some ⟨wr.heap.size, 0, none⟩) 1 1 [.int .u8 (b.toNat : Int)] rfl (reads_new wr _ _) (by simp [Value.oneCell']) (by unfold maxLen; omega) (by omega) (by simp; omega) ?_; intro v2 w2 hown2 hgrow2 hat2)
    have hO3 : Onto base w (.slice A n c) w2 v2 (n + 1 + (D ++ [b]).length) (BV (l ++ 0 :: (D ++ [b]))) := by
     have := (HO2.out.alloc (.cells #[.int .u8 (b.toNat : Int)] 5)).append hown2 hgrow2 hat2
     rw [show n + 1 + (D ++ [b]).length = n + 1 + D.length + 1 by simp; omega]
     simpa [BV] using this
    obtain ⟨g2, c2, rfl, hc2⟩ := hO3.form (by omega)
    have HO3 := hide hO3
    clear hown2 hgrow2 hat2 hO3
    go_wp2
    go_roundw
    case rel => exact ⟨i + 1, g2, c2, by omega, by go_num, by rw [HE.out], by rw [HE.out]; exact hc2, by rw [HE.out]; exact HO3.out⟩
    case measure => simp [intOf]; omega
  ·obtain rfl : i = 8 := by omega
   have hdf := dg_full 255 m
   have hx := xor_top (Wr.digs 8 m).length (Wr.digs_len 8 m) 255
   rw [show ((255 : UInt8).toNat : Int) = 255 from rfl] at hx
   have hbt := (UInt8.ofNat (128 + (Wr.digs 8 m).length) ^^^ 255).toNat_lt
   have hlen : (dg 255 m 8).length = (Wr.digs 8 m).length := by rw [hdf, List.length_map]
   rw [hlen, hdf] at HO2
   rw [hlen] at hcap hdl ⊢
   have HDF := hide hdf
   clear hdf hlen
   generalize hTT : (Wr.digs 8 m).map (· ^^^ 255) = T at *
   generalize hKK : (Wr.digs 8 m).length = K at *
   generalize hBB : UInt8.ofNat (128 + K) ^^^ 255 = b at *
   have HTT := hide hTT
   have HKK := hide hKK
   have HBB := hide hBB
   clear hBB hKK hTT
   have hcell : wr.cell? ⟨g, n, none⟩ = some (.int .u8 0) := by
    rw [HO2.out.own.cellAt n (by omega)]
    have hl : (BV l).length = n := by
     have := HO.out.own.1
     omega
    rw [BV_append, List.getElem?_append_right (by omega), hl, Nat.sub_self]
    rfl
   have hfree := HO2.out.own.frozenAt n
   have hsum : (128 : Int) + ((n : Int) + 1 + (K : Int)) - (n : Int) - 1 = 128 + (K : Int) := by omega
   have hl : l.length = n := by
    have := HO.out.own.1
    simpa [BV] using this
   have HL := hide hl
   clear hl
   go_wp2
   rw [Exit.noGoto_ret]
   go_ret
   refine ⟨.slice (some ⟨g, 0, none⟩) (n + 1 + K) cap, rfl, ?_⟩
   have := HO2.out.store (b := b) HL.out
   rw [HKK.out, HTT.out, HBB.out, show n + (1 + K) = n + 1 + K by omega]
   exact this
theorem addInt_any (base : Nat) (A : Option Addr) (n c : Nat) (z : Int) (l : List UInt8) (w : World) (hown : w.ownsRow base 5 1 (.slice A n c) n (BV l)) (hb : base ≤ w.heap.size) (hn : n ≤ 17592186044416) (hz : Wr.inI z) :
  Calls Tryd.prog 49 #[.slice A n c, .int .i64 z] w fun e w' => ∃ v, e = .returned v ∧ w'.ownsRow base 5 1 v (n + (Wr.enc z).length) (BV (l ++ Wr.enc z)) ∧ Below base w w' := by
 have hl := Wr.enc_len z
 have hm := Wr.mag_lt hz
 rw [hl]
 by_cases h : z < 0
 ·have hmz : -1 - z = (Wr.mag z : Int) := by unfold Wr.mag; rw [if_pos h]; omega
  have hf : Wr.flip z = 255 := by unfold Wr.flip; rw [if_pos h]
  refine (addInt_neg base A n c (Wr.mag z) z l w hown hb hn hm h hmz).mono fun e w' ⟨v, he, ho⟩ => ⟨v, he, ?_, below_grown ho.grow hown hb⟩
  have := ho.own
  unfold Wr.enc
  rw [hf]
  exact this
 ·have hmz : z = (Wr.mag z : Int) := by unfold Wr.mag; rw [if_neg h]; omega
  have hf : Wr.flip z = 0 := by unfold Wr.flip; rw [if_neg h]
  refine (addInt_pos base A n c (Wr.mag z) z l w hown hb hn hm hmz).mono fun e w' ⟨v, he, ho⟩ => ⟨v, he, ?_, below_grown ho.grow hown hb⟩
  have := ho.own
  unfold Wr.enc
  rw [hf]
  exact this
set_option maxHeartbeats 400000 in
set_option maxRecDepth 100000 in
theorem addBytes_any (base : Nat) (A : Option Addr) (n c : Nat) (s l : List UInt8) (w : World) (hown : w.ownsRow base 5 1 (.slice A n c) n (BV l)) (hb : base ≤ w.heap.size) (hn : n + s.length ≤ 17592186044416) :
  Calls Tryd.prog 50 #[.slice A n c, .string (S s)] w fun e w' => ∃ v, e = .returned v ∧ w'.ownsRow base 5 1 v (n + (Wr.enc s.length).length + s.length) (BV (l ++ Wr.enc s.length ++ s)) ∧ Below base w w' := by
 have hsz : (S s).size = s.length := rfl
 have hcells : Lib.strCells (S s) = BV s := rfl
 have hfin : ∀ (v : Value) (w' : World), w'.ownsRow base 5 1 v (n + (Wr.enc ((S s).size : Int)).length + (S s).size) (BV (l ++ Wr.enc ((S s).size : Int)) ++ Lib.strCells (S s)) → w'.ownsRow base 5 1 v (n + (Wr.enc s.length).length + s.length) (BV (l ++ Wr.enc s.length ++ s)) := by
  intro v w' h
  rw [hcells, hsz, ← BV_append] at h
  exact h
 have HF := hide hfin
 have H := hide (addInt_any base A n c ((S s).size : Int) l w hown hb (by omega) (by unfold Wr.inI; omega))
 have hE := Wr.enc_le ((S s).size : Int)
 have hle : (S s).size ≤ 17592186044416 := by omega
 obtain ⟨i0, hi, hz0, hz1, hz2⟩ := info_parts byteInfo
 have HI := hide hi
 have HZ0 := hide hz0
 have HZ1 := hide hz1
 have HZ2 := hide hz2
 have hn2 : n ≤ 17592186044416 := by omega
 clear hi hz0 hz1 hz2 hown hsz hcells hfin hn
 generalize hSS : S s = str at *
 clear hSS
 go_enter Tryd.func50, Tryd.ntmps50
 go_wp2_with fail
 refine (unhide H).mono ?_
 rintro e w1 ⟨v1, rfl, hown1, hb1⟩
 have HO1 := hide hown1
 have hsz1 := hb1.size
 clear hown1
 go_wp2_with (at_builtin; refine Lib.wpList_append_own_string _ rfl (.tmp 8) (.tmp 9) 23 9 rfl base 5 i0 Tryd.underlying23 Tryd.underlying9 HI.out HZ0.out HZ1.out HZ2.out v1 (n + (Wr.enc (str.size : Int)).length) (BV (l ++ Wr.enc (str.size : Int))) rfl HO1.out str rfl (by unfold maxLen; omega) (by omega) (by omega) ?_; intro v2 w2 hown2 hgrow2 _)
 have HO2 := hide (HF.out v2 w2 hown2)
 have HB2 := hide (hb1.trans (below_grown hgrow2 HO1.out (by omega)))
 clear hown2 hgrow2
 go_wp2
 go_ret
 exact ⟨v2, rfl, HO2.out, HB2.out⟩
set_option maxHeartbeats 400000 in
set_option maxRecDepth 100000 in
theorem bytes_any (s : List UInt8) (w : World) (hn : s.length ≤ 1099511627776) :
  Calls Tryd.prog 24 #[.string (S s)] w fun e w' => ∃ v, e = .returned v ∧ w'.ownsRow w.heap.size 5 1 v ((Wr.enc s.length).length + s.length) (BV (Wr.enc s.length ++ s)) ∧ Below w.heap.size w w' := by
 obtain ⟨i0, hi, hz0, hz1, hz2⟩ := info_parts byteInfo
 have HI := hide hi
 have HZ0 := hide hz0
 have HZ1 := hide hz1
 have HZ2 := hide hz2
 have hle : (S s).size ≤ 1099511627776 := hn
 have HA := hide (fun c (w1 : World) (h : w1.ownsRow w.heap.size 5 1 (.slice (some ⟨w.heap.size, 0, none⟩) 0 c) 0 []) (hs : w.heap.size ≤ w1.heap.size) =>
  addBytes_any w.heap.size (some ⟨w.heap.size, 0, none⟩) 0 c s [] w1 h hs (by omega))
 clear hi hz0 hz1 hz2
 generalize hSS : S s = str at *
 clear hSS
 go_enter Tryd.func24, Tryd.ntmps24
 go_wp2_with (at_make; refine wpList_make_own _ rfl _ _ 23 rfl w.heap.size 5 i0 (.int .u8 0) 1 Tryd.underlying23 HI.out HZ0.out HZ1.out _ _ _ (9 + str.size) rfl rfl (by omega) (by rw [HZ2.out]; omega) (by unfold maxLen; omega) (Nat.le_refl _) ?_; intro w1 hown1 hgrow1)
 refine (unhide HA _ w1 hown1 hgrow1.size).mono ?_
 rintro e w2 ⟨v2, rfl, hown2, hb2⟩
 have HO2 := hide hown2
 have HB := hide (((Below.refl w.heap.size w).grown hgrow1 (Nat.le_refl _) (by simp)).trans hb2)
 clear hown1 hgrow1 hown2 hb2
 go_wp2
 go_ret
 refine ⟨v2, rfl, ?_, HB.out⟩
 have := HO2.out
 rw [Nat.zero_add, List.nil_append] at this
 exact this
end Go.Proofs.YtjnnohghgkjhcaaDoor
namespace Go.Proofs.YtjnnohghgkjhcaaDoor
open Go.RowKit
set_option linter.unusedVariables false
set_option linter.unusedSimpArgs false
set_option linter.unusedVariables false
set_option linter.unusedSimpArgs false
theorem digs_rev (q : Nat) (h : q < 256 ^ 8) (h0 : q ≠ 0) : (Wr.digs 8 q).reverse = UInt8.ofNat q :: (Wr.digs 8 (q / 256)).reverse := by
 rw [Wr.digs_step 7 q h0, List.reverse_append]
 rw [Wr.digs_more 7 (q / 256) (by rw [Nat.div_lt_iff_lt_mul (by omega)]; exact h)]
 rfl
theorem map_xor_zero' (x : List UInt8) : x.map (· ^^^ (0 : UInt8)) = x := Wr.map_xor_zero x
set_option maxHeartbeats 1000000 in
set_option maxRecDepth 100000 in
theorem refInt_pos (m : Nat) (w : World) (hm : m < 9223372036854775808) :
  Calls Tryd.prog 26 #[.int .i64 (m : Int)] w fun e w' => ∃ v, e = .returned v ∧ w'.ownsRow w.heap.size 5 1 v (Wr.enc m).length (BV (Wr.enc m)) ∧ Below w.heap.size w w' := by
 obtain ⟨i0, hi, hz0, hz1, hz2⟩ := info_parts byteInfo
 have HI := hide hi
 have HZ0 := hide hz0
 have HZ1 := hide hz1
 have HZ2 := hide hz2
 clear hi hz0 hz1 hz2
 have hm8 : m < 256 ^ 8 := Nat.lt_of_lt_of_le hm (by decide)
 have hm0 : ¬ ((m : Int) < 0) := by omega
 go_enter Tryd.func26, Tryd.ntmps26
 go_wp2_with fail
 go_loopw [3, 4] (fun t v wr => ∃ (q : Nat) (dn : List UInt8), t = .int .i64 (q : Int) ∧ q ≤ m ∧ dn ++ (Wr.digs 8 q).reverse = (Wr.digs 8 m).reverse ∧ wr.ownsRow w.heap.size 5 1 v dn.length (BV dn) ∧ Below w.heap.size w wr) (fun t _ _ => (intOf t).toNat)
 case atStart => exact ⟨m, [], rfl, Nat.le_refl _, rfl, World.ownsRow_nil w w.heap.size _ 1, Below.refl _ _⟩
 case round =>
  obtain ⟨q, dn, rfl, hq, hdn, hown, hb⟩ := hrel
  by_cases h0 : q = 0
  ·subst h0
   rw [show ((0 : Nat) : Int) = 0 from rfl]
   obtain ⟨wd, rfl⟩ : ∃ wd, wd = wr := ⟨wr, rfl⟩
   have hdn' : dn = (Wr.digs 8 m).reverse := by rw [Wr.digs_zero] at hdn; simpa using hdn
   have hlen : dn.length ≤ 8 := by rw [hdn', List.length_reverse]; exact Wr.digs_len 8 m
   obtain ⟨A4, c4, rfl, hc4, _⟩ := own_slice hown
   have HR := hide (Reads.of_own hown)
   have HB := hide hb
   have HN := hide (World.ownsRow_nil wd wd.heap.size 5 1)
   have HDN := hide hdn'
   have hh : BV [UInt8.ofNat (128 + dn.length)] = [.int .u8 (128 + (dn.length : Int))] := by
    simp only [BV, List.map_cons, List.map_nil, UInt8.toNat_ofNat']
    rw [Nat.mod_eq_of_lt (by omega)]
    simp
   have HH := hide hh
   clear hown hb hdn hdn' hh hm hm8
   generalize hK : dn.length = K at *
   have HK := hide hK
   clear hK
   go_wp2_with (at_builtin; refine wpList_append_any _ rfl (.tmp 28) (.tmp 32) 23 rfl wd.heap.size 5 i0 (.int .u8 0) 1 1 Tryd.underlying23 HI.out HZ0.out HZ1.out HZ2.out rfl (by omega) _ 0 [] rfl (HN.out.alloc _) _ (some ⟨wd.heap.size, 0, none⟩) 1 1 [.int .u8 (128 + (K : Int))] rfl (reads_new wd _ _) (by simp [Value.oneCell']) (by unfold maxLen; omega) (by omega) (by simp) ?_; intro v2 w2 hown2 hgrow2 hat2; have HO2 := hide hown2; have HB2 := hide ((below_alloc wd _).trans (below_grown hgrow2 (HN.out.alloc _) (by simp))); clear hown2 hgrow2 hat2)
   go_loopw [6, 7] (fun v i wr => ∃ j : Nat, j ≤ K ∧ i = .int .i64 ((j : Int) - 1) ∧ wr.ownsRow wd.heap.size 5 1 v (1 + (K - j)) (BV (UInt8.ofNat (128 + K) :: dn.reverse.take (K - j))) ∧ Below wd.heap.size wd wr) (fun _ i _ => (intOf i + 1).toNat)
   case atStart =>
    refine ⟨K, Nat.le_refl _, rfl, ?_, HB2.out⟩
    rw [Nat.sub_self, List.take_zero, HH.out]
    simpa using HO2.out
   case round =>
    obtain ⟨j, hj, rfl, hown, hb⟩ := hrel
    rcases Nat.eq_zero_or_pos j with h0 | h0
    ·subst h0
     rw [show ((0 : Nat) : Int) - 1 = -1 from rfl]
     have HO := hide hown
     have HB3 := hide (HB.out.trans (hb.mono HB.out.size))
     clear hown hb
     go_wp2
     go_ret
     refine ⟨_, rfl, ?_, HB3.out⟩
     have h := HO.out
     have hk := HK.out
     have hd := HDN.out
     have he : Wr.enc (m : Int) = UInt8.ofNat (128 + K) :: Wr.digs 8 m := by
      have hk2 : K = (Wr.digs 8 m).length := by rw [← hk, hd, List.length_reverse]
      have hmag : Wr.mag (m : Int) = m := by unfold Wr.mag; rw [if_neg (by omega)]; omega
      have hfl : Wr.flip (m : Int) = 0 := by unfold Wr.flip; rw [if_neg (by omega)]
      unfold Wr.enc
      rw [hmag, hfl, map_xor_zero', UInt8.xor_zero, ← hk2]
     rw [Nat.sub_zero, hd, List.reverse_reverse] at h
     have hk3 : (Wr.digs 8 m).length = K := by rw [← hk, hd, List.length_reverse]
     rw [List.take_of_length_le (by omega)] at h
     rw [he, List.length_cons, hk3, Nat.add_comm]
     exact own_lower h HB.out.size
    ·obtain ⟨j', rfl⟩ : ∃ j', j = j' + 1 := ⟨j - 1, by omega⟩
     rw [show (((j' + 1 : Nat) : Int) - 1) = (j' : Int) by omega]
     have hlt : j' < K := by omega
     obtain ⟨ad, rfl, hx, hc⟩ := reads_item HR.out j' hlt
     have hjd : j' < dn.length := by have := HK.out; omega
     have hc2 : wd.cell? (ad.add j') = some (.int .u8 ((dn[j'].toNat : Nat) : Int)) := by
      rw [hc]
      have := BV_get dn j' hjd
      rw [List.getElem?_eq_getElem hx] at this
      exact this
     have hcw : wr.cell? (ad.add j') = some (.int .u8 ((dn[j'].toNat : Nat) : Int)) := by rw [hb.cell (block_lt_of_cell hc2)]; exact hc2
     have hnext : dn.reverse.take (K - j') = dn.reverse.take (K - (j' + 1)) ++ [dn[j']] := by
      have hk := HK.out
      rw [show K - j' = (K - (j' + 1)) + 1 by omega, List.take_succ_eq_append_getElem (by rw [List.length_reverse]; omega), List.getElem_reverse]
      congr 3
      omega
     have hbyte : dn[j'].toNat < 256 := dn[j'].toNat_lt
     have hone : BV [dn[j']] = [.int .u8 ((dn[j'].toNat : Nat) : Int)] := rfl
     have HO := hide hown
     have HB3 := hide hb
     have HX := hide hnext
     have H1 := hide hone
     have hwsz := hb.size
     clear hown hb hc hc2 hnext hone hx
     generalize dn[j'] = cb at *
     go_wp2_with (at_builtin; refine wpList_append_any _ rfl (.tmp 54) (.tmp 56) 23 rfl wd.heap.size 5 i0 (.int .u8 0) 1 1 Tryd.underlying23 HI.out HZ0.out HZ1.out HZ2.out rfl (by omega) _ (1 + (K - (j' + 1))) _ rfl (HO.out.alloc _) _ (some ⟨wr.heap.size, 0, none⟩) 1 1 [.int .u8 ((cb.toNat : Nat) : Int)] rfl (reads_new wr _ _) (by simp [Value.oneCell']) (by unfold maxLen; omega) (by omega) (by simp; omega) ?_; intro v5 w5 hown5 hgrow5 hat5; have HO5 := hide hown5; have HB5 := hide ((HB3.out.trans (below_alloc' wr _ hwsz)).trans (below_grown hgrow5 (HO.out.alloc _) (by simp; omega))); clear hown5 hgrow5 hat5)
     refine ⟨⟨j', by omega, by go_num, ?_, HB5.out⟩, ?_⟩
     ·have h := HO5.out
      rw [HX.out, ← List.cons_append, BV_append, H1.out]
      rwa [show 1 + (K - (j' + 1)) + 1 = 1 + (K - j') by omega] at h
     ·simp [intOf]
  ·have hpos : (0 : Int) < (q : Int) := by omega
   have hrev := digs_rev q (by omega) h0
   have hlen : dn.length ≤ 8 := by
    have h1 := congrArg List.length hdn
    rw [List.length_append, List.length_reverse, List.length_reverse] at h1
    have := Wr.digs_len 8 m
    omega
   have hone : BV [UInt8.ofNat q] = [.int .u8 ((q : Int) % 256)] := by simp [BV]
   have HO := hide hown
   have HB := hide hb
   have HD := hide hdn
   have HR := hide hrev
   have H1 := hide hone
   have hwsz := hb.size
   clear hown hb hdn hrev hone
   go_wp2_with (at_builtin; refine wpList_append_any _ rfl (.tmp 16) (.tmp 20) 23 rfl w.heap.size 5 i0 (.int .u8 0) 1 1 Tryd.underlying23 HI.out HZ0.out HZ1.out HZ2.out rfl (by omega) _ dn.length (BV dn) rfl (HO.out.alloc _) _ (some ⟨wr.heap.size, 0, none⟩) 1 1 [.int .u8 ((q : Int) % 256)] rfl (reads_new wr _ _) (by simp [Value.oneCell']) (by unfold maxLen; omega) (by omega) (by simp; omega) ?_; intro v2 w2 hown2 hgrow2 hat2; have HO2 := hide hown2; have HB2 := hide ((HB.out.trans (below_alloc' wr _ hwsz)).trans (below_grown hgrow2 (HO.out.alloc _) (by simp; omega))); clear hown2 hgrow2 hat2)
   refine ⟨⟨q / 256, dn ++ [UInt8.ofNat q], by go_num, by omega, ?_, ?_, HB2.out⟩, ?_⟩
   ·rw [List.append_assoc, List.singleton_append, ← HR.out]; exact HD.out
   ·rw [List.length_append, BV_append, H1.out]; exact HO2.out
   ·simp [intOf]; omega
set_option maxHeartbeats 1000000 in
set_option maxRecDepth 100000 in
theorem refInt_neg (m : Nat) (z : Int) (w : World) (hm : m < 9223372036854775808) (hz : z < 0) (hmz : -1 - z = (m : Int)) :
  Calls Tryd.prog 26 #[.int .i64 z] w fun e w' => ∃ v, e = .returned v ∧ w'.ownsRow w.heap.size 5 1 v (Wr.enc z).length (BV (Wr.enc z)) ∧ Below w.heap.size w w' := by
 obtain ⟨i0, hi, hz0, hz1, hz2⟩ := info_parts byteInfo
 have HI := hide hi
 have HZ0 := hide hz0
 have HZ1 := hide hz1
 have HZ2 := hide hz2
 clear hi hz0 hz1 hz2
 have hm8 : m < 256 ^ 8 := Nat.lt_of_lt_of_le hm (by decide)
 go_enter Tryd.func26, Tryd.ntmps26
 go_wp2_with fail
 go_loopw [3, 4] (fun t v wr => ∃ (q : Nat) (dn : List UInt8), t = .int .i64 (q : Int) ∧ q ≤ m ∧ dn ++ (Wr.digs 8 q).reverse = (Wr.digs 8 m).reverse ∧ wr.ownsRow w.heap.size 5 1 v dn.length (BV dn) ∧ Below w.heap.size w wr) (fun t _ _ => (intOf t).toNat)
 case atStart => exact ⟨m, [], rfl, Nat.le_refl _, rfl, World.ownsRow_nil w w.heap.size _ 1, Below.refl _ _⟩
 case round =>
  obtain ⟨q, dn, rfl, hq, hdn, hown, hb⟩ := hrel
  by_cases h0 : q = 0
  ·subst h0
   rw [show ((0 : Nat) : Int) = 0 from rfl]
   obtain ⟨wd, rfl⟩ : ∃ wd, wd = wr := ⟨wr, rfl⟩
   have hdn' : dn = (Wr.digs 8 m).reverse := by rw [Wr.digs_zero] at hdn; simpa using hdn
   have hlen : dn.length ≤ 8 := by rw [hdn', List.length_reverse]; exact Wr.digs_len 8 m
   obtain ⟨A4, c4, rfl, hc4, _⟩ := own_slice hown
   have HR := hide (Reads.of_own hown)
   have HB := hide hb
   have HN := hide (World.ownsRow_nil wd wd.heap.size 5 1)
   have HDN := hide hdn'
   have hh : BV [UInt8.ofNat (128 + dn.length) ^^^ 255] = [.int .u8 (127 - (dn.length : Int))] := by
    simp only [BV, List.map_cons, List.map_nil]
    rw [(Wr.head_val dn.length hlen).1, Int.ofNat_sub (by omega)]
    rfl
   have HH := hide hh
   have HMZ := hide hmz
   have HZ := hide hz
   clear hown hb hdn hdn' hh hm hm8
   generalize hK : dn.length = K at *
   have HK := hide hK
   clear hK
   go_wp2_with (at_builtin; refine wpList_append_any _ rfl (.tmp 34) (.tmp 38) 23 rfl wd.heap.size 5 i0 (.int .u8 0) 1 1 Tryd.underlying23 HI.out HZ0.out HZ1.out HZ2.out rfl (by omega) _ 0 [] rfl (HN.out.alloc _) _ (some ⟨wd.heap.size, 0, none⟩) 1 1 [.int .u8 (127 - (K : Int))] rfl (reads_new wd _ _) (by simp [Value.oneCell']) (by unfold maxLen; omega) (by omega) (by simp) ?_; intro v2 w2 hown2 hgrow2 hat2; have HO2 := hide hown2; have HB2 := hide ((below_alloc wd _).trans (below_grown hgrow2 (HN.out.alloc _) (by simp))); clear hown2 hgrow2 hat2)
   go_loopw [6, 7] (fun v i wr => ∃ j : Nat, j ≤ K ∧ i = .int .i64 ((j : Int) - 1) ∧ wr.ownsRow wd.heap.size 5 1 v (1 + (K - j)) (BV ((UInt8.ofNat (128 + K) ^^^ 255) :: (dn.reverse.take (K - j)).map (· ^^^ 255))) ∧ Below wd.heap.size wd wr) (fun _ i _ => (intOf i + 1).toNat)
   case atStart =>
    refine ⟨K, Nat.le_refl _, rfl, ?_, HB2.out⟩
    rw [Nat.sub_self, List.take_zero, List.map_nil, HH.out]
    simpa using HO2.out
   case round =>
    obtain ⟨j, hj, rfl, hown, hb⟩ := hrel
    rcases Nat.eq_zero_or_pos j with h0 | h0
    ·subst h0
     rw [show ((0 : Nat) : Int) - 1 = -1 from rfl]
     have HO := hide hown
     have HB3 := hide (HB.out.trans (hb.mono HB.out.size))
     clear hown hb
     go_wp2
     go_ret
     refine ⟨_, rfl, ?_, HB3.out⟩
     have h := HO.out
     have hk := HK.out
     have hd := HDN.out
     have he : Wr.enc z = (UInt8.ofNat (128 + K) ^^^ 255) :: (Wr.digs 8 m).map (· ^^^ 255) := by
      have hk2 : K = (Wr.digs 8 m).length := by rw [← hk, hd, List.length_reverse]
      have hmag : Wr.mag z = m := by unfold Wr.mag; have := HZ.out; have := HMZ.out; rw [if_pos (by omega)]; omega
      have hfl : Wr.flip z = 255 := by unfold Wr.flip; have := HZ.out; rw [if_pos (by omega)]
      unfold Wr.enc
      rw [hmag, hfl, ← hk2]
     rw [Nat.sub_zero, hd, List.reverse_reverse] at h
     have hk3 : (Wr.digs 8 m).length = K := by rw [← hk, hd, List.length_reverse]
     rw [List.take_of_length_le (by omega)] at h
     rw [he, List.length_cons, List.length_map, hk3, Nat.add_comm]
     exact own_lower h HB.out.size
    ·obtain ⟨j', rfl⟩ : ∃ j', j = j' + 1 := ⟨j - 1, by omega⟩
     rw [show (((j' + 1 : Nat) : Int) - 1) = (j' : Int) by omega]
     have hlt : j' < K := by omega
     obtain ⟨ad, rfl, hx, hc⟩ := reads_item HR.out j' hlt
     have hjd : j' < dn.length := by have := HK.out; omega
     have hc2 : wd.cell? (ad.add j') = some (.int .u8 ((dn[j'].toNat : Nat) : Int)) := by
      rw [hc]
      have := BV_get dn j' hjd
      rw [List.getElem?_eq_getElem hx] at this
      exact this
     have hcw : wr.cell? (ad.add j') = some (.int .u8 ((dn[j'].toNat : Nat) : Int)) := by rw [hb.cell (block_lt_of_cell hc2)]; exact hc2
     have hnext : dn.reverse.take (K - j') = dn.reverse.take (K - (j' + 1)) ++ [dn[j']] := by
      have hk := HK.out
      rw [show K - j' = (K - (j' + 1)) + 1 by omega, List.take_succ_eq_append_getElem (by rw [List.length_reverse]; omega), List.getElem_reverse]
      congr 3
      omega
     have hbyte : dn[j'].toNat < 256 := dn[j'].toNat_lt
     have hone : BV [dn[j'] ^^^ 255] = [.int .u8 (255 - ((dn[j'].toNat : Nat) : Int))] := by simp only [BV, List.map_cons, List.map_nil]; rw [Wr.xor_toNat, Int.ofNat_sub (by omega)]; rfl
     have HO := hide hown
     have HB3 := hide hb
     have HX := hide hnext
     have H1 := hide hone
     have hwsz := hb.size
     clear hown hb hc hc2 hnext hone hx
     generalize dn[j'] = cb at *
     go_wp2_with (at_builtin; refine wpList_append_any _ rfl (.tmp 54) (.tmp 56) 23 rfl wd.heap.size 5 i0 (.int .u8 0) 1 1 Tryd.underlying23 HI.out HZ0.out HZ1.out HZ2.out rfl (by omega) _ (1 + (K - (j' + 1))) _ rfl (HO.out.alloc _) _ (some ⟨wr.heap.size, 0, none⟩) 1 1 [.int .u8 (255 - ((cb.toNat : Nat) : Int))] rfl (reads_new wr _ _) (by simp [Value.oneCell']) (by unfold maxLen; omega) (by omega) (by simp; omega) ?_; intro v5 w5 hown5 hgrow5 hat5; have HO5 := hide hown5; have HB5 := hide ((HB3.out.trans (below_alloc' wr _ hwsz)).trans (below_grown hgrow5 (HO.out.alloc _) (by simp; omega))); clear hown5 hgrow5 hat5)
     refine ⟨⟨j', by omega, by go_num, ?_, HB5.out⟩, ?_⟩
     ·have h := HO5.out
      rw [HX.out, List.map_append, List.map_singleton, ← List.cons_append, BV_append, H1.out]
      rwa [show 1 + (K - (j' + 1)) + 1 = 1 + (K - j') by omega] at h
     ·simp [intOf]
  ·have hpos : (0 : Int) < (q : Int) := by omega
   have hrev := digs_rev q (by omega) h0
   have hlen : dn.length ≤ 8 := by
    have h1 := congrArg List.length hdn
    rw [List.length_append, List.length_reverse, List.length_reverse] at h1
    have := Wr.digs_len 8 m
    omega
   have hone : BV [UInt8.ofNat q] = [.int .u8 ((q : Int) % 256)] := by simp [BV]
   have HO := hide hown
   have HB := hide hb
   have HD := hide hdn
   have HR := hide hrev
   have H1 := hide hone
   have hwsz := hb.size
   clear hown hb hdn hrev hone
   go_wp2_with (at_builtin; refine wpList_append_any _ rfl (.tmp 16) (.tmp 20) 23 rfl w.heap.size 5 i0 (.int .u8 0) 1 1 Tryd.underlying23 HI.out HZ0.out HZ1.out HZ2.out rfl (by omega) _ dn.length (BV dn) rfl (HO.out.alloc _) _ (some ⟨wr.heap.size, 0, none⟩) 1 1 [.int .u8 ((q : Int) % 256)] rfl (reads_new wr _ _) (by simp [Value.oneCell']) (by unfold maxLen; omega) (by omega) (by simp; omega) ?_; intro v2 w2 hown2 hgrow2 hat2; have HO2 := hide hown2; have HB2 := hide ((HB.out.trans (below_alloc' wr _ hwsz)).trans (below_grown hgrow2 (HO.out.alloc _) (by simp; omega))); clear hown2 hgrow2 hat2)
   refine ⟨⟨q / 256, dn ++ [UInt8.ofNat q], by go_num, by omega, ?_, ?_, HB2.out⟩, ?_⟩
   ·rw [List.append_assoc, List.singleton_append, ← HR.out]; exact HD.out
   ·rw [List.length_append, BV_append, H1.out]; exact HO2.out
   ·simp [intOf]; omega
theorem refInt_any (z : Int) (w : World) (hz : Wr.inI z) :
  Calls Tryd.prog 26 #[.int .i64 z] w fun e w' => ∃ v, e = .returned v ∧ w'.ownsRow w.heap.size 5 1 v (Wr.enc z).length (BV (Wr.enc z)) ∧ Below w.heap.size w w' := by
 unfold Wr.inI at hz
 by_cases h : z < 0
 ·exact refInt_neg (-1 - z).toNat z w (by omega) h (by omega)
 ·obtain ⟨m, rfl⟩ : ∃ m : Nat, z = (m : Int) := ⟨z.toNat, by omega⟩
  exact refInt_pos m w (by omega)
set_option maxHeartbeats 400000 in
set_option maxRecDepth 100000 in
theorem refBytes_any (s : List UInt8) (w : World) (hs : s.length ≤ 1099511627776) :
  Calls Tryd.prog 27 #[.string (S s)] w fun e w' => ∃ v, e = .returned v ∧ w'.ownsRow w.heap.size 5 1 v (Wr.enc s.length ++ s).length (BV (Wr.enc s.length ++ s)) ∧ Below w.heap.size w w' := by
 obtain ⟨i0, hi, hz0, hz1, hz2⟩ := info_parts byteInfo
 have HI := hide hi
 have HZ0 := hide hz0
 have HZ1 := hide hz1
 have HZ2 := hide hz2
 clear hi hz0 hz1 hz2
 have hle : (S s).size ≤ 1099511627776 := hs
 have HE := hide (fun W => refInt_any (s.length : Int) W (by unfold Wr.inI; omega))
 rw [show ((s.length : Nat) : Int) = (((S s).size : Nat) : Int) from rfl] at HE
 have HC := hide (conv_bytes s)
 have e9 := Wr.enc_le (s.length : Int)
 rw [show ((s.length : Nat) : Int) = (((S s).size : Nat) : Int) from rfl] at e9 ⊢
 have hl2 : (Wr.enc ((S s).size : Int) ++ s).length = (Wr.enc ((S s).size : Int)).length + (S s).size := by rw [List.length_append]; rfl
 have HL := hide hl2
 have HA := hide (BV_append (Wr.enc ((S s).size : Int)) s)
 clear hl2 hs
 generalize Wr.enc ((S s).size : Int) = y at *
 have HO := hide (BV_one s)
 generalize S s = str at *
 go_enter Tryd.func27, Tryd.ntmps27
 go_wp2_with (first
  | (go_at_call 26; refine (unhide HE w).mono ?_; rintro e w1 ⟨v1, rfl, hown1, hb1⟩; obtain ⟨A5, c5, w5, hconv, hrd, hb5⟩ := unhide HC w1; have HO1 := hide (own_below hown1 hb5); have HR := hide hrd; have HB := hide (below_then hb1 hb5); clear hown1 hrd hb1 hb5)
  | (at_builtin; refine wpList_append_any _ rfl (.tmp 5) (.tmp 7) 23 rfl w.heap.size 5 i0 (.int .u8 0) 1 1 Tryd.underlying23 HI.out HZ0.out HZ1.out HZ2.out rfl (by omega) _ y.length (BV y) rfl HO1.out w5.heap.size (some A5) str.size c5 (BV s) rfl HR.out HO.out (by unfold maxLen; omega) (by omega) HB.out.size ?_; intro v2 w2 hown2 hgrow2 hat2; have HO2 := hide hown2; have HB2 := hide (HB.out.trans (below_grown hgrow2 HO1.out HB.out.size)); clear hown2 hgrow2 hat2))
 go_ret
 refine ⟨_, rfl, ?_, HB2.out⟩
 rw [HL.out, HA.out]
 exact HO2.out
end Go.Proofs.YtjnnohghgkjhcaaDoor
namespace Go.Proofs.YtjnnohghgkjhcaaDoor
open Go.RowKit
set_option linter.unusedVariables false
set_option linter.unusedSimpArgs false
set_option maxHeartbeats 400000 in
set_option maxRecDepth 100000 in
theorem getInt_nil (A : Option Addr) (c : Nat) (w : World) :
  Calls Tryd.prog 55 #[.slice A 0 c] w fun e w' => e = .returned (.tuple #[.int .i64 0, .int .i64 0, .int .i64 3]) ∧ w = w' := by
 go_enter Tryd.func55, Tryd.ntmps55
 go_wp2
 go_ret3
 exact ⟨rfl, rfl⟩
theorem kOf_xor (h : UInt8) : (h ^^^ Wr.flipOf h).toNat = 128 + Wr.kOf h := by
 have H : ∀ h : Fin 256, 128 ≤ (UInt8.ofNat h.val ^^^ Wr.flipOf (UInt8.ofNat h.val)).toNat := by decide +kernel
 have := H ⟨h.toNat, h.toNat_lt⟩
 simp only [UInt8.ofNat_toNat] at this
 unfold Wr.kOf
 omega
theorem kOf_le (h : UInt8) : Wr.kOf h ≤ 127 := by unfold Wr.kOf; have := (h ^^^ Wr.flipOf h).toNat_lt; omega
theorem head_neg (h : UInt8) (hs : h.toNat < 128) : bits .xor .u8 (h.toNat : Int) 255 = 128 + (Wr.kOf h : Int) := by
 have hf : Wr.flipOf h = 255 := by unfold Wr.flipOf; rw [if_pos (by rw [UInt8.lt_iff_toNat_lt]; simpa using hs)]
 have := xor_byte h 255
 rw [show ((255 : UInt8).toNat : Int) = 255 from rfl] at this
 have hk := kOf_xor h
 rw [hf] at hk
 omega
theorem head_pos (h : UInt8) (hs : ¬ h.toNat < 128) : bits .xor .u8 (h.toNat : Int) 0 = 128 + (Wr.kOf h : Int) := by
 have hf : Wr.flipOf h = 0 := by unfold Wr.flipOf; rw [if_neg (by rw [UInt8.lt_iff_toNat_lt]; simpa using hs)]
 have := xor_byte h 0
 rw [show ((0 : UInt8).toNat : Int) = 0 from rfl] at this
 have hk := kOf_xor h
 rw [hf] at hk
 omega
def vk (f : UInt8) (t : List UInt8) (j : Nat) : Nat := Wr.val ((t.take j).map (· ^^^ f))
theorem vk_zero (f : UInt8) (t : List UInt8) : vk f t 0 = 0 := rfl
theorem vk_succ (f : UInt8) (t : List UInt8) (j : Nat) (h : j < t.length) : vk f t (j + 1) = vk f t j * 256 + (t[j] ^^^ f).toNat := by
 unfold vk
 rw [List.take_succ_eq_append_getElem h, List.map_append, List.map_singleton, Wr.val_snoc]
theorem vk_lt (f : UInt8) (t : List UInt8) (j : Nat) : vk f t j < 256 ^ j := by
 unfold vk
 have h := Wr.val_lt ((t.take j).map (· ^^^ f))
 have hl : ((t.take j).map (· ^^^ f)).length ≤ j := by simp; omega
 exact Nat.lt_of_lt_of_le h (Nat.pow_le_pow_right (by omega) hl)
theorem or_step (m b : Nat) (hm : m < 72057594037927936) (hb : b < 256) : bits .or .u64 ((m : Int) * 256) (b : Int) = ((m * 256 + b : Nat) : Int) := by
 have h1 : (m : Int) * 256 = ((m * 256 : Nat) : Int) := by omega
 rw [h1, u64_or_nat _ _ (by omega) (by omega), nat_join 8 _ _ (by omega) (by omega)]
theorem dec_full (h : UInt8) (t : List UInt8) (hk8 : Wr.kOf h ≤ 8) (hl : Wr.kOf h ≤ t.length) : Wr.decI (h :: t) =
  if (0 < Wr.kOf h ∧ t.head? = some (Wr.flipOf h)) ∨ 9223372036854775807 < vk (Wr.flipOf h) t (Wr.kOf h) then (0, 0, 2)
  else (if h < 128 then -1 - (vk (Wr.flipOf h) t (Wr.kOf h) : Int) else (vk (Wr.flipOf h) t (Wr.kOf h) : Int), 1 + Wr.kOf h, 0) := by
 rw [Wr.decI_cons, if_neg (by omega), if_neg (by omega)]
 rfl
theorem flip_neg (h : UInt8) (hs : h.toNat < 128) : Wr.flipOf h = 255 ∧ h < 128 := by
 have : h < 128 := by rw [UInt8.lt_iff_toNat_lt]; simpa using hs
 exact ⟨by unfold Wr.flipOf; rw [if_pos this], this⟩
theorem flip_pos (h : UInt8) (hs : ¬ h.toNat < 128) : Wr.flipOf h = 0 ∧ ¬ h < 128 := by
 have : ¬ h < 128 := by rw [UInt8.lt_iff_toNat_lt]; simpa using hs
 exact ⟨by unfold Wr.flipOf; rw [if_neg this], this⟩
theorem dec_bad (h : UInt8) (t : List UInt8) (hk8 : Wr.kOf h ≤ 8) (hl : Wr.kOf h ≤ t.length) (hb : (0 < Wr.kOf h ∧ t.head? = some (Wr.flipOf h)) ∨ 9223372036854775807 < vk (Wr.flipOf h) t (Wr.kOf h)) :
  Wr.decI (h :: t) = (0, 0, 2) := by rw [dec_full h t hk8 hl, if_pos hb]
theorem dec_good (h : UInt8) (t : List UInt8) (hk8 : Wr.kOf h ≤ 8) (hl : Wr.kOf h ≤ t.length) (hb : ¬ ((0 < Wr.kOf h ∧ t.head? = some (Wr.flipOf h)) ∨ 9223372036854775807 < vk (Wr.flipOf h) t (Wr.kOf h))) :
  Wr.decI (h :: t) = (if h < 128 then -1 - (vk (Wr.flipOf h) t (Wr.kOf h) : Int) else (vk (Wr.flipOf h) t (Wr.kOf h) : Int), 1 + Wr.kOf h, 0) := by rw [dec_full h t hk8 hl, if_neg hb]
theorem head_get (t : List UInt8) (f : UInt8) (h : 0 < t.length) : (t.head? = some f) ↔ t[0].toNat = f.toNat := by
 cases t with
 | nil => simp at h
 | cons a r => simp [UInt8.toNat_inj]
theorem vk_lt7 (f : UInt8) (t : List UInt8) (j : Nat) (h : j ≤ 7) : vk f t j < 72057594037927936 :=
 Nat.lt_of_lt_of_le (vk_lt f t j) (Nat.le_trans (Nat.pow_le_pow_right (by omega) h) (by decide))
theorem vk_lt8 (f : UInt8) (t : List UInt8) (j : Nat) (h : j ≤ 8) : vk f t j < 18446744073709551616 :=
 Nat.lt_of_lt_of_le (vk_lt f t j) (Nat.le_trans (Nat.pow_le_pow_right (by omega) h) (by decide))
set_option maxHeartbeats 400000 in
set_option maxRecDepth 100000 in
theorem getInt_early (ad : Addr) (n c : Nat) (h : UInt8) (t : List UInt8) (w : World) (hr : Reads w w.heap.size 1 (some ad) n (BV (h :: t))) (hm : n ≤ maxLen) (hk : 8 < Wr.kOf h ∨ t.length < Wr.kOf h) :
  Calls Tryd.prog 55 #[.slice (some ad) n c] w fun e w' => e = .returned (.tuple #[.int .i64 0, .int .i64 0, .int .i64 (if 8 < Wr.kOf h then 2 else 3)]) ∧ w = w' := by
 have hn : n = t.length + 1 := by have := hr.1; simp [BV] at this; omega
 have hc : w.cell? ad = some (.int .u8 (h.toNat : Int)) := reads_cell hr 0 (by simp)
 have h0 : ((n : Int) == 0) = false := by rw [beq_eq_false_iff_ne]; omega
 have hp : 0 < n := by omega
 have hkl := kOf_le h
 unfold maxLen at hm
 by_cases hs : h.toNat < 128
 ·have hx := head_neg h hs
  by_cases hk8 : 8 < Wr.kOf h
  ·rw [if_pos hk8]
   clear hr hn
   go_enter Tryd.func55, Tryd.ntmps55
   go_wp2
   go_ret3
   exact ⟨rfl, rfl⟩
  ·rw [if_neg hk8]
   have hl : n ≤ Wr.kOf h := by omega
   clear hr hn
   go_enter Tryd.func55, Tryd.ntmps55
   go_wp2
   go_ret3
   exact ⟨rfl, rfl⟩
 ·have hx := head_pos h hs
  by_cases hk8 : 8 < Wr.kOf h
  ·rw [if_pos hk8]
   clear hr hn
   go_enter Tryd.func55, Tryd.ntmps55
   go_wp2
   go_ret3
   exact ⟨rfl, rfl⟩
  ·rw [if_neg hk8]
   have hl : n ≤ Wr.kOf h := by omega
   clear hr hn
   go_enter Tryd.func55, Tryd.ntmps55
   go_wp2
   go_ret3
   exact ⟨rfl, rfl⟩
set_option maxHeartbeats 400000 in
set_option maxRecDepth 100000 in
theorem getInt_loop_neg (ad : Addr) (n c : Nat) (h : UInt8) (t : List UInt8) (w : World) (hr : Reads w w.heap.size 1 (some ad) n (BV (h :: t))) (hm : n ≤ maxLen) (hnc : n ≤ c) (hk8 : Wr.kOf h ≤ 8) (hl : Wr.kOf h ≤ t.length) (hk0 : 0 < Wr.kOf h) (hs : h.toNat < 128) :
  Calls Tryd.prog 55 #[.slice (some ad) n c] w fun e w' => e = .returned (.tuple #[.int .i64 (Wr.decI (h :: t)).1, .int .i64 (Wr.decI (h :: t)).2.1, .int .i64 (Wr.decI (h :: t)).2.2]) ∧ w = w' := by
 have hn : n = t.length + 1 := by have := hr.1; simp [BV] at this; omega
 have hc : w.cell? ad = some (.int .u8 (h.toNat : Int)) := reads_cell hr 0 (by simp)
 have h0 : ((n : Int) == 0) = false := by rw [beq_eq_false_iff_ne]; omega
 have hp : 0 < n := by omega
 have hkl := kOf_le h
 have hc1 : ¬ c = 1 := by omega
 obtain ⟨hfl, hlt128⟩ := flip_neg h hs
 have DB := hide (dec_bad h t hk8 hl)
 have DG := hide (dec_good h t hk8 hl)
 have ht0 : 0 < t.length := by omega
 have HG := hide (head_get t 255 ht0)
 rw [hfl] at DB DG
 rw [if_pos hlt128] at DG
 clear hfl hlt128
 unfold maxLen at hm
 have hx := head_neg h hs
 have hl1 : Wr.kOf h + 1 ≤ n := by omega
 have HR := hide hr
 have HN := hide hn
 clear hr hn
 have hv8 := vk_lt8 255 t (Wr.kOf h) hk8
 generalize hkk : Wr.kOf h = k at *
 have HK := hide hkk
 clear hkk
 have hsub : (128 : Int) + (k : Int) - 128 = k := by omega
 go_enter Tryd.func55, Tryd.ntmps55
 go_wp2
 go_loop [7, 37] (fun m i => ∃ j : Nat, j ≤ k ∧ i = .int .i64 j ∧ m = .int .u64 (vk 255 t j)) (fun _ i => k - (intOf i).toNat)
 case atStart => exact ⟨0, Nat.zero_le _, rfl, rfl⟩
 case round =>
  obtain ⟨j, hj, rfl, rfl⟩ := hrel
  by_cases hlt : j < k
  ·have hcell := reads_far HR.out j (by simp; omega)
   simp only [List.getElem_cons_succ] at hcell
   have hb := (t[j]).toNat_lt
   have hb' := (t[j] ^^^ 255).toNat_lt
   have hxx := xor_byte t[j] 255
   rw [show ((255 : UInt8).toNat : Int) = 255 from rfl] at hxx
   have HV := hide (vk_succ 255 t j (by omega))
   have hv7 := vk_lt7 255 t j (by omega)
   generalize hbb : (t[j]).toNat = b at *
   generalize hcc : (t[j] ^^^ 255).toNat = b' at *
   clear hbb hcc
   go_wp2
   go_round
   case rel => exact ⟨j + 1, by omega, by go_num, by rw [HV.out, or_step _ _ hv7 hb']⟩
   case measure => simp [intOf]; omega
  ·obtain rfl : j = k := by omega
   have hcell := reads_far HR.out 0 (by simp; omega)
   simp only [List.getElem_cons_succ, Nat.add_zero] at hcell
   have hb := (t[0]).toNat_lt
   generalize hbb : (t[0]).toNat = b at *
   clear hbb
   generalize hvv : vk 255 t j = m at *
   clear hvv
   have ht : (255 : UInt8).toNat = 255 := rfl
   rw [ht] at HG
   clear ht
   by_cases hB : b = 255
   ·have hB' : ((b : Int) == 255) = true := by rw [beq_iff_eq]; omega
    have HF := hide (DB.out (.inl ⟨hk0, HG.out.2 hB⟩))
    clear hB
    go_wp2
    go_ret3
    rw [HF.out]
    exact ⟨rfl, rfl⟩
   ·have hB' : ((b : Int) == 255) = false := by rw [beq_eq_false_iff_ne]; omega
    by_cases hM : 9223372036854775807 < m
    ·have HF := hide (DB.out (.inr hM))
     clear hB
     go_wp2
     go_ret3
     rw [HF.out]
     exact ⟨rfl, rfl⟩
    ·have HF := hide (DG.out (fun x => x.elim (fun y => hB (HG.out.1 y.2)) hM))
     clear hB
     go_wp2
     go_ret3
     rw [HF.out]
     exact ⟨by simp, rfl⟩
set_option maxHeartbeats 400000 in
set_option maxRecDepth 100000 in
theorem getInt_loop_pos (ad : Addr) (n c : Nat) (h : UInt8) (t : List UInt8) (w : World) (hr : Reads w w.heap.size 1 (some ad) n (BV (h :: t))) (hm : n ≤ maxLen) (hnc : n ≤ c) (hk8 : Wr.kOf h ≤ 8) (hl : Wr.kOf h ≤ t.length) (hk0 : 0 < Wr.kOf h) (hs : ¬ h.toNat < 128) :
  Calls Tryd.prog 55 #[.slice (some ad) n c] w fun e w' => e = .returned (.tuple #[.int .i64 (Wr.decI (h :: t)).1, .int .i64 (Wr.decI (h :: t)).2.1, .int .i64 (Wr.decI (h :: t)).2.2]) ∧ w = w' := by
 have hn : n = t.length + 1 := by have := hr.1; simp [BV] at this; omega
 have hc : w.cell? ad = some (.int .u8 (h.toNat : Int)) := reads_cell hr 0 (by simp)
 have h0 : ((n : Int) == 0) = false := by rw [beq_eq_false_iff_ne]; omega
 have hp : 0 < n := by omega
 have hkl := kOf_le h
 have hc1 : ¬ c = 1 := by omega
 obtain ⟨hfl, hlt128⟩ := flip_pos h hs
 have DB := hide (dec_bad h t hk8 hl)
 have DG := hide (dec_good h t hk8 hl)
 have ht0 : 0 < t.length := by omega
 have HG := hide (head_get t 0 ht0)
 rw [hfl] at DB DG
 rw [if_neg hlt128] at DG
 clear hfl hlt128
 unfold maxLen at hm
 have hx := head_pos h hs
 have hl1 : Wr.kOf h + 1 ≤ n := by omega
 have HR := hide hr
 have HN := hide hn
 clear hr hn
 have hv8 := vk_lt8 0 t (Wr.kOf h) hk8
 generalize hkk : Wr.kOf h = k at *
 have HK := hide hkk
 clear hkk
 have hsub : (128 : Int) + (k : Int) - 128 = k := by omega
 go_enter Tryd.func55, Tryd.ntmps55
 go_wp2
 go_loop [7, 37] (fun m i => ∃ j : Nat, j ≤ k ∧ i = .int .i64 j ∧ m = .int .u64 (vk 0 t j)) (fun _ i => k - (intOf i).toNat)
 case atStart => exact ⟨0, Nat.zero_le _, rfl, rfl⟩
 case round =>
  obtain ⟨j, hj, rfl, rfl⟩ := hrel
  by_cases hlt : j < k
  ·have hcell := reads_far HR.out j (by simp; omega)
   simp only [List.getElem_cons_succ] at hcell
   have hb := (t[j]).toNat_lt
   have hb' := (t[j] ^^^ 0).toNat_lt
   have hxx := xor_byte t[j] 0
   rw [show ((0 : UInt8).toNat : Int) = 0 from rfl] at hxx
   have HV := hide (vk_succ 0 t j (by omega))
   have hv7 := vk_lt7 0 t j (by omega)
   generalize hbb : (t[j]).toNat = b at *
   generalize hcc : (t[j] ^^^ 0).toNat = b' at *
   clear hbb hcc
   go_wp2
   go_round
   case rel => exact ⟨j + 1, by omega, by go_num, by rw [HV.out, or_step _ _ hv7 hb']⟩
   case measure => simp [intOf]; omega
  ·obtain rfl : j = k := by omega
   have hcell := reads_far HR.out 0 (by simp; omega)
   simp only [List.getElem_cons_succ, Nat.add_zero] at hcell
   have hb := (t[0]).toNat_lt
   generalize hbb : (t[0]).toNat = b at *
   clear hbb
   generalize hvv : vk 0 t j = m at *
   clear hvv
   have ht : (0 : UInt8).toNat = 0 := rfl
   rw [ht] at HG
   clear ht
   by_cases hB : b = 0
   ·have hB' : ((b : Int) == 0) = true := by rw [beq_iff_eq]; omega
    have HF := hide (DB.out (.inl ⟨hk0, HG.out.2 hB⟩))
    clear hB
    go_wp2
    go_ret3
    rw [HF.out]
    exact ⟨rfl, rfl⟩
   ·have hB' : ((b : Int) == 0) = false := by rw [beq_eq_false_iff_ne]; omega
    by_cases hM : 9223372036854775807 < m
    ·have HF := hide (DB.out (.inr hM))
     clear hB
     go_wp2
     go_ret3
     rw [HF.out]
     exact ⟨rfl, rfl⟩
    ·have HF := hide (DG.out (fun x => x.elim (fun y => hB (HG.out.1 y.2)) hM))
     clear hB
     go_wp2
     go_ret3
     rw [HF.out]
     exact ⟨by simp, rfl⟩
set_option maxHeartbeats 400000 in
set_option maxRecDepth 100000 in
theorem getInt_zero_neg_one (ad : Addr) (n c : Nat) (h : UInt8) (t : List UInt8) (w : World) (hr : Reads w w.heap.size 1 (some ad) n (BV (h :: t))) (hm : n ≤ maxLen) (hnc : n ≤ c) (hk0 : Wr.kOf h = 0) (hs : h.toNat < 128) (hc1 : c = 1) :
  Calls Tryd.prog 55 #[.slice (some ad) n c] w fun e w' => e = .returned (.tuple #[.int .i64 (-1), .int .i64 1, .int .i64 0]) ∧ w = w' := by
 have hn : n = t.length + 1 := by have := hr.1; simp [BV] at this; omega
 have hc : w.cell? ad = some (.int .u8 (h.toNat : Int)) := reads_cell hr 0 (by simp)
 have h0 : ((n : Int) == 0) = false := by rw [beq_eq_false_iff_ne]; omega
 have hp : 1 ≤ n := by omega
 unfold maxLen at hm
 have hx := head_neg h hs
 rw [hk0] at hx
 clear hr hn hk0
 go_enter Tryd.func55, Tryd.ntmps55
 go_wp2
 refine wp_loop_rounds 1 ?_
 rw [rounds_succ]
 go_wp2
 go_ret3
 exact ⟨rfl, rfl⟩
set_option maxHeartbeats 400000 in
set_option maxRecDepth 100000 in
theorem getInt_zero_neg_more (ad : Addr) (n c : Nat) (h : UInt8) (t : List UInt8) (w : World) (hr : Reads w w.heap.size 1 (some ad) n (BV (h :: t))) (hm : n ≤ maxLen) (hnc : n ≤ c) (hk0 : Wr.kOf h = 0) (hs : h.toNat < 128) (hc1 : ¬ c = 1) :
  Calls Tryd.prog 55 #[.slice (some ad) n c] w fun e w' => e = .returned (.tuple #[.int .i64 (-1), .int .i64 1, .int .i64 0]) ∧ w = w' := by
 have hn : n = t.length + 1 := by have := hr.1; simp [BV] at this; omega
 have hc : w.cell? ad = some (.int .u8 (h.toNat : Int)) := reads_cell hr 0 (by simp)
 have h0 : ((n : Int) == 0) = false := by rw [beq_eq_false_iff_ne]; omega
 have hp : 1 ≤ n := by omega
 unfold maxLen at hm
 have hx := head_neg h hs
 rw [hk0] at hx
 clear hr hn hk0
 go_enter Tryd.func55, Tryd.ntmps55
 go_wp2
 refine wp_loop_rounds 1 ?_
 rw [rounds_succ]
 go_wp2
 go_ret3
 exact ⟨rfl, rfl⟩
set_option maxHeartbeats 400000 in
set_option maxRecDepth 100000 in
theorem getInt_zero_pos_one (ad : Addr) (n c : Nat) (h : UInt8) (t : List UInt8) (w : World) (hr : Reads w w.heap.size 1 (some ad) n (BV (h :: t))) (hm : n ≤ maxLen) (hnc : n ≤ c) (hk0 : Wr.kOf h = 0) (hs : ¬ h.toNat < 128) (hc1 : c = 1) :
  Calls Tryd.prog 55 #[.slice (some ad) n c] w fun e w' => e = .returned (.tuple #[.int .i64 0, .int .i64 1, .int .i64 0]) ∧ w = w' := by
 have hn : n = t.length + 1 := by have := hr.1; simp [BV] at this; omega
 have hc : w.cell? ad = some (.int .u8 (h.toNat : Int)) := reads_cell hr 0 (by simp)
 have h0 : ((n : Int) == 0) = false := by rw [beq_eq_false_iff_ne]; omega
 have hp : 1 ≤ n := by omega
 unfold maxLen at hm
 have hx := head_pos h hs
 rw [hk0] at hx
 clear hr hn hk0
 go_enter Tryd.func55, Tryd.ntmps55
 go_wp2
 refine wp_loop_rounds 1 ?_
 rw [rounds_succ]
 go_wp2
 go_ret3
 exact ⟨rfl, rfl⟩
set_option maxHeartbeats 400000 in
set_option maxRecDepth 100000 in
theorem getInt_zero_pos_more (ad : Addr) (n c : Nat) (h : UInt8) (t : List UInt8) (w : World) (hr : Reads w w.heap.size 1 (some ad) n (BV (h :: t))) (hm : n ≤ maxLen) (hnc : n ≤ c) (hk0 : Wr.kOf h = 0) (hs : ¬ h.toNat < 128) (hc1 : ¬ c = 1) :
  Calls Tryd.prog 55 #[.slice (some ad) n c] w fun e w' => e = .returned (.tuple #[.int .i64 0, .int .i64 1, .int .i64 0]) ∧ w = w' := by
 have hn : n = t.length + 1 := by have := hr.1; simp [BV] at this; omega
 have hc : w.cell? ad = some (.int .u8 (h.toNat : Int)) := reads_cell hr 0 (by simp)
 have h0 : ((n : Int) == 0) = false := by rw [beq_eq_false_iff_ne]; omega
 have hp : 1 ≤ n := by omega
 unfold maxLen at hm
 have hx := head_pos h hs
 rw [hk0] at hx
 clear hr hn hk0
 go_enter Tryd.func55, Tryd.ntmps55
 go_wp2
 refine wp_loop_rounds 1 ?_
 rw [rounds_succ]
 go_wp2
 go_ret3
 exact ⟨rfl, rfl⟩
theorem getInt_any (A : Option Addr) (n c : Nat) (l : List UInt8) (w : World) (hr : Reads w w.heap.size 1 A n (BV l)) (hm : n ≤ maxLen) (hnc : n ≤ c) :
  Calls Tryd.prog 55 #[.slice A n c] w fun e w' => e = .returned (.tuple #[.int .i64 (Wr.decI l).1, .int .i64 (Wr.decI l).2.1, .int .i64 (Wr.decI l).2.2]) ∧ w = w' := by
 have hn : n = l.length := by have := hr.1; simp [BV] at this; omega
 cases l with
 | nil =>
  simp at hn
  subst hn
  exact getInt_nil A c w
 | cons h t =>
  have hn' : n = t.length + 1 := hn
  obtain ⟨ad, rfl, _, _⟩ := hr.2 (by omega)
  by_cases hk : 8 < Wr.kOf h ∨ t.length < Wr.kOf h
  ·refine (getInt_early ad n c h t w hr hm hk).mono fun e w' he => ?_
   obtain ⟨rfl, rfl⟩ := he
   refine ⟨?_, rfl⟩
   rw [Wr.decI_cons]
   by_cases h8 : 8 < Wr.kOf h
   ·rw [if_pos h8, if_pos h8]; rfl
   ·rw [if_neg h8, if_neg h8, if_pos (by omega)]; rfl
  ·have h8 : Wr.kOf h ≤ 8 := by omega
   have hl : Wr.kOf h ≤ t.length := by omega
   by_cases hk0 : 0 < Wr.kOf h
   ·by_cases hs : h.toNat < 128
    ·exact getInt_loop_neg ad n c h t w hr hm hnc h8 hl hk0 hs
    ·exact getInt_loop_pos ad n c h t w hr hm hnc h8 hl hk0 hs
   ·have hk0 : Wr.kOf h = 0 := by omega
    have hd : ∀ f, vk f t 0 = 0 := fun f => rfl
    by_cases hs : h.toNat < 128
    ·have hdec : Wr.decI (h :: t) = (-1, 1, 0) := by
      rw [dec_full h t h8 hl, hk0, hd, if_neg (by simp), if_pos (flip_neg h hs).2]; rfl
     rw [hdec]
     by_cases hc1 : c = 1
     ·exact getInt_zero_neg_one ad n c h t w hr hm hnc hk0 hs hc1
     ·exact getInt_zero_neg_more ad n c h t w hr hm hnc hk0 hs hc1
    ·have hdec : Wr.decI (h :: t) = (0, 1, 0) := by
      rw [dec_full h t h8 hl, hk0, hd, if_neg (by simp), if_neg (flip_pos h hs).2]; rfl
     rw [hdec]
     by_cases hc1 : c = 1
     ·exact getInt_zero_pos_one ad n c h t w hr hm hnc hk0 hs hc1
     ·exact getInt_zero_pos_more ad n c h t w hr hm hnc hk0 hs hc1
namespace Wr
def decLen (size : Nat) (l : List UInt8) : Int × Nat × Int :=
 if (decI l).2.2 ≠ 0 then (0, 0, (decI l).2.2)
 else if (decI l).1 < 0 then (0, 0, 2)
 else if ((l.length - (decI l).2.1 : Nat) : Int) / (size : Int) < (decI l).1 then (0, 0, 3)
 else decI l
end Wr
set_option maxHeartbeats 400000 in
set_option maxRecDepth 100000 in
theorem getLength_any (A : Option Addr) (n c : Nat) (l : List UInt8) (size : Nat) (w : World) (hr : Reads w w.heap.size 1 A n (BV l)) (hm : n ≤ maxLen) (hnc : n ≤ c) (hs1 : 1 ≤ size) (hs2 : size ≤ 16) :
  Calls Tryd.prog 68 #[.slice A n c, .int .i64 (size : Int)] w fun e w' => e = .returned (.tuple #[.int .i64 (Wr.decLen size l).1, .int .i64 (Wr.decLen size l).2.1, .int .i64 (Wr.decLen size l).2.2]) ∧ w = w' := by
 have hn : n = l.length := by have := hr.1; simp [BV] at this; omega
 have H := getInt_any A n c l w hr hm hnc
 have hu : (Wr.decI l).2.2 = 0 → (Wr.decI l).2.1 ≤ n ∧ Wr.inI (Wr.decI l).1 := fun h0 => by
  have := Wr.enc_dec (l := l) (n := (Wr.decI l).1) (u := (Wr.decI l).2.1) (by rw [← h0])
  exact ⟨by omega, this.1⟩
 have he := Wr.decI_errs l
 have hdef : Wr.decLen size l = if (Wr.decI l).2.2 ≠ 0 then (0, 0, (Wr.decI l).2.2) else if (Wr.decI l).1 < 0 then (0, 0, 2) else if ((n - (Wr.decI l).2.1 : Nat) : Int) / (size : Int) < (Wr.decI l).1 then (0, 0, 3) else Wr.decI l := by rw [hn]; rfl
 generalize hL : Wr.decLen size l = L at *
 generalize Wr.decI l = d at *
 obtain ⟨z, u, er⟩ := d
 simp only at H hu he hdef
 clear hr hn hL
 unfold maxLen at hm
 have H := hide H
 by_cases h1 : er = 0
 ·subst h1
  obtain ⟨hu1, hu2⟩ := hu rfl
  unfold Wr.inI at hu2
  rw [if_neg (by simp)] at hdef
  clear hu he
  by_cases h2 : z < 0
  ·rw [if_pos h2] at hdef
   subst hdef
   go_enter Tryd.func68, Tryd.ntmps68
   go_wp2_with (go_at_call 55; refine (unhide H).mono ?_; rintro e w' ⟨rfl, rfl⟩)
   go_ret3
   exact ⟨rfl, rfl⟩
  ·rw [if_neg h2] at hdef
   have hq : ((n : Int) - (u : Int)) = ((n - u : Nat) : Int) := by omega
   have hq1 : 0 ≤ ((n - u : Nat) : Int) / (size : Int) := Int.ediv_nonneg (by omega) (by omega)
   have hq2 : ((n - u : Nat) : Int) / (size : Int) ≤ 9223372036854775807 := Int.le_trans (Int.ediv_le_self _ (by omega)) (by omega)
   by_cases h3 : ((n - u : Nat) : Int) / (size : Int) < z
   ·rw [if_pos h3] at hdef
    subst hdef
    go_enter Tryd.func68, Tryd.ntmps68
    go_wp2_with (go_at_call 55; refine (unhide H).mono ?_; rintro e w' ⟨rfl, rfl⟩)
    go_ret3
    exact ⟨rfl, rfl⟩
   ·rw [if_neg h3] at hdef
    subst hdef
    go_enter Tryd.func68, Tryd.ntmps68
    go_wp2_with (go_at_call 55; refine (unhide H).mono ?_; rintro e w' ⟨rfl, rfl⟩)
    go_ret3
    exact ⟨rfl, rfl⟩
 ·rw [if_pos (by simpa using h1)] at hdef
  subst hdef
  have hb : (er == 0) = false := by rw [beq_eq_false_iff_ne]; exact h1
  have hb' : (er != 0) = true := by rw [bne_iff_ne]; exact h1
  clear hu he
  go_enter Tryd.func68, Tryd.ntmps68
  go_wp2_with (go_at_call 55; refine (unhide H).mono ?_; rintro e w' ⟨rfl, rfl⟩)
  go_ret3
  exact ⟨rfl, rfl⟩
set_option maxHeartbeats 400000 in
set_option maxRecDepth 100000 in
theorem getBytes_err (A : Option Addr) (n c : Nat) (l : List UInt8) (w : World) (hr : Reads w w.heap.size 1 A n (BV l)) (hm : n ≤ maxLen) (hnc : n ≤ c) (he : (Wr.decLen 1 l).2.2 ≠ 0) :
  Calls Tryd.prog 58 #[.slice A n c] w fun e w' => e = .returned (.tuple #[.string (S []), .int .i64 0, .int .i64 (Wr.decLen 1 l).2.2]) ∧ w = w' := by
 have H := hide (getLength_any A n c l 1 w hr hm hnc (by omega) (by omega))
 generalize Wr.decLen 1 l = d at *
 obtain ⟨z, u, er⟩ := d
 simp only at he H ⊢
 have hb' : (er != 0) = true := by rw [bne_iff_ne]; exact he
 clear hr he
 rw [S_nil]
 go_enter Tryd.func58, Tryd.ntmps58
 go_wp2_with (go_at_call 68; refine (unhide H).mono ?_; rintro e w' ⟨rfl, rfl⟩)
 go_ret3
 exact ⟨rfl, rfl⟩
set_option maxHeartbeats 400000 in
set_option maxRecDepth 100000 in
theorem getBytes_ok (ad : Addr) (n c : Nat) (l : List UInt8) (w : World) (hr : Reads w w.heap.size 1 (some ad) n (BV l)) (hm : n ≤ maxLen) (hnc : n ≤ c) (z u : Nat) (hd : Wr.decLen 1 l = ((z : Int), u, 0)) (hu : 1 ≤ u) (hz : u + z ≤ n) :
  Calls Tryd.prog 58 #[.slice (some ad) n c] w fun e w' => e = .returned (.tuple #[.string (S ((l.drop u).take z)), .int .i64 ((u + z : Nat) : Int), .int .i64 0]) ∧ w = w' := by
 have H := getLength_any (some ad) n c l 1 w hr hm hnc (by omega) (by omega)
 rw [hd] at H
 have H := hide H
 clear hd
 have hn : n = l.length := by have := hr.1; simp [BV] at this; omega
 by_cases hcu : c = u
 ·have hz0 : z = 0 := by omega
  subst hz0
  have hc1 := fun c' => run_conv_reads (P := Tryd.prog) (reads_zero w w.heap.size (some ad)) 23 9 5 c' Tryd.underlying23 Tryd.underlying5 Tryd.underlying9
  have hun : u = n := by omega
  clear hr hn
  unfold maxLen at hm
  rw [List.take_zero]
  generalize S [] = s at *
  subst hcu
  subst hun
  go_enter Tryd.func58, Tryd.ntmps58
  go_wp2_with (go_at_call 68; refine (unhide H).mono ?_; rintro e w' ⟨rfl, rfl⟩)
  go_ret3
  exact ⟨by simp, rfl⟩
 ·have hconv := fun c' => run_conv_reads (P := Tryd.prog) (reads_sub hr u z hz) 23 9 5 c' Tryd.underlying23 Tryd.underlying5 Tryd.underlying9
  clear hr hn
  unfold maxLen at hm
  generalize S ((l.drop u).take z) = s at *
  go_enter Tryd.func58, Tryd.ntmps58
  go_wp2_with (go_at_call 68; refine (unhide H).mono ?_; rintro e w' ⟨rfl, rfl⟩)
  go_ret3
  exact ⟨by simp, rfl⟩
namespace Wr
def decB (l : List UInt8) : List UInt8 × Nat × Int :=
 if (decLen 1 l).2.2 ≠ 0 then ([], 0, (decLen 1 l).2.2) else ((l.drop (decLen 1 l).2.1).take (decLen 1 l).1.toNat, (decLen 1 l).2.1 + (decLen 1 l).1.toNat, 0)
theorem decLen_ok {size : Nat} {l : List UInt8} (hs : 1 ≤ size) (h : (decLen size l).2.2 = 0) :
  decLen size l = decI l ∧ (decI l).2.2 = 0 ∧ 0 ≤ (decLen size l).1 ∧ 1 ≤ (decLen size l).2.1 ∧ (decLen size l).2.1 + size * (decLen size l).1.toNat ≤ l.length := by
 unfold decLen at h ⊢
 by_cases h1 : (decI l).2.2 = 0
 ·rw [if_neg (by simpa using h1)] at h ⊢
  by_cases h2 : (decI l).1 < 0
  ·rw [if_pos h2] at h; simp at h
  ·rw [if_neg h2] at h ⊢
   by_cases h3 : ((l.length - (decI l).2.1 : Nat) : Int) / (size : Int) < (decI l).1
   ·rw [if_pos h3] at h; simp at h
   ·rw [if_neg h3]
    have he := enc_dec (l := l) (n := (decI l).1) (u := (decI l).2.1) (by rw [← h1])
    refine ⟨rfl, h1, by omega, he.2.2.1, ?_⟩
    have h4 : (decI l).1 * (size : Int) ≤ ((l.length - (decI l).2.1 : Nat) : Int) := by
     rw [← Int.le_ediv_iff_mul_le (by omega)]; omega
    have h5 : ((size * (decI l).1.toNat : Nat) : Int) = (decI l).1 * (size : Int) := by
     rw [Int.natCast_mul, Int.toNat_of_nonneg (by omega), Int.mul_comm]
    omega
 ·rw [if_pos (by simpa using h1)] at h
  exact absurd h h1
end Wr
theorem getBytes_any (A : Option Addr) (n c : Nat) (l : List UInt8) (w : World) (hr : Reads w w.heap.size 1 A n (BV l)) (hm : n ≤ maxLen) (hnc : n ≤ c) :
  Calls Tryd.prog 58 #[.slice A n c] w fun e w' => e = .returned (.tuple #[.string (S (Wr.decB l).1), .int .i64 (Wr.decB l).2.1, .int .i64 (Wr.decB l).2.2]) ∧ w = w' := by
 have hn : n = l.length := by have := hr.1; simp [BV] at this; omega
 unfold Wr.decB
 by_cases he : (Wr.decLen 1 l).2.2 = 0
 ·obtain ⟨_, _, h1, h2, h3⟩ := Wr.decLen_ok (by omega) he
  rw [if_neg (by simpa using he)]
  obtain ⟨ad, rfl, _, _⟩ := hr.2 (by omega)
  exact getBytes_ok ad n c l w hr hm hnc (Wr.decLen 1 l).1.toNat (Wr.decLen 1 l).2.1 (by rw [Int.toNat_of_nonneg h1, ← he]) h2 (by omega)
 ·rw [if_pos (by simpa using he)]
  exact getBytes_err A n c l w hr hm hnc he
end Go.Proofs.YtjnnohghgkjhcaaDoor
namespace Go.Proofs.YtjnnohghgkjhcaaDoor
set_option linter.unusedVariables false
set_option linter.unusedSimpArgs false
namespace Wr
end Wr
end Go.Proofs.YtjnnohghgkjhcaaDoor
namespace Go.Proofs.YtjnnohghgkjhcaaDoor
open Go.RowKit
set_option linter.unusedVariables false
set_option linter.unusedSimpArgs false
set_option maxHeartbeats 400000 in
set_option maxRecDepth 100000 in
theorem int_any (z : Int) (w : World) (hz : Wr.inI z) :
  Calls Tryd.prog 23 #[.int .i64 z] w fun e w' => ∃ v, e = .returned v ∧ w'.ownsRow w.heap.size 5 1 v (Wr.enc z).length (BV (Wr.enc z)) ∧ Below w.heap.size w w' := by
 have HA := hide (fun c (w1 : World) (h : w1.ownsRow w.heap.size 5 1 (.slice (some ⟨w.heap.size, 0, none⟩) 0 c) 0 []) (hs : w.heap.size ≤ w1.heap.size) =>
  addInt_any w.heap.size (some ⟨w.heap.size, 0, none⟩) 0 c z [] w1 h hs (by omega) hz)
 have hz2 := hz
 unfold Wr.inI at hz2
 obtain ⟨i0, hi, hz0, hz1, hz3⟩ := info_parts byteInfo
 have HI := hide hi
 have HZ0 := hide hz0
 have HZ1 := hide hz1
 have HZ2 := hide hz3
 clear hi hz0 hz1 hz3 hz
 go_enter Tryd.func23, Tryd.ntmps23
 go_wp2_with (at_make; refine wpList_make_own _ rfl _ _ 23 rfl w.heap.size 5 i0 (.int .u8 0) 1 Tryd.underlying23 HI.out HZ0.out HZ1.out _ _ _ 9 rfl rfl (by omega) (by rw [HZ2.out]; omega) (by unfold maxLen; omega) (Nat.le_refl _) ?_; intro w1 hown1 hgrow1)
 refine (unhide HA _ w1 hown1 hgrow1.size).mono ?_
 rintro e w2 ⟨v2, rfl, hown2, hb2⟩
 have HO2 := hide hown2
 have HB := hide (((Below.refl w.heap.size w).grown hgrow1 (Nat.le_refl _) (by simp)).trans hb2)
 clear hown1 hgrow1 hown2 hb2
 go_wp2
 go_ret
 refine ⟨v2, rfl, ?_, HB.out⟩
 have := HO2.out
 rw [Nat.zero_add, List.nil_append] at this
 exact this
end Go.Proofs.YtjnnohghgkjhcaaDoor
