/-
  Plain mathematics of layer 3: chains, trees, signatures, over lists of bytes. Nothing here speaks of the program or of memory.
-/
import Derived.Test.YtedgjpoejoepjaaDoorShort
import Derived.Test.YtedgjpoejoepjaaDoorMasked
namespace Go.Proofs.YtedgjpoejoepjaaDoor.Sg
set_option linter.unusedVariables false
set_option linter.unusedSimpArgs false

def intsB (xs : List Int) : List UInt8 := Wr.enc xs.length ++ Wr.encL Wr.enc xs
def ofB (z : Int) (xs : List (List UInt8)) : List UInt8 := digestOf (inputOf z xs)
def chainT : List UInt8 := [99, 104, 97, 105, 110]
/-- the value of a chain at the height 0 -/
def start (s : List UInt8) (i c : Int) : List UInt8 := (Sha.mac s (chainT ++ intsB [i, c])).take 16
/-- a value, so many heights further on from the height t -/
def adv (i c : Int) (v : List UInt8) (t : Int) : Nat → List UInt8
  | 0 => v
  | n + 1 => ofB 5 [intsB [i, c, t + n], adv i c v t n]
def cat (n : Nat) (f : Nat → List UInt8) : List UInt8 := (List.range n).flatMap f
def leafOf (vals : Nat → List UInt8) : List UInt8 := ofB 1 [ofB 3 [cat 68 vals]]
def top (s : List UInt8) (i c : Int) : List UInt8 := adv i c (start s i c) 0 3
def join (a b : List UInt8) : List UInt8 := ofB 2 [a, b]
def node (s : List UInt8) : Nat → Nat → List UInt8
  | 0, i => leafOf fun c => top s i c
  | l + 1, i => join (node s l (2 * i)) (node s l (2 * i + 1))
/-- the neighbour of a node -/
def sib (x : Nat) : Nat := if x % 2 = 0 then x + 1 else x - 1
def pub (s : List UInt8) (h : Nat) : List UInt8 := node s h 0
def digestP (p : List UInt8) (i : Int) (m : List UInt8) : List UInt8 := ofB 4 [p, Wr.enc i, m]
/-- the digits of a digest -/
def digit (d : List UInt8) (i : Nat) : Nat := (d.getD (i / 4) 0).toNat / 4 ^ (3 - i % 4) % 4
def lack (d : List UInt8) : Nat → Nat
  | 0 => 0
  | n + 1 => lack d n + (3 - digit d n)
def dig (d : List UInt8) (i : Nat) : Nat := if i < 64 then digit d i else lack d 64 / 4 ^ (67 - i) % 4
/-- the digits and those of the checksum -/
def digits (d : List UInt8) : List Int := (List.range 68).map fun i => (dig d i : Int)
/-- the piece of 16 bytes with a number -/
def part (l : List UInt8) (n : Nat) : List UInt8 := (l.drop (16 * n)).take 16
def sig (s : List UInt8) (h i : Nat) (m : List UInt8) : List UInt8 :=
  Wr.enc i ++ (cat 68 (fun c => adv i c (start s i c) 0 (dig (digestP (pub s h) i m) c)) ++ cat h fun l => node s l (sib (i / 2 ^ l)))
def climb (i : Nat) (rest : List UInt8) (d : List UInt8) : Nat → List UInt8
  | 0 => d
  | n + 1 => if i / 2 ^ n % 2 = 0 then join (climb i rest d n) (part rest (68 + n)) else join (part rest (68 + n)) (climb i rest d n)
def verLeaf (p : List UInt8) (i : Nat) (m rest : List UInt8) : List UInt8 := leafOf fun c => adv i c (part rest c) (dig (digestP p i m) c) (3 - dig (digestP p i m) c)
def verRoot (p : List UInt8) (h i : Nat) (m rest : List UInt8) : List UInt8 := climb i rest (verLeaf p i m rest) h
/-- what Verify answers -/
def ver (p : List UInt8) (h : Int) (m s : List UInt8) : Int × Int :=
  if ¬ (0 ≤ h ∧ h ≤ 6) then (0, 1)
  else if 1048576 < m.length then (0, 4)
  else if (Wr.decI s).2.2 ≠ 0 then (0, (Wr.decI s).2.2)
  else if ¬ (0 ≤ (Wr.decI s).1 ∧ (Wr.decI s).1 < 2 ^ h.toNat) ∨ (s.drop (Wr.decI s).2.1).length ≠ (68 + h.toNat) * 16 then (0, 2)
  else if verRoot p h.toNat (Wr.decI s).1.toNat m (s.drop (Wr.decI s).2.1) = p then ((Wr.decI s).1, 0) else (0, 10)

theorem ofB_len (z : Int) (xs : List (List UInt8)) : (ofB z xs).length = 16 := digestOf_len _
theorem mac_len (k t : List UInt8) : (Sha.mac k t).length = 32 := Sha.sum_len _
theorem start_len (s : List UInt8) (i c : Int) : (start s i c).length = 16 := by unfold start; rw [List.length_take, mac_len]; rfl
theorem adv_len (i c : Int) (v : List UInt8) (t : Int) (h : v.length = 16) : ∀ n, (adv i c v t n).length = 16
  | 0 => h
  | n + 1 => ofB_len _ _
theorem top_len (s : List UInt8) (i c : Int) : (top s i c).length = 16 := adv_len _ _ _ _ (start_len _ _ _) 3
theorem leaf_len (v : Nat → List UInt8) : (leafOf v).length = 16 := ofB_len _ _
theorem join_len (a b : List UInt8) : (join a b).length = 16 := ofB_len _ _
theorem node_len (s : List UInt8) : ∀ l i, (node s l i).length = 16
  | 0, i => leaf_len _
  | l + 1, i => join_len _ _
theorem climb_len (i : Nat) (r d : List UInt8) (h : d.length = 16) : ∀ n, (climb i r d n).length = 16
  | 0 => h
  | n + 1 => by unfold climb; split <;> exact join_len _ _
theorem digit_le (d : List UInt8) (i : Nat) : digit d i ≤ 3 := by unfold digit; omega
theorem dig_le (d : List UInt8) (i : Nat) : dig d i ≤ 3 := by unfold dig; split; exact digit_le d i; omega
theorem lack_le (d : List UInt8) : ∀ n, lack d n ≤ 3 * n
  | 0 => Nat.le_refl _
  | n + 1 => by have := lack_le d n; unfold lack; omega
theorem digits_len (d : List UInt8) : (digits d).length = 68 := by simp [digits]
theorem digits_get (d : List UInt8) (i : Nat) (h : i < 68) : (digits d)[i]? = some (dig d i : Int) := by simp [digits, h]
theorem cat_zero (f : Nat → List UInt8) : cat 0 f = [] := rfl
theorem cat_succ (n : Nat) (f : Nat → List UInt8) : cat (n + 1) f = cat n f ++ f n := by simp [cat, List.range_succ, List.flatMap_append]
theorem cat_len (f : Nat → List UInt8) : ∀ n, (∀ k, k < n → (f k).length = 16) → (cat n f).length = 16 * n
  | 0, _ => rfl
  | n + 1, h => by rw [cat_succ, List.length_append, cat_len f n (fun k hk => h k (by omega)), h n (by omega)]; omega
theorem cat_congr (f g : Nat → List UInt8) : ∀ n, (∀ k, k < n → f k = g k) → cat n f = cat n g
  | 0, _ => rfl
  | n + 1, h => by rw [cat_succ, cat_succ, cat_congr f g n (fun k hk => h k (by omega)), h n (by omega)]
theorem leaf_congr (f g : Nat → List UInt8) (h : ∀ c, c < 68 → f c = g c) : leafOf f = leafOf g := by unfold leafOf; rw [cat_congr f g 68 h]
theorem part_cat (f : Nat → List UInt8) (r : List UInt8) : ∀ n, (∀ k, k < n → (f k).length = 16) → ∀ k, k < n → part (cat n f ++ r) k = f k
  | 0, _, k, hk => by omega
  | n + 1, h, k, hk => by
    have hl := cat_len f n (fun k hk => h k (by omega))
    rw [cat_succ, List.append_assoc]
    rcases Nat.lt_or_ge k n with hkn | hkn
    · exact part_cat f (f n ++ r) n (fun k hk => h k (by omega)) k hkn
    · obtain rfl : k = n := by omega
      unfold part
      rw [List.drop_append_of_le_length (by omega), List.drop_of_length_le (by omega), List.nil_append, List.take_append_of_le_length (by rw [h k (by omega)]; omega), List.take_of_length_le (by rw [h k (by omega)]; omega)]
theorem part_past (f : Nat → List UInt8) (r : List UInt8) (n : Nat) (h : ∀ k, k < n → (f k).length = 16) (k : Nat) : part (cat n f ++ r) (n + k) = part r k := by
  have hl := cat_len f n h
  unfold part
  rw [List.drop_append, List.drop_of_length_le (by omega), hl, show 16 * (n + k) - 16 * n = 16 * k by omega]
  rfl
theorem part_len (l : List UInt8) (n : Nat) (h : 16 * (n + 1) ≤ l.length) : (part l n).length = 16 := by unfold part; rw [List.length_take, List.length_drop]; omega
theorem adv_adv (i c : Int) (v : List UInt8) (a : Nat) : ∀ b, adv i c (adv i c v 0 a) a b = adv i c v 0 (a + b)
  | 0 => rfl
  | b + 1 => by
    show ofB 5 [intsB [i, c, (a : Int) + b], adv i c (adv i c v 0 a) a b] = ofB 5 [intsB [i, c, 0 + ((a + b : Nat) : Int)], adv i c v 0 (a + b)]
    rw [adv_adv i c v a b, show (0 : Int) + ((a + b : Nat) : Int) = (a : Int) + b by omega]
theorem sib_even (x : Nat) (h : x % 2 = 0) : 2 * (x / 2) = x ∧ 2 * (x / 2) + 1 = sib x := by unfold sib; rw [if_pos h]; omega
theorem sib_odd (x : Nat) (h : x % 2 ≠ 0) : 2 * (x / 2) = sib x ∧ 2 * (x / 2) + 1 = x := by unfold sib; rw [if_neg h]; omega

/-- climbing from the right leaf, with the right neighbours, leads to the node above -/
theorem climb_node (s : List UInt8) (i h : Nat) (rest : List UInt8) (hp : ∀ l, l < h → part rest (68 + l) = node s l (sib (i / 2 ^ l))) : ∀ n, n ≤ h → climb i rest (node s 0 i) n = node s n (i / 2 ^ n)
  | 0, _ => by simp [climb]
  | n + 1, hn => by
    have e : i / 2 ^ (n + 1) = i / 2 ^ n / 2 := by rw [Nat.pow_succ, Nat.div_div_eq_div_mul]
    unfold climb
    rw [climb_node s i h rest hp n (by omega), hp n (by omega), e]
    show _ = join (node s n (2 * (i / 2 ^ n / 2))) (node s n (2 * (i / 2 ^ n / 2) + 1))
    split
    · rename_i hx
      obtain ⟨h1, h2⟩ := sib_even _ hx
      rw [h1, ← h2, h1]
    · rename_i hx
      obtain ⟨h1, h2⟩ := sib_odd _ hx
      rw [h2, h1]
theorem sig_len (s : List UInt8) (h i : Nat) (m : List UInt8) : (sig s h i m).length = (Wr.enc i).length + (68 + h) * 16 := by
  unfold sig
  rw [List.length_append, List.length_append, cat_len _ 68 (fun k _ => adv_len _ _ _ _ (start_len _ _ _) _), cat_len _ h (fun k _ => node_len s _ _)]
  omega
/-- P3.5: what is signed is accepted -/
theorem ver_sig (s : List UInt8) (h i : Nat) (m : List UInt8) (hh : h ≤ 6) (hi : i < 2 ^ h) (hm : m.length ≤ 1048576) : ver (pub s h) h m (sig s h i m) = ((i : Int), 0) := by
  have hi6 : i < 64 := Nat.lt_of_lt_of_le hi (Nat.pow_le_pow_right (by omega) hh)
  have hd : Wr.decI (sig s h i m) = ((i : Int), (Wr.enc i).length, 0) := Wr.dec_enc (by unfold Wr.inI; omega) _
  have hdrop : (sig s h i m).drop (Wr.enc i).length = cat 68 (fun c => adv i c (start s i c) 0 (dig (digestP (pub s h) i m) c)) ++ cat h fun l => node s l (sib (i / 2 ^ l)) := by unfold sig; rw [List.drop_left]
  have hl1 : ∀ k, k < 68 → ((fun c : Nat => adv i c (start s i c) 0 (dig (digestP (pub s h) i m) c)) k).length = 16 := fun k _ => adv_len _ _ _ _ (start_len _ _ _) _
  unfold ver
  rw [if_neg (by omega), if_neg (by omega), hd]
  simp only []
  rw [if_neg (by simp), if_neg, if_pos]
  · rw [hdrop, Int.toNat_natCast, Int.toNat_natCast]
    have hleaf : verLeaf (pub s h) i m (cat 68 (fun c => adv i c (start s i c) 0 (dig (digestP (pub s h) i m) c)) ++ cat h fun l => node s l (sib (i / 2 ^ l))) = node s 0 i := by
      unfold verLeaf
      refine leaf_congr _ _ fun c hc => ?_
      rw [part_cat _ _ 68 hl1 c hc, adv_adv]
      have := dig_le (digestP (pub s h) i m) c
      rw [show dig (digestP (pub s h) i m) c + (3 - dig (digestP (pub s h) i m) c) = 3 by omega]
      rfl
    unfold verRoot
    rw [hleaf, climb_node s i h _ _ h (Nat.le_refl _), Nat.div_eq_of_lt hi]
    · rfl
    · intro l hl
      rw [part_past _ _ 68 hl1]
      have := part_cat (fun l => node s l (sib (i / 2 ^ l))) [] h (fun k _ => node_len s _ _) l hl
      rwa [List.append_nil] at this
  · rw [hdrop, List.length_append, cat_len _ 68 hl1, cat_len _ h (fun k _ => node_len s _ _), Int.toNat_natCast]
    have : (i : Int) < 2 ^ h := by exact_mod_cast hi
    omega
end Go.Proofs.YtedgjpoejoepjaaDoor.Sg
