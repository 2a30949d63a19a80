/-
  SHA-256 over natural numbers, in a form that is quickly reckoned, and that it is Sha.sum. Nothing here speaks of the program.
-/
import Derived.Test.YtedgjpoejoepjaaDoorSha
namespace Go.Proofs.YtedgjpoejoepjaaDoor.Sha
set_option linter.unusedVariables false
set_option linter.unusedSimpArgs false

/-- a number is reckoned before it is handed on -/
noncomputable def F (n : Nat) (k : Nat → List Nat) : List Nat := Nat.rec (motive := fun _ => List Nat) (k (nat_lit 0)) (fun m _ => k (Nat.succ m)) n
theorem F_is (n : Nat) (k : Nat → List Nat) : F n k = k n := by cases n <;> rfl
def rotN (x n m : Nat) : Nat := Nat.lor (Nat.shiftRight x n) (Nat.mod (Nat.shiftLeft x m) (nat_lit 4294967296))
def addN (x y : Nat) : Nat := Nat.mod (Nat.add x y) (nat_lit 4294967296)
def x3 (x y z : Nat) : Nat := Nat.xor (Nat.xor x y) z
def S0 (a : Nat) : Nat := x3 (rotN a (nat_lit 2) (nat_lit 30)) (rotN a (nat_lit 13) (nat_lit 19)) (rotN a (nat_lit 22) (nat_lit 10))
def S1 (a : Nat) : Nat := x3 (rotN a (nat_lit 6) (nat_lit 26)) (rotN a (nat_lit 11) (nat_lit 21)) (rotN a (nat_lit 25) (nat_lit 7))
def g0 (a : Nat) : Nat := x3 (rotN a (nat_lit 7) (nat_lit 25)) (rotN a (nat_lit 18) (nat_lit 14)) (Nat.shiftRight a (nat_lit 3))
def g1 (a : Nat) : Nat := x3 (rotN a (nat_lit 17) (nat_lit 15)) (rotN a (nat_lit 19) (nat_lit 13)) (Nat.shiftRight a (nat_lit 10))
def chN (e f g : Nat) : Nat := Nat.xor (Nat.land e f) (Nat.land (Nat.sub (nat_lit 4294967295) e) g)
def majN (a b c : Nat) : Nat := x3 (Nat.land a b) (Nat.land a c) (Nat.land b c)
noncomputable def rnd (ks : List Nat) : Nat → Nat → Nat → Nat → Nat → Nat → Nat → Nat → Nat → Nat → Nat → Nat → Nat → Nat → Nat → Nat → Nat → Nat → Nat → Nat → Nat → Nat → Nat → Nat → List Nat :=
  List.rec (motive := fun _ => Nat → Nat → Nat → Nat → Nat → Nat → Nat → Nat → Nat → Nat → Nat → Nat → Nat → Nat → Nat → Nat → Nat → Nat → Nat → Nat → Nat → Nat → Nat → Nat → List Nat)
    (fun _ _ _ _ _ _ _ _ _ _ _ _ _ _ _ _ a b c d e f g h => [a, b, c, d, e, f, g, h])
    (fun k _ ih w0 w1 w2 w3 w4 w5 w6 w7 w8 w9 w10 w11 w12 w13 w14 w15 a b c d e f g h =>
      F (addN (addN (addN (addN h (S1 e)) (chN e f g)) k) w0) fun x =>
      F (addN x (addN (S0 a) (majN a b c))) fun a' =>
      F (addN d x) fun e' =>
      F (addN (addN (addN w0 (g0 w1)) w9) (g1 w14)) fun w16 =>
      ih w1 w2 w3 w4 w5 w6 w7 w8 w9 w10 w11 w12 w13 w14 w15 w16 a' a b c e' e f g) ks

theorem rnd_cons (k : Nat) (ks : List Nat) (w0 w1 w2 w3 w4 w5 w6 w7 w8 w9 w10 w11 w12 w13 w14 w15 a b c d e f g h : Nat) : rnd (k :: ks) w0 w1 w2 w3 w4 w5 w6 w7 w8 w9 w10 w11 w12 w13 w14 w15 a b c d e f g h =
      F (addN (addN (addN (addN h (S1 e)) (chN e f g)) k) w0) fun x =>
      F (addN x (addN (S0 a) (majN a b c))) fun a' =>
      F (addN d x) fun e' =>
      F (addN (addN (addN w0 (g0 w1)) w9) (g1 w14)) fun w16 =>
      rnd ks w1 w2 w3 w4 w5 w6 w7 w8 w9 w10 w11 w12 w13 w14 w15 w16 a' a b c e' e f g := rfl

theorem rot_is (x : UInt32) (n : Nat) (h0 : 0 < n) (h : n < 32) : (rotr x (UInt32.ofNat n)).toNat = rotN x.toNat n (32 - n) := by
  unfold rotr rotN
  have h1 : (UInt32.ofNat n).toNat = n := by rw [UInt32.toNat_ofNat']; omega
  have h2 : (32 - UInt32.ofNat n).toNat = 32 - n := by
    rw [UInt32.toNat_sub_of_le _ _ (by rw [UInt32.le_iff_toNat_le, h1]; simp; omega), h1]; rfl
  rw [UInt32.toNat_or, UInt32.toNat_shiftRight, UInt32.toNat_shiftLeft, h1, h2, Nat.mod_eq_of_lt h, Nat.mod_eq_of_lt (a := 32 - n) (b := 32) (by omega)]
  rfl
theorem add_is (x y : UInt32) : (x + y).toNat = addN x.toNat y.toNat := UInt32.toNat_add x y
theorem s0_is (x : UInt32) : (s0 x).toNat = g0 x.toNat := by
  unfold s0 g0 x3
  rw [UInt32.toNat_xor, UInt32.toNat_xor, UInt32.toNat_shiftRight]
  have h7 := rot_is x 7 (by omega) (by omega)
  have h18 := rot_is x 18 (by omega) (by omega)
  rw [show (UInt32.ofNat 7) = 7 from rfl] at h7
  rw [show (UInt32.ofNat 18) = 18 from rfl] at h18
  rw [h7, h18]
  rfl
theorem s1_is (x : UInt32) : (s1 x).toNat = g1 x.toNat := by
  unfold s1 g1 x3
  rw [UInt32.toNat_xor, UInt32.toNat_xor, UInt32.toNat_shiftRight]
  have h7 := rot_is x 17 (by omega) (by omega)
  have h18 := rot_is x 19 (by omega) (by omega)
  rw [show (UInt32.ofNat 17) = 17 from rfl] at h7
  rw [show (UInt32.ofNat 19) = 19 from rfl] at h18
  rw [h7, h18]
  rfl
theorem S0_is (x : UInt32) : (rotr x 2 ^^^ rotr x 13 ^^^ rotr x 22).toNat = S0 x.toNat := by
  unfold S0 x3
  rw [UInt32.toNat_xor, UInt32.toNat_xor]
  have h1 := rot_is x 2 (by omega) (by omega)
  have h2 := rot_is x 13 (by omega) (by omega)
  have h3 := rot_is x 22 (by omega) (by omega)
  rw [show (UInt32.ofNat 2) = 2 from rfl] at h1
  rw [show (UInt32.ofNat 13) = 13 from rfl] at h2
  rw [show (UInt32.ofNat 22) = 22 from rfl] at h3
  rw [h1, h2, h3]
  rfl
theorem S1_is (x : UInt32) : (rotr x 6 ^^^ rotr x 11 ^^^ rotr x 25).toNat = S1 x.toNat := by
  unfold S1 x3
  rw [UInt32.toNat_xor, UInt32.toNat_xor]
  have h1 := rot_is x 6 (by omega) (by omega)
  have h2 := rot_is x 11 (by omega) (by omega)
  have h3 := rot_is x 25 (by omega) (by omega)
  rw [show (UInt32.ofNat 6) = 6 from rfl] at h1
  rw [show (UInt32.ofNat 11) = 11 from rfl] at h2
  rw [show (UInt32.ofNat 25) = 25 from rfl] at h3
  rw [h1, h2, h3]
  rfl
theorem ch_is (e f g : UInt32) : (e &&& f ^^^ ~~~ e &&& g).toNat = chN e.toNat f.toNat g.toNat := by
  rw [UInt32.toNat_xor, UInt32.toNat_and, UInt32.toNat_and, UInt32.toNat_not]
  rfl
theorem maj_is (a b c : UInt32) : (a &&& b ^^^ a &&& c ^^^ b &&& c).toNat = majN a.toNat b.toNat c.toNat := by
  rw [UInt32.toNat_xor, UInt32.toNat_xor, UInt32.toNat_and, UInt32.toNat_and, UInt32.toNat_and]
  rfl
theorem stepX_is (s : R) (k w : UInt32) : (stepX s k w).toNat = addN (addN (addN (addN s.h.toNat (S1 s.e.toNat)) (chN s.e.toNat s.f.toNat s.g.toNat)) k.toNat) w.toNat := by
  unfold stepX
  rw [add_is, add_is, add_is, add_is, S1_is, ch_is]
theorem stepY_is (s : R) : (stepY s).toNat = addN (S0 s.a.toNat) (majN s.a.toNat s.b.toNat s.c.toNat) := by
  unfold stepY
  rw [add_is, S0_is, maj_is]

/-- the rounds, over any sequence of words that keeps the rule of the schedule -/
theorem rnd_is (W : Nat → UInt32) (hW : ∀ t, W (t + 16) = W t + s0 (W (t + 1)) + W (t + 9) + s1 (W (t + 14))) : ∀ (ks : List UInt32) (t : Nat) (s : R),
    rnd (ks.map UInt32.toNat) (W t).toNat (W (t + 1)).toNat (W (t + 2)).toNat (W (t + 3)).toNat (W (t + 4)).toNat (W (t + 5)).toNat (W (t + 6)).toNat (W (t + 7)).toNat (W (t + 8)).toNat (W (t + 9)).toNat (W (t + 10)).toNat (W (t + 11)).toNat (W (t + 12)).toNat (W (t + 13)).toNat (W (t + 14)).toNat (W (t + 15)).toNat
      s.a.toNat s.b.toNat s.c.toNat s.d.toNat s.e.toNat s.f.toNat s.g.toNat s.h.toNat = ((ks.zip ((List.range' t ks.length).map W)).foldl (fun s p => step s p.1 p.2) s).list.map UInt32.toNat
  | [], t, s => rfl
  | k :: ks, t, s => by
    have ih := rnd_is W hW ks (t + 1) (step s k (W t))
    simp only [List.map_cons, List.length_cons, List.range'_succ, List.zip_cons_cons, List.foldl_cons]
    rw [← ih]
    rw [rnd_cons, F_is, F_is, F_is, F_is]
    have e1 : addN (addN (addN (addN s.h.toNat (S1 s.e.toNat)) (chN s.e.toNat s.f.toNat s.g.toNat)) k.toNat) (W t).toNat = (stepX s k (W t)).toNat := (stepX_is s k (W t)).symm
    have e2 : addN (addN (addN (W t).toNat (g0 (W (t + 1)).toNat)) (W (t + 9)).toNat) (g1 (W (t + 14)).toNat) = (W (t + 16)).toNat := by rw [hW, add_is, add_is, add_is, s0_is, s1_is]
    have e3 : addN (stepX s k (W t)).toNat (addN (S0 s.a.toNat) (majN s.a.toNat s.b.toNat s.c.toNat)) = (stepX s k (W t) + stepY s).toNat := by rw [add_is, stepY_is]
    have e4 : addN s.d.toNat (stepX s k (W t)).toNat = (s.d + stepX s k (W t)).toNat := (add_is _ _).symm
    simp only [e1, e2, e3, e4]
    rfl

/-- the sequence of words of a block, without end -/
def Wd (ws : List UInt32) (t : Nat) : UInt32 := (sched ws t).getD t 0
theorem sched_len (ws : List UInt32) (h : ws.length = 16) : ∀ n, (sched ws n).length = 16 + n
  | 0 => by simp [sched, h]
  | n + 1 => by simp [sched, sched_len ws h n]; omega
theorem sched_get (ws : List UInt32) (h : ws.length = 16) (n t : Nat) (ht : t < 16 + n) : ∀ k, (sched ws (n + k)).getD t 0 = (sched ws n).getD t 0
  | 0 => rfl
  | k + 1 => by
    have hl := sched_len ws h (n + k)
    show (sched ws (n + k) ++ [_]).getD t 0 = _
    unfold List.getD
    rw [List.getElem?_append_left (by omega)]
    exact sched_get ws h n t ht k
theorem sched_wd (ws : List UInt32) (h : ws.length = 16) (n t : Nat) (ht : t < 16 + n) : (sched ws n).getD t 0 = Wd ws t := by
  unfold Wd
  rcases Nat.le_total n t with hnt | hnt
  · obtain ⟨k, rfl⟩ := Nat.le.dest hnt
    exact (sched_get ws h n (n + k) ht k).symm
  · obtain ⟨k, rfl⟩ := Nat.le.dest hnt
    exact sched_get ws h t t (by omega) k
theorem wd_rule (ws : List UInt32) (h : ws.length = 16) (t : Nat) : Wd ws (t + 16) = Wd ws t + s0 (Wd ws (t + 1)) + Wd ws (t + 9) + s1 (Wd ws (t + 14)) := by
  have hl := sched_len ws h t
  rw [← sched_wd ws h (t + 1) (t + 16) (by omega)]
  show (sched ws t ++ [next (sched ws t) (16 + t)]).getD (t + 16) 0 = _
  rw [show (sched ws t ++ [next (sched ws t) (16 + t)]).getD (t + 16) 0 = next (sched ws t) (16 + t) by
    unfold List.getD
    rw [List.getElem?_append_right (by omega), show t + 16 - (sched ws t).length = 0 by omega]
    rfl]
  unfold next
  rw [show 16 + t - 16 = t by omega, show 16 + t - 15 = t + 1 by omega, show 16 + t - 7 = t + 9 by omega, show 16 + t - 2 = t + 14 by omega, sched_wd ws h t t (by omega), sched_wd ws h t (t + 1) (by omega), sched_wd ws h t (t + 9) (by omega), sched_wd ws h t (t + 14) (by omega)]
theorem sched_all (ws : List UInt32) (h : ws.length = 16) (t : Nat) (ht : t < 64) : (sched ws 48).getD t 0 = Wd ws t := sched_wd ws h 48 t (by omega)
theorem rounds_fold (ws : List UInt32) (h : ws.length = 16) (s : R) : ∀ n, n ≤ 64 → rounds (sched ws 48) s n = ((K.take n).zip ((List.range' 0 n).map (Wd ws))).foldl (fun s p => step s p.1 p.2) s
  | 0, _ => rfl
  | n + 1, hn => by
    have hK : K.length = 64 := rfl
    rw [List.take_succ_eq_append_getElem (by omega), List.range'_concat, List.map_append, List.zip_append (by simp; omega), List.foldl_append, ← rounds_fold ws h s n (by omega)]
    show step (rounds (sched ws 48) s n) (K.getD n 0) ((sched ws 48).getD n 0) = _
    rw [sched_all ws h n (by omega)]
    have hk : K.getD n 0 = K[n]'(by omega) := by unfold List.getD; rw [List.getElem?_eq_getElem (by omega)]; rfl
    rw [hk]
    rw [show 0 + 1 * n = n by omega]
    rfl

def pwN (a b c d : Nat) : Nat := Nat.lor (Nat.mod (Nat.shiftLeft (Nat.lor (Nat.mod (Nat.shiftLeft (Nat.lor (Nat.mod (Nat.shiftLeft a (nat_lit 8)) (nat_lit 4294967296)) b) (nat_lit 8)) (nat_lit 4294967296)) c) (nat_lit 8)) (nat_lit 4294967296)) d
def wl : List Nat → List Nat
  | a :: b :: c :: d :: t => pwN a b c d :: wl t
  | _ => []
def with8 (v : List Nat) (k : Nat → Nat → Nat → Nat → Nat → Nat → Nat → Nat → List Nat) : List Nat :=
  match v with
  | [a, b, c, d, e, f, g, h] => k a b c d e f g h
  | _ => []
noncomputable def with16 (m : List Nat) (k : Nat → Nat → Nat → Nat → Nat → Nat → Nat → Nat → Nat → Nat → Nat → Nat → Nat → Nat → Nat → Nat → List Nat → List Nat) : List Nat :=
  match m with
  | w0 :: w1 :: w2 :: w3 :: w4 :: w5 :: w6 :: w7 :: w8 :: w9 :: w10 :: w11 :: w12 :: w13 :: w14 :: w15 :: rest => F w0 fun w0 => F w1 fun w1 => F w2 fun w2 => F w3 fun w3 => F w4 fun w4 => F w5 fun w5 => F w6 fun w6 => F w7 fun w7 => F w8 fun w8 => F w9 fun w9 => F w10 fun w10 => F w11 fun w11 => F w12 fun w12 => F w13 fun w13 => F w14 fun w14 => F w15 fun w15 => k w0 w1 w2 w3 w4 w5 w6 w7 w8 w9 w10 w11 w12 w13 w14 w15 rest
  | _ => []
def KN : List Nat := [nat_lit 1116352408, nat_lit 1899447441, nat_lit 3049323471, nat_lit 3921009573, nat_lit 961987163, nat_lit 1508970993, nat_lit 2453635748, nat_lit 2870763221, nat_lit 3624381080, nat_lit 310598401, nat_lit 607225278, nat_lit 1426881987, nat_lit 1925078388, nat_lit 2162078206, nat_lit 2614888103, nat_lit 3248222580, nat_lit 3835390401, nat_lit 4022224774, nat_lit 264347078, nat_lit 604807628, nat_lit 770255983, nat_lit 1249150122, nat_lit 1555081692, nat_lit 1996064986, nat_lit 2554220882, nat_lit 2821834349, nat_lit 2952996808, nat_lit 3210313671, nat_lit 3336571891, nat_lit 3584528711, nat_lit 113926993, nat_lit 338241895, nat_lit 666307205, nat_lit 773529912, nat_lit 1294757372, nat_lit 1396182291, nat_lit 1695183700, nat_lit 1986661051, nat_lit 2177026350, nat_lit 2456956037, nat_lit 2730485921, nat_lit 2820302411, nat_lit 3259730800, nat_lit 3345764771, nat_lit 3516065817, nat_lit 3600352804, nat_lit 4094571909, nat_lit 275423344, nat_lit 430227734, nat_lit 506948616, nat_lit 659060556, nat_lit 883997877, nat_lit 958139571, nat_lit 1322822218, nat_lit 1537002063, nat_lit 1747873779, nat_lit 1955562222, nat_lit 2024104815, nat_lit 2227730452, nat_lit 2361852424, nat_lit 2428436474, nat_lit 2756734187, nat_lit 3204031479, nat_lit 3329325298]
def H0N : List Nat := [nat_lit 1779033703, nat_lit 3144134277, nat_lit 1013904242, nat_lit 2773480762, nat_lit 1359893119, nat_lit 2600822924, nat_lit 528734635, nat_lit 1541459225]
noncomputable def blk (n : Nat) : List Nat → List Nat → List Nat :=
  Nat.rec (motive := fun _ => List Nat → List Nat → List Nat) (fun v _ => v)
    (fun _ ih v m => with8 v fun a b c d e f g h => with16 m fun w0 w1 w2 w3 w4 w5 w6 w7 w8 w9 w10 w11 w12 w13 w14 w15 rest =>
      with8 (rnd KN w0 w1 w2 w3 w4 w5 w6 w7 w8 w9 w10 w11 w12 w13 w14 w15 a b c d e f g h) fun a' b' c' d' e' f' g' h' =>
      F (addN a a') fun a2 => F (addN b b') fun b2 => F (addN c c') fun c2 => F (addN d d') fun d2 => F (addN e e') fun e2 => F (addN f f') fun f2 => F (addN g g') fun g2 => F (addN h h') fun h2 => ih [a2, b2, c2, d2, e2, f2, g2, h2] rest) n
def byN : List Nat → List Nat
  | [] => []
  | x :: t => Nat.mod (Nat.div x (nat_lit 16777216)) (nat_lit 256) :: Nat.mod (Nat.div x (nat_lit 65536)) (nat_lit 256) :: Nat.mod (Nat.div x (nat_lit 256)) (nat_lit 256) :: Nat.mod x (nat_lit 256) :: byN t
noncomputable def sumN (m : List UInt8) : List Nat := byN (blk ((pad m).length / 64) H0N (wl ((pad m).map UInt8.toNat)))

theorem pw_is (a b c d : UInt8) : (pw [a, b, c, d]).toNat = pwN a.toNat b.toNat c.toNat d.toNat := by
  unfold pw pwN
  simp only [List.foldl_cons, List.foldl_nil, UInt32.toNat_or, UInt32.toNat_shiftLeft, UInt8.toNat_toUInt32]
  have h0 : (0 : UInt32).toNat = 0 := rfl
  have h8 : (8 : UInt32).toNat % 32 = 8 := rfl
  rw [h0, h8]
  simp only [Nat.zero_shiftLeft, Nat.zero_mod, Nat.zero_or]
  rfl
theorem word_zero (a b c d : UInt8) (t : List UInt8) : word (a :: b :: c :: d :: t) 0 = pw [a, b, c, d] := rfl
theorem word_succ (a b c d : UInt8) (t : List UInt8) (k : Nat) : word (a :: b :: c :: d :: t) (k + 1) = word t k := by
  unfold word
  rw [show 4 * (k + 1) = 4 * k + 4 by omega]
  rfl
theorem wl_is : ∀ (n : Nat) (b : List UInt8), b.length = 4 * n → wl (b.map UInt8.toNat) = ((List.range n).map (word b)).map UInt32.toNat
  | 0, b, h => by
    obtain rfl : b = [] := List.eq_nil_of_length_eq_zero (by omega)
    rfl
  | n + 1, a :: b :: c :: d :: t, h => by
    have ih := wl_is n t (by simp at h; omega)
    show pwN a.toNat b.toNat c.toNat d.toNat :: wl (t.map UInt8.toNat) = _
    rw [List.range_succ_eq_map, List.map_cons, List.map_cons, word_zero, pw_is, List.map_map (l := List.range n) (f := Nat.succ),  List.map_congr_left (f := word (a :: b :: c :: d :: t) ∘ Nat.succ) (g := word t) (fun k _ => word_succ a b c d t k), ← ih]
theorem wl_append : ∀ (n : Nat) (x y : List Nat), x.length = 4 * n → wl (x ++ y) = wl x ++ wl y
  | 0, x, y, h => by
    obtain rfl : x = [] := List.eq_nil_of_length_eq_zero (by omega)
    rfl
  | n + 1, a :: b :: c :: d :: t, y, h => by
    have ih := wl_append n t y (by simp at h; omega)
    show pwN a b c d :: wl (t ++ y) = _
    rw [ih]
    rfl
theorem KN_is : KN = K.map UInt32.toNat := by decide +kernel
theorem H0N_is : H0N = H0.map UInt32.toNat := by decide +kernel
theorem blocks_cons (v : List UInt32) (m : List UInt8) : ∀ n, blocks v m (n + 1) = blocks (compress v (m.take 64)) (m.drop 64) n
  | 0 => rfl
  | n + 1 => by
    have ih := blocks_cons v m n
    show compress (blocks v m (n + 1)) _ = compress (blocks _ _ n) _
    rw [ih, List.drop_drop, show 64 + 64 * n = 64 * (n + 1) by omega]
theorem list16 {α : Type} (l : List α) (h : l.length = 16) : ∃ w0 w1 w2 w3 w4 w5 w6 w7 w8 w9 w10 w11 w12 w13 w14 w15, l = [w0, w1, w2, w3, w4, w5, w6, w7, w8, w9, w10, w11, w12, w13, w14, w15] := by
  match l, h with
  | [w0, w1, w2, w3, w4, w5, w6, w7, w8, w9, w10, w11, w12, w13, w14, w15], _ => exact ⟨w0, w1, w2, w3, w4, w5, w6, w7, w8, w9, w10, w11, w12, w13, w14, w15, rfl⟩
theorem list8 {α : Type} (l : List α) (h : l.length = 8) : ∃ a b c d e f g h, l = [a, b, c, d, e, f, g, h] := by
  match l, h with
  | [a, b, c, d, e, f, g, h], _ => exact ⟨a, b, c, d, e, f, g, h, rfl⟩
theorem compress_len (v : List UInt32) (b : List UInt8) (h : v.length = 8) : (compress v b).length = 8 := by
  unfold compress
  rw [List.length_zipWith, h]
  rfl
theorem compress_is (v : List UInt32) (b : List UInt8) (ws : List UInt32) (hws : (List.range 16).map (word b) = ws) (hl : ws.length = 16) :
    compress v b = List.zipWith (· + ·) v ((K.zip ((List.range' 0 64).map (Wd ws))).foldl (fun s p => step s p.1 p.2) (ofList v)).list := by
  unfold compress words
  rw [hws, rounds_fold ws hl (ofList v) 64 (Nat.le_refl _), show K.take 64 = K from rfl]
theorem wd_first (ws : List UInt32) (h : ws.length = 16) (t : Nat) (ht : t < 16) : Wd ws t = ws.getD t 0 := (sched_wd ws h 0 t (by omega)).symm
theorem blk_succ (n : Nat) (v m : List Nat) : blk (n + 1) v m = with8 v fun a b c d e f g h => with16 m fun w0 w1 w2 w3 w4 w5 w6 w7 w8 w9 w10 w11 w12 w13 w14 w15 rest =>
      with8 (rnd KN w0 w1 w2 w3 w4 w5 w6 w7 w8 w9 w10 w11 w12 w13 w14 w15 a b c d e f g h) fun a' b' c' d' e' f' g' h' =>
      F (addN a a') fun a2 => F (addN b b') fun b2 => F (addN c c') fun c2 => F (addN d d') fun d2 => F (addN e e') fun e2 => F (addN f f') fun f2 => F (addN g g') fun g2 => F (addN h h') fun h2 => blk n [a2, b2, c2, d2, e2, f2, g2, h2] rest := rfl

theorem rnd_list (ks ws : List UInt32) (h : ws.length = 16) (v : List UInt32) (hv : v.length = 8) :
    with16 (ws.map UInt32.toNat) (fun w0 w1 w2 w3 w4 w5 w6 w7 w8 w9 w10 w11 w12 w13 w14 w15 _ => with8 (v.map UInt32.toNat) fun a b c d e f g h => rnd (ks.map UInt32.toNat) w0 w1 w2 w3 w4 w5 w6 w7 w8 w9 w10 w11 w12 w13 w14 w15 a b c d e f g h) = (((ks.zip ((List.range' 0 ks.length).map (Wd ws))).foldl (fun s p => step s p.1 p.2) (ofList v)).list).map UInt32.toNat := by
  have hr := rnd_is (Wd ws) (wd_rule ws h) ks 0 (ofList v)
  rw [← hr]
  have hw := fun t ht => wd_first ws h t ht
  rw [hw 0 (by omega), hw (0 + 1) (by omega), hw (0 + 2) (by omega), hw (0 + 3) (by omega), hw (0 + 4) (by omega), hw (0 + 5) (by omega), hw (0 + 6) (by omega), hw (0 + 7) (by omega), hw (0 + 8) (by omega), hw (0 + 9) (by omega), hw (0 + 10) (by omega), hw (0 + 11) (by omega), hw (0 + 12) (by omega), hw (0 + 13) (by omega), hw (0 + 14) (by omega), hw (0 + 15) (by omega)]
  obtain ⟨w0, w1, w2, w3, w4, w5, w6, w7, w8, w9, w10, w11, w12, w13, w14, w15, rfl⟩ := list16 ws h
  obtain ⟨a, b, c, d, e, f, g, g', rfl⟩ := list8 v hv
  simp only [List.map_cons, List.map_nil, with16, with8, F_is]
  rfl
theorem with8_cons (a b c d e f g h : Nat) (k : Nat → Nat → Nat → Nat → Nat → Nat → Nat → Nat → List Nat) : with8 [a, b, c, d, e, f, g, h] k = k a b c d e f g h := rfl
theorem with16_cons (w0 w1 w2 w3 w4 w5 w6 w7 w8 w9 w10 w11 w12 w13 w14 w15 : Nat) (rest : List Nat) (k : Nat → Nat → Nat → Nat → Nat → Nat → Nat → Nat → Nat → Nat → Nat → Nat → Nat → Nat → Nat → Nat → List Nat → List Nat) : with16 (w0 :: w1 :: w2 :: w3 :: w4 :: w5 :: w6 :: w7 :: w8 :: w9 :: w10 :: w11 :: w12 :: w13 :: w14 :: w15 :: rest) k = k w0 w1 w2 w3 w4 w5 w6 w7 w8 w9 w10 w11 w12 w13 w14 w15 rest := by
  simp only [with16, F_is]
theorem list_len (s : R) : s.list.length = 8 := rfl
theorem K_len : K.length = 64 := rfl
theorem blk_step (n : Nat) (v : List UInt32) (hv : v.length = 8) (b : List UInt8) (hb : b.length = 64) (y : List Nat) : blk (n + 1) (v.map UInt32.toNat) (wl (b.map UInt8.toNat) ++ y) = blk n ((compress v b).map UInt32.toNat) y := by
  have hwl := wl_is 16 b (by omega)
  rw [hwl, blk_succ]
  have hl : ((List.range 16).map (word b)).length = 16 := by simp
  rw [compress_is v b _ rfl hl]
  have hr := rnd_list K ((List.range 16).map (word b)) hl v hv
  rw [← KN_is, K_len] at hr
  generalize rnd KN = R at *
  generalize (List.range 16).map (word b) = ws at *
  have hR : ((K.zip ((List.range' 0 64).map (Wd ws))).foldl (fun s p => step s p.1 p.2) (ofList v)).list.length = 8 := list_len _
  generalize ((K.zip ((List.range' 0 64).map (Wd ws))).foldl (fun s p => step s p.1 p.2) (ofList v)).list = r at *
  obtain ⟨w0, w1, w2, w3, w4, w5, w6, w7, w8, w9, w10, w11, w12, w13, w14, w15, rfl⟩ := list16 ws hl
  obtain ⟨a, b, c, d, e, f, g, g', rfl⟩ := list8 v hv
  obtain ⟨ra, rb, rc, rd, re, rf, rg, rg', rfl⟩ := list8 r hR
  clear hwl hR hl
  simp only [List.map_cons, List.map_nil] at hr ⊢
  rw [with16_cons, with8_cons] at hr
  simp only [List.cons_append, List.nil_append]
  rw [with8_cons, with16_cons, hr, with8_cons, F_is, F_is, F_is, F_is, F_is, F_is, F_is, F_is, ← add_is, ← add_is, ← add_is, ← add_is, ← add_is, ← add_is, ← add_is, ← add_is]
  rfl
theorem blk_is : ∀ (n : Nat) (v : List UInt32) (hv : v.length = 8) (m : List UInt8) (hm : m.length = 64 * n), blk n (v.map UInt32.toNat) (wl (m.map UInt8.toNat)) = (blocks v m n).map UInt32.toNat
  | 0, v, hv, m, hm => rfl
  | n + 1, v, hv, m, hm => by
    rw [blocks_cons, ← blk_is n (compress v (m.take 64)) (compress_len _ _ hv) (m.drop 64) (by simp; omega)]
    rw [show m.map UInt8.toNat = (m.take 64).map UInt8.toNat ++ (m.drop 64).map UInt8.toNat by rw [← List.map_append, List.take_append_drop]]
    rw [wl_append 16 _ _ (by simp; omega)]
    exact blk_step n v hv (m.take 64) (by simp; omega) _
theorem bytes_is : ∀ v : List UInt32, byN (v.map UInt32.toNat) = (bytes v).map UInt8.toNat
  | [] => rfl
  | x :: t => by
    have ih := bytes_is t
    have hx := x.toNat_lt
    show Nat.mod (Nat.div x.toNat 16777216) 256 :: Nat.mod (Nat.div x.toNat 65536) 256 :: Nat.mod (Nat.div x.toNat 256) 256 :: Nat.mod x.toNat 256 :: byN (t.map UInt32.toNat) = _
    rw [ih]
    simp only [bytes, List.flatMap_cons, List.map_append, List.map_cons, List.map_nil, UInt8.toNat_ofNat']
    rfl
theorem pad_mult (m : List UInt8) : (pad m).length = 64 * ((pad m).length / 64) := by
  have : (pad m).length = m.length + 1 + (119 - m.length % 64) % 64 + 8 := by simp [pad, be8]; omega
  omega
/-- the hash of a message, by the quick way -/
theorem sum_fast (m : List UInt8) : (sum m).map UInt8.toNat = sumN m := by
  unfold sum sumN
  rw [← bytes_is, H0N_is, ← blk_is _ H0 rfl (pad m) (pad_mult m)]
theorem nat_inj : ∀ (a b : List UInt8), a.map UInt8.toNat = b.map UInt8.toNat → a = b
  | [], [], _ => rfl
  | x :: a, y :: b, h => by
    simp only [List.map_cons, List.cons.injEq] at h
    rw [UInt8.toNat_inj.1 h.1, nat_inj a b h.2]
theorem sum_eq (m l : List UInt8) (h : sumN m = l.map UInt8.toNat) : sum m = l := nat_inj _ _ ((sum_fast m).trans h)
theorem dig_eq (m l : List UInt8) (h : (sumN m).take 16 = l.map UInt8.toNat) : (sum m).take 16 = l := nat_inj _ _ (by rw [List.map_take, sum_fast, h])
end Go.Proofs.YtedgjpoejoepjaaDoor.Sha
