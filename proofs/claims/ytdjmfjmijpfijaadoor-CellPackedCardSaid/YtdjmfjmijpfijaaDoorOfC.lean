/-
  Cells: Of of the code and of the reference, by contract.
-/
import Derived.Test.YtdjmfjmijpfijaaDoorSmallC
namespace Go.Proofs.YtdjmfjmijpfijaaDoor
open Go.RowKit
set_option linter.unusedVariables false
set_option linter.unusedSimpArgs false
namespace Ce
def good (x : Int) : Prop := 1 ≤ x ∧ x ≤ 6
/-- the cell with these dots -/
def sumB (xs : List Int) : Nat := (xs.map fun x => 2 ^ (x - 1).toNat).sum
open Classical in
/-- what Of answers -/
noncomputable def of (xs : List Int) : Int × Int := if ∃ x ∈ xs, ¬ good x then (0, 1) else if ¬ xs.Nodup then (0, 7) else ((sumB xs : Int), 0)
theorem of_bad {xs : List Int} {x : Int} (hx : x ∈ xs) (hb : ¬ good x) : of xs = (0, 1) := by unfold of; rw [if_pos ⟨x, hx, hb⟩]
theorem of_dup {xs : List Int} (hg : ∀ x ∈ xs, good x) (hd : ¬ xs.Nodup) : of xs = (0, 7) := by
  unfold of
  rw [if_neg (by rintro ⟨x, hx, hb⟩; exact hb (hg x hx)), if_pos hd]
theorem of_ok {xs : List Int} (hg : ∀ x ∈ xs, good x) (hd : xs.Nodup) : of xs = ((sumB xs : Int), 0) := by
  unfold of
  rw [if_neg (by rintro ⟨x, hx, hb⟩; exact hb (hg x hx)), if_neg (by simpa using hd)]
theorem sumB_snoc (xs : List Int) (x : Int) : sumB (xs ++ [x]) = sumB xs + 2 ^ (x - 1).toNat := by simp [sumB]
set_option maxRecDepth 100000 in
theorem on_add (c k j : Nat) (hc : c < 64) (hk : k < 6) (hj : j < 6) (h : on c k = false) : c + 2 ^ k < 64 ∧ (c ||| 2 ^ k) = c + 2 ^ k ∧ on (c + 2 ^ k) j = (decide (j = k) || on c j) := by
  have H : ∀ k : Fin 6, ∀ c : Fin 64, on c.val k.val = false → c.val + 2 ^ k.val < 64 ∧ (c.val ||| 2 ^ k.val) = c.val + 2 ^ k.val ∧ ∀ j : Fin 6, on (c.val + 2 ^ k.val) j.val = (decide (j.val = k.val) || on c.val j.val) := by decide +kernel
  obtain ⟨h1, h2, h3⟩ := H ⟨k, hk⟩ ⟨c, hc⟩ h
  exact ⟨h1, h2, h3 ⟨j, hj⟩⟩
theorem sumB_on : ∀ (xs : List Int), (∀ x ∈ xs, good x) → xs.Nodup → sumB xs < 64 ∧ ∀ j : Nat, j < 6 → (on (sumB xs) j = true ↔ (1 + (j : Int)) ∈ xs) := by
  intro xs
  induction xs with
  | nil => exact fun _ _ => ⟨by decide, fun j hj => by
      have H : ∀ j : Fin 6, ¬ on (sumB []) j.val = true := by decide
      simpa using H ⟨j, hj⟩⟩
  | cons x r ih =>
    intro hg hd
    obtain ⟨h1, h2⟩ := ih (fun y hy => hg y (List.mem_cons_of_mem _ hy)) (List.nodup_cons.1 hd).2
    have hx : good x := hg x (by simp)
    unfold good at hx
    obtain ⟨k, rfl⟩ : ∃ k : Nat, x = 1 + (k : Int) := ⟨(x - 1).toNat, by omega⟩
    have hk : k < 6 := by omega
    have hoff : on (sumB r) k = false := by
      cases ho : on (sumB r) k with
      | false => rfl
      | true => exact absurd ((h2 k hk).1 ho) (List.nodup_cons.1 hd).1
    have hs : sumB ((1 + (k : Int)) :: r) = sumB r + 2 ^ k := by
      unfold sumB
      rw [List.map_cons, List.sum_cons, show (1 + (k : Int) - 1).toNat = k by omega, Nat.add_comm]
    rw [hs]
    refine ⟨(on_add _ k 0 h1 hk (by omega) hoff).1, fun j hj => ?_⟩
    rw [(on_add _ k j h1 hk hj hoff).2.2, List.mem_cons]
    constructor
    · intro h
      rcases Bool.or_eq_true_iff.1 h with h | h
      · left; have := of_decide_eq_true h; omega
      · right; exact (h2 j hj).1 h
    · rintro (h | h)
      · rw [decide_eq_true (by omega)]; rfl
      · rw [(h2 j hj).2 h]; simp
/-- with one dot more -/
theorem step (xs : List Int) (k i : Nat) (hi : i < xs.length) (hx : xs[i] = 1 + (k : Int)) (hk : k < 6) (hg : ∀ x ∈ xs, good x) (hd : (xs.take i).Nodup) :
    sumB (xs.take i) < 64 ∧ (on (sumB (xs.take i)) k = true → ¬ xs.Nodup) ∧
    (on (sumB (xs.take i)) k = false → (xs.take (i + 1)).Nodup ∧ sumB (xs.take (i + 1)) = sumB (xs.take i) + 2 ^ k ∧ (sumB (xs.take i) ||| 2 ^ k) = sumB (xs.take i) + 2 ^ k ∧ sumB (xs.take i) + 2 ^ k < 64) := by
  obtain ⟨h1, h2⟩ := sumB_on (xs.take i) (fun x h => hg x (List.mem_of_mem_take h)) hd
  have ht : xs.take (i + 1) = xs.take i ++ [1 + (k : Int)] := by rw [List.take_succ_eq_append_getElem hi, hx]
  refine ⟨h1, fun ho hn => ?_, fun ho => ?_⟩
  · have h3 : (xs.take (i + 1)).Nodup := hn.sublist (List.take_sublist _ _)
    rw [ht] at h3
    exact (List.nodup_append.1 h3).2.2 _ ((h2 k hk).1 ho) _ (by simp) rfl
  · have hno : ¬ (1 + (k : Int)) ∈ xs.take i := fun h => by rw [(h2 k hk).2 h] at ho; cases ho
    obtain ⟨a1, a2, _⟩ := on_add _ k 0 h1 hk (by omega) ho
    refine ⟨?_, ?_, a2, a1⟩
    · rw [ht, List.nodup_append]
      exact ⟨hd, by simp, fun a ha b hb => by simp at hb; subst hb; rintro rfl; exact hno ha⟩
    · rw [ht, sumB_snoc, show (1 + (k : Int) - 1).toNat = k by omega]
end Ce
theorem reads_int {w : World} {B n : Nat} {A : Option Addr} {xs : List Int} (hr : Reads w B 1 A n (xs.map (Value.int .i64))) (k : Nat) (hk : k < n) : ∃ ad, A = some ad ∧ ∃ hx : k < xs.length, w.cell? (ad.add k) = some (.int .i64 xs[k]) := by
  obtain ⟨ad, hA, hx, hc⟩ := reads_item hr k hk
  rw [List.length_map] at hx
  exact ⟨ad, hA, hx, by rw [hc]; simp⟩
theorem reads_ints_len {w : World} {B n : Nat} {A : Option Addr} {xs : List Int} (hr : Reads w B 1 A n (xs.map (Value.int .i64))) : n = xs.length := by have := hr.1; simpa using this.symm

set_option maxHeartbeats 1000000 in
set_option maxRecDepth 100000 in
theorem of_any (A : Option Addr) (n c : Nat) (xs : List Int) (w : World) (hr : Reads w w.heap.size 1 A n (xs.map (Value.int .i64))) (hm : n ≤ 1099511627776) :
    Calls Tryd.prog 27 #[.slice A n c] w fun e w' => e = .returned (.tuple #[.int .u8 (Ce.of xs).1, .int .i64 (Ce.of xs).2]) ∧ Below w.heap.size w w' := by
  have HN := hide (reads_ints_len hr)
  have HR := hide hr
  clear hr
  go_enter Tryd.func27, Tryd.ntmps27
  go_upto_region 2 with fail
  go_loopw [11] (fun s wr => ∃ k : Nat, k ≤ n ∧ s = .int .i64 (k : Int) ∧ Hid (∀ x ∈ xs.take k, Ce.good x) ∧ Below w.heap.size w wr) (fun s _ => n - (intOf s).toNat)
  case atStart => exact ⟨0, by omega, rfl, by simp [Hid], Below.refl _ _⟩
  case round =>
    obtain ⟨k, hk, rfl, HG, hbel⟩ := hrel
    obtain ⟨wd, rfl⟩ : ∃ wd, wd = wr := ⟨wr, rfl⟩
    have HB := hide hbel
    by_cases hlt : k < n
    · obtain ⟨ad, rfl, hkl, hc0⟩ := reads_int HR.out k hlt
      have hc : wd.cell? (ad.add k) = some (.int .i64 xs[k]) := by rw [hbel.cell (block_lt_of_cell hc0)]; exact hc0
      have HMEM := hide (List.getElem_mem hkl)
      have HT := hide (List.take_succ_eq_append_getElem hkl)
      generalize xs[k] = x at *
      have HLT := hide hlt
      have h0 : (0 : Int) ≤ (k : Int) := by omega
      have h1 : (k : Int) < (n : Int) := by omega
      clear hbel hlt hc0
      by_cases hb1 : x < 1
      · have HF := hide (Ce.of_bad HMEM.out (by unfold Ce.good; omega))
        go_wp2
        go_ret2
        exact ⟨by rw [HF.out]; rfl, HB.out⟩
      · by_cases hb2 : 6 < x
        · have HF := hide (Ce.of_bad HMEM.out (by unfold Ce.good; omega))
          go_wp2
          go_ret2
          exact ⟨by rw [HF.out]; rfl, HB.out⟩
        · have HG2 := hide (show ∀ y ∈ xs.take (k + 1), Ce.good y by
            intro y hy
            rw [HT.out] at hy
            rcases List.mem_append.1 hy with hy | hy
            · exact HG.out y hy
            · simp at hy; subst hy; exact ⟨by omega, by omega⟩)
          go_wp2
          exact ⟨⟨k + 1, HLT.out, by go_num, HG2, HB.out⟩, by have := HLT.out; simp [intOf]; omega⟩
    · obtain rfl : k = n := by omega
      have HALL := hide (show ∀ x ∈ xs, Ce.good x by
        have := HG.out
        rwa [List.take_of_length_le (by have := HN.out; omega)] at this)
      clear hbel hlt HG
      go_upto_region 9 with fail
      go_loopw [24, 6] (fun s s6 wr => ∃ i : Nat, i ≤ k ∧ s = .int .i64 (i : Int) ∧ s6 = .int .u8 ((Ce.sumB (xs.take i) : Nat) : Int) ∧ Hid ((xs.take i).Nodup) ∧ Below w.heap.size w wr) (fun s _ _ => k - (intOf s).toNat)
      case atStart => exact ⟨0, by omega, rfl, rfl, by simp [Hid], HB.out⟩
      case round =>
        obtain ⟨i, hi, rfl, rfl, HD, hbel⟩ := hrel
        obtain ⟨we, rfl⟩ : ∃ we, we = wr := ⟨wr, rfl⟩
        have HE := hide hbel
        by_cases hlt : i < k
        · obtain ⟨ad, rfl, hil, hc0⟩ := reads_int HR.out i hlt
          have hc : we.cell? (ad.add i) = some (.int .i64 xs[i]) := by rw [hbel.cell (block_lt_of_cell hc0)]; exact hc0
          obtain ⟨hg1, hg2⟩ := HALL.out _ (List.getElem_mem hil)
          obtain ⟨d, hd⟩ : ∃ d : Nat, xs[i] = 1 + (d : Int) := ⟨(xs[i] - 1).toNat, by omega⟩
          have hd6 : d < 6 := by omega
          obtain ⟨hs64, hon, hoff⟩ := Ce.step xs d i hil hd hd6 HALL.out HD.out
          rw [hd] at hc
          have CB := hide (fun W => bit_any d W hd6)
          have hp : 2 ^ d < 64 := by exact show 2 ^ d < 2 ^ 6 from Nat.pow_lt_pow_right (by omega) (by omega)
          have hpp : 1 ≤ 2 ^ d := Nat.one_le_two_pow
          have hand := u8_and_nat (Ce.sumB (xs.take i)) (2 ^ d) (by omega) (by omega)
          have hor := u8_or_nat (Ce.sumB (xs.take i)) (2 ^ d) (by omega) (by omega)
          rw [Ce.and_bit _ d (by omega) (by omega)] at hand
          have HLT := hide hlt
          have h0 : (0 : Int) ≤ (i : Int) := by omega
          have h1 : (i : Int) < (k : Int) := by omega
          cases ho : Ce.on (Ce.sumB (xs.take i)) d with
          | true =>
            have HF := hide (Ce.of_dup HALL.out (hon ho))
            rw [ho, if_pos rfl] at hand
            have hne : ¬ (((2 ^ d : Nat) : Int) = 0) := by omega
            clear hon hoff hbel hlt hc0 hg1 hg2 hd hs64 hp hpp hor ho
            generalize 2 ^ d = p at *
            generalize Ce.sumB (xs.take i) = q at *
            go_wp2_with (go_at_call 36; refine (CB.out _).mono ?_; rintro e w1 ⟨rfl, rfl⟩)
            go_ret2
            exact ⟨by rw [HF.out]; rfl, HE.out⟩
          | false =>
            obtain ⟨hn2, hs2, ho2, hl2⟩ := hoff ho
            rw [ho2] at hor
            rw [ho, if_neg (by simp)] at hand
            have HN2 := hide hn2
            have HS2 := hide hs2
            clear hon hoff hbel hlt hc0 hg1 hg2 hd hs64 hp hpp ho ho2 hn2 hs2
            generalize 2 ^ d = p at *
            generalize Ce.sumB (xs.take i) = q at *
            go_wp2_with (go_at_call 36; refine (CB.out _).mono ?_; rintro e w1 ⟨rfl, rfl⟩)
            exact ⟨⟨i + 1, HLT.out, by go_num, by rw [HS2.out]; first | rfl | go_num | (simp; done), HN2, HE.out⟩, by have := HLT.out; simp [intOf]; omega⟩
        · obtain rfl : i = k := by omega
          have HF := hide (Ce.of_ok HALL.out (by have := HD.out; rwa [List.take_of_length_le (by have := HN.out; omega)] at this))
          have HTK := hide (List.take_of_length_le (l := xs) (i := i) (by have := HN.out; omega))
          clear hbel hlt HD
          go_wp2
          go_ret2
          exact ⟨by rw [HF.out]; first | rfl | (rw [HTK.out]; rfl), HE.out⟩

end Go.Proofs.YtdjmfjmijpfijaaDoor
