/-
  getLength and GetBytes by their contracts.
-/
import Derived.Test.YtdjmfjmijpfijaaDec1
import Derived.Laws.BytesArg
namespace Go.Proofs.Ytdjmfjmijpfijaa
open Go.RowKit
set_option linter.unusedVariables false
set_option linter.unusedSimpArgs false
namespace Wr
/-- what decoding a length answers, where each element has at least size bytes -/
def decLen (size : Nat) (l : List UInt8) : Int × Nat × Int :=
  if (decI l).2.2 ≠ 0 then (0, 0, (decI l).2.2)
  else if (decI l).1 < 0 then (0, 0, 2)
  else if ((l.length - (decI l).2.1 : Nat) : Int) / (size : Int) < (decI l).1 then (0, 0, 3)
  else decI l
end Wr
set_option maxHeartbeats 400000 in
set_option maxRecDepth 100000 in
theorem getLength_any (A : Option Addr) (n c : Nat) (l : List UInt8) (size : Nat) (w : World) (hr : Reads w w.heap.size 1 A n (BV l)) (hm : n ≤ maxLen) (hnc : n ≤ c) (hs1 : 1 ≤ size) (hs2 : size ≤ 16) :
    Calls Try.prog 42 #[.slice A n c, .int .i64 (size : Int)] w fun e w' => e = .returned (.tuple #[.int .i64 (Wr.decLen size l).1, .int .i64 (Wr.decLen size l).2.1, .int .i64 (Wr.decLen size l).2.2]) ∧ w = w' := by
  have hn : n = l.length := by have := hr.1; simp [BV] at this; omega
  have H := getInt_any A n c l w hr hm hnc
  have hu : (Wr.decI l).2.2 = 0 → (Wr.decI l).2.1 ≤ n ∧ Wr.inI (Wr.decI l).1 := fun h0 => by
    have := Wr.enc_dec (l := l) (n := (Wr.decI l).1) (u := (Wr.decI l).2.1) (by rw [← h0])
    exact ⟨by omega, this.1⟩
  have he := Wr.decI_errs l
  have hdef : Wr.decLen size l = if (Wr.decI l).2.2 ≠ 0 then (0, 0, (Wr.decI l).2.2) else if (Wr.decI l).1 < 0 then (0, 0, 2) else if ((n - (Wr.decI l).2.1 : Nat) : Int) / (size : Int) < (Wr.decI l).1 then (0, 0, 3) else Wr.decI l := by rw [hn]; rfl
  generalize hL : Wr.decLen size l = L at *
  generalize Wr.decI l = d at *
  obtain ⟨z, u, er⟩ := d
  simp only at H hu he hdef
  clear hr hn hL
  unfold maxLen at hm
  have H := hide H
  by_cases h1 : er = 0
  · subst h1
    obtain ⟨hu1, hu2⟩ := hu rfl
    unfold Wr.inI at hu2
    rw [if_neg (by simp)] at hdef
    clear hu he
    by_cases h2 : z < 0
    · rw [if_pos h2] at hdef
      subst hdef
      go_enter Try.func42, Try.ntmps42
      go_wp2_with (go_at_call 45; refine (unhide H).mono ?_; rintro e w' ⟨rfl, rfl⟩)
      go_ret3
      exact ⟨rfl, rfl⟩
    · rw [if_neg h2] at hdef
      have hq : ((n : Int) - (u : Int)) = ((n - u : Nat) : Int) := by omega
      have hq1 : 0 ≤ ((n - u : Nat) : Int) / (size : Int) := Int.ediv_nonneg (by omega) (by omega)
      have hq2 : ((n - u : Nat) : Int) / (size : Int) ≤ 9223372036854775807 := Int.le_trans (Int.ediv_le_self _ (by omega)) (by omega)
      by_cases h3 : ((n - u : Nat) : Int) / (size : Int) < z
      · rw [if_pos h3] at hdef
        subst hdef
        go_enter Try.func42, Try.ntmps42
        go_wp2_with (go_at_call 45; refine (unhide H).mono ?_; rintro e w' ⟨rfl, rfl⟩)
        go_ret3
        exact ⟨rfl, rfl⟩
      · rw [if_neg h3] at hdef
        subst hdef
        go_enter Try.func42, Try.ntmps42
        go_wp2_with (go_at_call 45; refine (unhide H).mono ?_; rintro e w' ⟨rfl, rfl⟩)
        go_ret3
        exact ⟨rfl, rfl⟩
  · rw [if_pos (by simpa using h1)] at hdef
    subst hdef
    have hb : (er == 0) = false := by rw [beq_eq_false_iff_ne]; exact h1
    have hb' : (er != 0) = true := by rw [bne_iff_ne]; exact h1
    clear hu he
    go_enter Try.func42, Try.ntmps42
    go_wp2_with (go_at_call 45; refine (unhide H).mono ?_; rintro e w' ⟨rfl, rfl⟩)
    go_ret3
    exact ⟨rfl, rfl⟩

set_option maxHeartbeats 400000 in
set_option maxRecDepth 100000 in
theorem getBytes_err (A : Option Addr) (n c : Nat) (l : List UInt8) (w : World) (hr : Reads w w.heap.size 1 A n (BV l)) (hm : n ≤ maxLen) (hnc : n ≤ c) (he : (Wr.decLen 1 l).2.2 ≠ 0) :
    Calls Try.prog 33 #[.slice A n c] w fun e w' => e = .returned (.tuple #[.string (S []), .int .i64 0, .int .i64 (Wr.decLen 1 l).2.2]) ∧ w = w' := by
  have H := hide (getLength_any A n c l 1 w hr hm hnc (by omega) (by omega))
  generalize Wr.decLen 1 l = d at *
  obtain ⟨z, u, er⟩ := d
  simp only at he H ⊢
  have hb' : (er != 0) = true := by rw [bne_iff_ne]; exact he
  clear hr he
  rw [S_nil]
  go_enter Try.func33, Try.ntmps33
  go_wp2_with (go_at_call 42; refine (unhide H).mono ?_; rintro e w' ⟨rfl, rfl⟩)
  go_ret3
  exact ⟨rfl, rfl⟩

set_option maxHeartbeats 400000 in
set_option maxRecDepth 100000 in
theorem getBytes_ok (ad : Addr) (n c : Nat) (l : List UInt8) (w : World) (hr : Reads w w.heap.size 1 (some ad) n (BV l)) (hm : n ≤ maxLen) (hnc : n ≤ c) (z u : Nat) (hd : Wr.decLen 1 l = ((z : Int), u, 0)) (hu : 1 ≤ u) (hz : u + z ≤ n) :
    Calls Try.prog 33 #[.slice (some ad) n c] w fun e w' => e = .returned (.tuple #[.string (S ((l.drop u).take z)), .int .i64 ((u + z : Nat) : Int), .int .i64 0]) ∧ w = w' := by
  have H := getLength_any (some ad) n c l 1 w hr hm hnc (by omega) (by omega)
  rw [hd] at H
  have H := hide H
  clear hd
  have hn : n = l.length := by have := hr.1; simp [BV] at this; omega
  by_cases hcu : c = u
  · have hz0 : z = 0 := by omega
    subst hz0
    have hc1 := fun c' => run_conv_reads (P := Try.prog) (reads_zero w w.heap.size (some ad)) 23 9 5 c' Try.underlying23 Try.underlying5 Try.underlying9
    have hun : u = n := by omega
    clear hr hn
    unfold maxLen at hm
    rw [List.take_zero]
    generalize S [] = s at *
    subst hcu
    subst hun
    go_enter Try.func33, Try.ntmps33
    go_wp2_with (go_at_call 42; refine (unhide H).mono ?_; rintro e w' ⟨rfl, rfl⟩)
    go_ret3
    exact ⟨by simp, rfl⟩
  · have hconv := fun c' => run_conv_reads (P := Try.prog) (reads_sub hr u z hz) 23 9 5 c' Try.underlying23 Try.underlying5 Try.underlying9
    clear hr hn
    unfold maxLen at hm
    generalize S ((l.drop u).take z) = s at *
    go_enter Try.func33, Try.ntmps33
    go_wp2_with (go_at_call 42; refine (unhide H).mono ?_; rintro e w' ⟨rfl, rfl⟩)
    go_ret3
    exact ⟨by simp, rfl⟩

namespace Wr
/-- what decoding a string answers -/
def decB (l : List UInt8) : List UInt8 × Nat × Int :=
  if (decLen 1 l).2.2 ≠ 0 then ([], 0, (decLen 1 l).2.2) else ((l.drop (decLen 1 l).2.1).take (decLen 1 l).1.toNat, (decLen 1 l).2.1 + (decLen 1 l).1.toNat, 0)

theorem decLen_ok {size : Nat} {l : List UInt8} (hs : 1 ≤ size) (h : (decLen size l).2.2 = 0) :
    decLen size l = decI l ∧ (decI l).2.2 = 0 ∧ 0 ≤ (decLen size l).1 ∧ 1 ≤ (decLen size l).2.1 ∧ (decLen size l).2.1 + size * (decLen size l).1.toNat ≤ l.length := by
  unfold decLen at h ⊢
  by_cases h1 : (decI l).2.2 = 0
  · rw [if_neg (by simpa using h1)] at h ⊢
    by_cases h2 : (decI l).1 < 0
    · rw [if_pos h2] at h; simp at h
    · rw [if_neg h2] at h ⊢
      by_cases h3 : ((l.length - (decI l).2.1 : Nat) : Int) / (size : Int) < (decI l).1
      · rw [if_pos h3] at h; simp at h
      · rw [if_neg h3]
        have he := enc_dec (l := l) (n := (decI l).1) (u := (decI l).2.1) (by rw [← h1])
        refine ⟨rfl, h1, by omega, he.2.2.1, ?_⟩
        have h4 : (decI l).1 * (size : Int) ≤ ((l.length - (decI l).2.1 : Nat) : Int) := by
          rw [← Int.le_ediv_iff_mul_le (by omega)]; omega
        have h5 : ((size * (decI l).1.toNat : Nat) : Int) = (decI l).1 * (size : Int) := by
          rw [Int.natCast_mul, Int.toNat_of_nonneg (by omega), Int.mul_comm]
        omega
  · rw [if_pos (by simpa using h1)] at h
    exact absurd h h1
theorem decLen_errs (size : Nat) (l : List UInt8) : (decLen size l).2.2 = 0 ∨ (decLen size l).2.2 = 2 ∨ (decLen size l).2.2 = 3 := by
  unfold decLen
  have := decI_errs l
  split
  · simpa using this
  · split
    · simp
    · split
      · simp
      · exact this
end Wr
/-- GetBytes, for every slice of bytes -/
theorem getBytes_any (A : Option Addr) (n c : Nat) (l : List UInt8) (w : World) (hr : Reads w w.heap.size 1 A n (BV l)) (hm : n ≤ maxLen) (hnc : n ≤ c) :
    Calls Try.prog 33 #[.slice A n c] w fun e w' => e = .returned (.tuple #[.string (S (Wr.decB l).1), .int .i64 (Wr.decB l).2.1, .int .i64 (Wr.decB l).2.2]) ∧ w = w' := by
  have hn : n = l.length := by have := hr.1; simp [BV] at this; omega
  unfold Wr.decB
  by_cases he : (Wr.decLen 1 l).2.2 = 0
  · obtain ⟨_, _, h1, h2, h3⟩ := Wr.decLen_ok (by omega) he
    rw [if_neg (by simpa using he)]
    obtain ⟨ad, rfl, _, _⟩ := hr.2 (by omega)
    exact getBytes_ok ad n c l w hr hm hnc (Wr.decLen 1 l).1.toNat (Wr.decLen 1 l).2.1 (by rw [Int.toNat_of_nonneg h1, ← he]) h2 (by omega)
  · rw [if_pos (by simpa using he)]
    exact getBytes_err A n c l w hr hm hnc he

end Go.Proofs.Ytdjmfjmijpfijaa
