/-
  Tables: every over bytes; writable; by contract.
-/
import Derived.Test.YtbcfndhnopmbbaaTabA
namespace Go.Proofs.Ytbcfndhnopmbbaa
open Go.RowKit
set_option linter.unusedVariables false
set_option linter.unusedSimpArgs false
theorem all_take_succ {α : Type} (p : α → Bool) (xs : List α) (i : Nat) (h : i < xs.length) : (xs.take (i + 1)).all p = ((xs.take i).all p && p xs[i]) := by
  rw [List.take_succ_eq_append_getElem h, List.all_append]
  simp
theorem all_bad {α : Type} (p : α → Bool) (xs : List α) (i : Nat) (h : i < xs.length) (hp : p xs[i] = false) : xs.all p = false := by
  rw [List.all_eq_false]
  exact ⟨xs[i], List.getElem_mem h, by simp [hp]⟩
set_option maxHeartbeats 1000000 in
theorem every_filled (A : Option Addr) (n c : Nat) (xs : List UInt8) (w : World) (hr : Reads w w.heap.size 1 A n (BV xs)) (hbig : n ≤ 1048576) :
    Calls Try.prog 46 #[.slice A n c, .func (.func 60) #[] #[]] w fun e w' => e = .returned (.bool (xs.all Tb.filled)) ∧ w = w' := by
  have hn : xs.length = n := by have := hr.1; rw [BV_len] at this; omega
  have HN := hide hn
  have hni : (n : Int) ≤ 1048576 := by omega
  have HR := hide hr
  have HALL := hide (show ∃ r, r = xs.all Tb.filled from ⟨_, rfl⟩)
  clear hn hr HALL hbig
  generalize hres : xs.all Tb.filled = res at *
  have HRES := hide hres
  clear hres
  go_enter Try.func46, Try.ntmps46
  go_wp2
  go_loopw [9] (fun s wr => ∃ i : Nat, i ≤ n ∧ s = .int .i64 (i : Int) ∧ Hid ((xs.take i).all Tb.filled = true) ∧ wr = w) (fun s _ => n - (intOf s).toNat)
  case atStart => exact ⟨0, by omega, rfl, by rw [List.take_zero]; exact rfl, rfl⟩
  case round =>
    obtain ⟨i, hi, rfl, HT, rfl⟩ := hrel
    by_cases hlt : i < n
    · have hil : i < xs.length := by rw [HN.out]; exact hlt
      obtain ⟨ad, u, rfl, hadb, hu, hcu⟩ := Reads.at_ HR.out hlt
      have hcell : wr.cell? (ad.add i) = some (VC xs[i]) := by
        rw [hcu, ← hu, BV_get xs i hil]; rfl
      have hi0 : (0 : Int) ≤ (i : Int) := by omega
      have hi1 : (i : Int) < (n : Int) := by omega
      have HLT := hide hlt
      have C := hide (filled_any xs[i] wr)
      have HTS := hide (all_take_succ Tb.filled xs i hil)
      have HB := hide (all_bad Tb.filled xs i hil)
      unfold VC at C hcell
      generalize xs[i] = x at *
      clear hu hcu hlt hil
      cases hpx : Tb.filled x with
      | true =>
        have HT2 := hide (show (xs.take (i + 1)).all Tb.filled = true by rw [HTS.out, HT.out, hpx]; rfl)
        rw [hpx] at C
        clear HTS HB hpx HRES
        go_wp2_with (go_at_call 60; refine (unhide C).mono ?_; rintro e w1 ⟨rfl, rfl⟩)
        exact ⟨⟨i + 1, HLT.out, by go_num, HT2, trivial⟩, by have := HLT.out; simp [intOf]; omega⟩
      | false =>
        have HF := hide (show res = false by rw [← HRES.out]; exact HB.out hpx)
        rw [hpx] at C
        clear HTS HB hpx HRES HT
        go_wp2_with (go_at_call 60; refine (unhide C).mono ?_; rintro e w1 ⟨rfl, rfl⟩)
        go_ret
        exact ⟨by rw [HF.out]; rfl, rfl⟩
    · obtain rfl : i = n := by omega
      have HF := hide (show res = true by
        rw [← HRES.out]
        have h := HT.out
        rwa [List.take_of_length_le (by rw [HN.out]; omega)] at h)
      have hnt : ¬ ((i : Int) < (i : Int)) := by omega
      clear HRES HT hlt
      go_wp2
      go_ret
      exact ⟨by rw [HF.out]; rfl, rfl⟩
set_option maxHeartbeats 1000000 in
theorem every_small (A : Option Addr) (n c : Nat) (xs : List UInt8) (w : World) (hr : Reads w w.heap.size 1 A n (BV xs)) (hbig : n ≤ 1048576) :
    Calls Try.prog 46 #[.slice A n c, .func (.func 51) #[] #[]] w fun e w' => e = .returned (.bool (xs.all Tb.small)) ∧ w = w' := by
  have hn : xs.length = n := by have := hr.1; rw [BV_len] at this; omega
  have HN := hide hn
  have hni : (n : Int) ≤ 1048576 := by omega
  have HR := hide hr
  have HALL := hide (show ∃ r, r = xs.all Tb.small from ⟨_, rfl⟩)
  clear hn hr HALL hbig
  generalize hres : xs.all Tb.small = res at *
  have HRES := hide hres
  clear hres
  go_enter Try.func46, Try.ntmps46
  go_wp2
  go_loopw [9] (fun s wr => ∃ i : Nat, i ≤ n ∧ s = .int .i64 (i : Int) ∧ Hid ((xs.take i).all Tb.small = true) ∧ wr = w) (fun s _ => n - (intOf s).toNat)
  case atStart => exact ⟨0, by omega, rfl, by rw [List.take_zero]; exact rfl, rfl⟩
  case round =>
    obtain ⟨i, hi, rfl, HT, rfl⟩ := hrel
    by_cases hlt : i < n
    · have hil : i < xs.length := by rw [HN.out]; exact hlt
      obtain ⟨ad, u, rfl, hadb, hu, hcu⟩ := Reads.at_ HR.out hlt
      have hcell : wr.cell? (ad.add i) = some (VC xs[i]) := by
        rw [hcu, ← hu, BV_get xs i hil]; rfl
      have hi0 : (0 : Int) ≤ (i : Int) := by omega
      have hi1 : (i : Int) < (n : Int) := by omega
      have HLT := hide hlt
      have C := hide (small_any xs[i] wr)
      have HTS := hide (all_take_succ Tb.small xs i hil)
      have HB := hide (all_bad Tb.small xs i hil)
      unfold VC at C hcell
      generalize xs[i] = x at *
      clear hu hcu hlt hil
      cases hpx : Tb.small x with
      | true =>
        have HT2 := hide (show (xs.take (i + 1)).all Tb.small = true by rw [HTS.out, HT.out, hpx]; rfl)
        rw [hpx] at C
        clear HTS HB hpx HRES
        go_wp2_with (go_at_call 51; refine (unhide C).mono ?_; rintro e w1 ⟨rfl, rfl⟩)
        exact ⟨⟨i + 1, HLT.out, by go_num, HT2, trivial⟩, by have := HLT.out; simp [intOf]; omega⟩
      | false =>
        have HF := hide (show res = false by rw [← HRES.out]; exact HB.out hpx)
        rw [hpx] at C
        clear HTS HB hpx HRES HT
        go_wp2_with (go_at_call 51; refine (unhide C).mono ?_; rintro e w1 ⟨rfl, rfl⟩)
        go_ret
        exact ⟨by rw [HF.out]; rfl, rfl⟩
    · obtain rfl : i = n := by omega
      have HF := hide (show res = true by
        rw [← HRES.out]
        have h := HT.out
        rwa [List.take_of_length_le (by rw [HN.out]; omega)] at h)
      have hnt : ¬ ((i : Int) < (i : Int)) := by omega
      clear HRES HT hlt
      go_wp2
      go_ret
      exact ⟨by rw [HF.out]; rfl, rfl⟩
set_option maxHeartbeats 1000000 in
theorem every_character (A : Option Addr) (n c : Nat) (xs : List UInt8) (w : World) (hr : Reads w w.heap.size 1 A n (BV xs)) (hbig : n ≤ 1048576) :
    Calls Try.prog 46 #[.slice A n c, .func (.func 47) #[] #[]] w fun e w' => e = .returned (.bool (xs.all Tb.written)) ∧ w = w' := by
  have hn : xs.length = n := by have := hr.1; rw [BV_len] at this; omega
  have HN := hide hn
  have hni : (n : Int) ≤ 1048576 := by omega
  have HR := hide hr
  have HALL := hide (show ∃ r, r = xs.all Tb.written from ⟨_, rfl⟩)
  clear hn hr HALL hbig
  generalize hres : xs.all Tb.written = res at *
  have HRES := hide hres
  clear hres
  go_enter Try.func46, Try.ntmps46
  go_wp2
  go_loopw [9] (fun s wr => ∃ i : Nat, i ≤ n ∧ s = .int .i64 (i : Int) ∧ Hid ((xs.take i).all Tb.written = true) ∧ wr = w) (fun s _ => n - (intOf s).toNat)
  case atStart => exact ⟨0, by omega, rfl, by rw [List.take_zero]; exact rfl, rfl⟩
  case round =>
    obtain ⟨i, hi, rfl, HT, rfl⟩ := hrel
    by_cases hlt : i < n
    · have hil : i < xs.length := by rw [HN.out]; exact hlt
      obtain ⟨ad, u, rfl, hadb, hu, hcu⟩ := Reads.at_ HR.out hlt
      have hcell : wr.cell? (ad.add i) = some (VC xs[i]) := by
        rw [hcu, ← hu, BV_get xs i hil]; rfl
      have hi0 : (0 : Int) ≤ (i : Int) := by omega
      have hi1 : (i : Int) < (n : Int) := by omega
      have HLT := hide hlt
      have C := hide (character_any xs[i] wr)
      have HTS := hide (all_take_succ Tb.written xs i hil)
      have HB := hide (all_bad Tb.written xs i hil)
      unfold VC at C hcell
      generalize xs[i] = x at *
      clear hu hcu hlt hil
      cases hpx : Tb.written x with
      | true =>
        have HT2 := hide (show (xs.take (i + 1)).all Tb.written = true by rw [HTS.out, HT.out, hpx]; rfl)
        rw [hpx] at C
        clear HTS HB hpx HRES
        go_wp2_with (go_at_call 47; refine (unhide C).mono ?_; rintro e w1 ⟨rfl, rfl⟩)
        exact ⟨⟨i + 1, HLT.out, by go_num, HT2, trivial⟩, by have := HLT.out; simp [intOf]; omega⟩
      | false =>
        have HF := hide (show res = false by rw [← HRES.out]; exact HB.out hpx)
        rw [hpx] at C
        clear HTS HB hpx HRES HT
        go_wp2_with (go_at_call 47; refine (unhide C).mono ?_; rintro e w1 ⟨rfl, rfl⟩)
        go_ret
        exact ⟨by rw [HF.out]; rfl, rfl⟩
    · obtain rfl : i = n := by omega
      have HF := hide (show res = true by
        rw [← HRES.out]
        have h := HT.out
        rwa [List.take_of_length_le (by rw [HN.out]; omega)] at h)
      have hnt : ¬ ((i : Int) < (i : Int)) := by omega
      clear HRES HT hlt
      go_wp2
      go_ret
      exact ⟨by rw [HF.out]; rfl, rfl⟩
set_option maxHeartbeats 1000000 in
theorem writable_any (A : Option Addr) (n c : Nat) (xs : List UInt8) (w : World) (hr : Reads w w.heap.size 1 A n (BV xs)) (hbig : n ≤ 1048576) :
    Calls Try.prog 61 #[.slice A n c] w fun e w' => e = .returned (.bool (Tb.writable xs)) ∧ w = w' := by
  have hn : xs.length = n := by have := hr.1; rw [BV_len] at this; omega
  have C := hide (every_filled A n c xs w hr hbig)
  have HW := hide (show Tb.writable xs = (decide (1 ≤ n ∧ n ≤ 4) && xs.all Tb.filled) by unfold Tb.writable; rw [hn])
  generalize Tb.writable xs = r at *
  generalize xs.all Tb.filled = f at *
  clear hn hr
  by_cases h1 : (1 : Int) ≤ (n : Int)
  · by_cases h2 : (n : Int) ≤ 4
    · go_enter Try.func61, Try.ntmps61
      go_wp2_with (go_at_call 46; refine (unhide C).mono ?_; rintro e w1 ⟨rfl, rfl⟩)
      go_ret
      exact ⟨by rw [HW.out, decide_eq_true (by omega), Bool.true_and]; rfl, rfl⟩
    · go_enter Try.func61, Try.ntmps61
      go_wp2
      go_ret
      exact ⟨by rw [HW.out, decide_eq_false (by omega), Bool.false_and]; rfl, rfl⟩
  · go_enter Try.func61, Try.ntmps61
    go_wp2
    go_ret
    exact ⟨by rw [HW.out, decide_eq_false (by omega), Bool.false_and]; rfl, rfl⟩
end Go.Proofs.Ytbcfndhnopmbbaa
