/-
  The comparisons of the reference: equal lists are found equal; and byte sequences that differ are found to differ.
-/
import Derived.Test.YtdjmfjmijpfijaaEnc3
namespace Go.Proofs.Ytdjmfjmijpfijaa
open Go.RowKit
set_option linter.unusedVariables false
set_option linter.unusedSimpArgs false
set_option maxHeartbeats 400000 in
set_option maxRecDepth 100000 in
/-- Same at equal lists -/
theorem same_eqF (A B : Option Addr) (n c d : Nat) (xs : List Value) (f : Nat → Int) (w : World) (hx : ∀ k, (h : k < xs.length) → xs[k] = .int .u8 (f k)) (ha : Reads w w.heap.size 1 A n xs) (hb : Reads w w.heap.size 1 B n xs) (hm : n ≤ maxLen) :
    Calls Try.prog 6 #[.slice A n c, .slice B n d] w fun e w' => e = .returned (.bool true) ∧ ∃ k, w' = w.drewN k := by
  have hn0 : ((n : Int) != n) = false := by simp
  have HA := hide ha
  have HB := hide hb
  have HX := hide hx
  clear ha hb hx
  unfold maxLen at hm
  go_enter Try.func6, Try.ntmps6
  go_wp2
  go_loopw [5] (fun i wr => ∃ k m : Nat, k ≤ n ∧ i = .int .i64 (k : Int) ∧ wr = w.drewN m) (fun i _ => n - (intOf i).toNat)
  case atStart => exact ⟨0, 0, Nat.zero_le _, rfl, rfl⟩
  case round =>
    obtain ⟨k, m, hk, rfl, hwr⟩ := hrel
    subst hwr
    by_cases hlt : k < n
    · obtain ⟨ad, hA, hkl, hca⟩ := reads_item HA.out k hlt
      obtain ⟨bd, hB, _, hcb⟩ := reads_item HB.out k hlt
      rw [HX.out k hkl] at hca hcb
      subst hA hB
      go_wp2
      go_quiet (fail)
      go_wp2
      go_roundw
      case rel => exact ⟨k + 1, _, by omega, by go_num, rfl⟩
      case measure => simp [intOf]; omega
    · obtain rfl : k = n := by omega
      go_wp2
      go_ret
      exact ⟨rfl, _, rfl⟩

set_option maxHeartbeats 400000 in
set_option maxRecDepth 100000 in
/-- SameInts at equal lists -/
theorem sameInts_eqF (A B : Option Addr) (n c d : Nat) (xs : List Value) (f : Nat → Int) (w : World) (hx : ∀ k, (h : k < xs.length) → xs[k] = .int .i64 (f k)) (ha : Reads w w.heap.size 1 A n xs) (hb : Reads w w.heap.size 1 B n xs) (hm : n ≤ maxLen) :
    Calls Try.prog 26 #[.slice A n c, .slice B n d] w fun e w' => e = .returned (.bool true) ∧ ∃ k, w' = w.drewN k := by
  have hn0 : ((n : Int) != n) = false := by simp
  have HA := hide ha
  have HB := hide hb
  have HX := hide hx
  clear ha hb hx
  unfold maxLen at hm
  go_enter Try.func26, Try.ntmps26
  go_wp2
  go_loopw [5] (fun i wr => ∃ k m : Nat, k ≤ n ∧ i = .int .i64 (k : Int) ∧ wr = w.drewN m) (fun i _ => n - (intOf i).toNat)
  case atStart => exact ⟨0, 0, Nat.zero_le _, rfl, rfl⟩
  case round =>
    obtain ⟨k, m, hk, rfl, hwr⟩ := hrel
    subst hwr
    by_cases hlt : k < n
    · obtain ⟨ad, hA, hkl, hca⟩ := reads_item HA.out k hlt
      obtain ⟨bd, hB, _, hcb⟩ := reads_item HB.out k hlt
      rw [HX.out k hkl] at hca hcb
      subst hA hB
      go_wp2
      go_quiet (fail)
      go_wp2
      go_roundw
      case rel => exact ⟨k + 1, _, by omega, by go_num, rfl⟩
      case measure => simp [intOf]; omega
    · obtain rfl : k = n := by omega
      go_wp2
      go_ret
      exact ⟨rfl, _, rfl⟩

set_option maxHeartbeats 400000 in
set_option maxRecDepth 100000 in
/-- Same at byte sequences that differ -/
theorem same_ne (A B : Option Addr) (n m c d : Nat) (l r : List UInt8) (w : World) (ha : Reads w w.heap.size 1 A n (BV l)) (hb : Reads w w.heap.size 1 B m (BV r)) (hm : n ≤ maxLen) (hne : l ≠ r) :
    Calls Try.prog 6 #[.slice A n c, .slice B m d] w fun e w' => e = .returned (.bool false) ∧ ∃ k, w' = w.drewN k := by
  have hn : n = l.length := by have := ha.1; simp [BV] at this; omega
  have hn2 : m = r.length := by have := hb.1; simp [BV] at this; omega
  have HN := hide hn
  have HN2 := hide hn2
  have HA := hide ha
  have HB := hide hb
  have HNE := hide hne
  clear ha hb hne hn hn2
  unfold maxLen at hm
  by_cases hnm : n = m
  · subst hnm
    have hn0 : ((n : Int) != n) = false := by simp
    go_enter Try.func6, Try.ntmps6
    go_wp2
    go_loopw [5] (fun i wr => ∃ k q : Nat, k ≤ n ∧ i = .int .i64 (k : Int) ∧ wr = w.drewN q ∧ Hid (l.take k = r.take k)) (fun i _ => n - (intOf i).toNat)
    case atStart => exact ⟨0, 0, Nat.zero_le _, rfl, rfl, by simp [Hid]⟩
    case round =>
      obtain ⟨k, q, hk, rfl, hwr, HT⟩ := hrel
      subst hwr
      by_cases hlt : k < n
      · obtain ⟨ad, hA, hkl, hca⟩ := reads_item HA.out k hlt
        obtain ⟨bd, hB, hkr, hcb⟩ := reads_item HB.out k hlt
        rw [BV_len] at hkl hkr
        have e1 : (BV l)[k]'(by rw [BV_len]; exact hkl) = .int .u8 ((l[k]).toNat : Int) := by simp [BV]
        have e2 : (BV r)[k]'(by rw [BV_len]; exact hkr) = .int .u8 ((r[k]).toNat : Int) := by simp [BV]
        rw [e1] at hca
        rw [e2] at hcb
        have hst : l[k].toNat = r[k].toNat → l.take (k + 1) = r.take (k + 1) := fun h => by
          rw [List.take_succ_eq_append_getElem hkl, List.take_succ_eq_append_getElem hkr, HT.out, UInt8.toNat_inj.1 h]
        generalize l[k].toNat = x at *
        generalize r[k].toNat = y at *
        have HST := hide hst
        subst hA hB
        clear e1 e2 hst
        by_cases hxy : x = y
        · have hb1 : ((x : Int) != y) = false := by simp [hxy]
          have HS := hide (HST.out hxy)
          clear hxy
          go_wp2
          go_quiet (fail)
          go_wp2
          go_roundw
          case rel => exact ⟨k + 1, _, by omega, by go_num, rfl, HS⟩
          case measure => simp [intOf]; omega
        · have hb1 : ((x : Int) != y) = true := by rw [bne_iff_ne]; omega
          clear hxy
          go_wp2
          go_quiet (fail)
          go_wp2
          go_ret
          exact ⟨rfl, _, World.drewN_drewN _ _ _⟩
      · exfalso
        obtain rfl : k = n := by omega
        have := HT.out
        rw [List.take_of_length_le (by have := HN.out; omega), List.take_of_length_le (by have := HN2.out; omega)] at this
        exact HNE.out this
  · have hn0 : ((n : Int) != m) = true := by rw [bne_iff_ne]; omega
    clear hnm
    go_enter Try.func6, Try.ntmps6
    go_wp2
    go_ret
    exact ⟨rfl, 0, rfl⟩

end Go.Proofs.Ytdjmfjmijpfijaa
