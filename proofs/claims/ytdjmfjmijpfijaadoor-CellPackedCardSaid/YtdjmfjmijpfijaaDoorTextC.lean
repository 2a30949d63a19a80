/-
  Cells: Valid, Text, Few, Same, SameInts, by contract.
-/
import Derived.Test.YtdjmfjmijpfijaaDoorOfC
namespace Go.Proofs.YtdjmfjmijpfijaaDoor
open Go.RowKit
set_option linter.unusedVariables false
set_option linter.unusedSimpArgs false
namespace Ce
def valid (l : List UInt8) : Bool := l.all fun b => decide (b.toNat < 64)
def text (l : List UInt8) : List UInt8 := if valid l then l.map (32 + ·) else []
theorem valid_bad {l : List UInt8} {b : UInt8} (h : b ∈ l) (hb : ¬ b.toNat < 64) : valid l = false := by
  unfold valid
  rw [List.all_eq_false]
  exact ⟨b, h, by simpa using hb⟩
theorem valid_ok {l : List UInt8} (h : ∀ b ∈ l, b.toNat < 64) : valid l = true := by
  unfold valid
  rw [List.all_eq_true]
  exact fun b hb => decide_eq_true (h b hb)
theorem valid_at {l : List UInt8} (h : valid l = true) : ∀ b ∈ l, b.toNat < 64 := by
  unfold valid at h
  rw [List.all_eq_true] at h
  exact fun b hb => of_decide_eq_true (h b hb)
end Ce
theorem reads_byte {w : World} {B n : Nat} {A : Option Addr} {l : List UInt8} (hr : Reads w B 1 A n (BV l)) (k : Nat) (hk : k < n) : ∃ ad, A = some ad ∧ ∃ hx : k < l.length, w.cell? (ad.add k) = some (.int .u8 ((l[k].toNat : Nat) : Int)) := by
  obtain ⟨ad, hA, hx, hc⟩ := reads_item hr k hk
  rw [BV_len] at hx
  exact ⟨ad, hA, hx, by rw [hc]; simp [BV]⟩
theorem reads_bytes_len {w : World} {B n : Nat} {A : Option Addr} {l : List UInt8} (hr : Reads w B 1 A n (BV l)) : n = l.length := by have := hr.1; rw [BV_len] at this; omega

set_option maxHeartbeats 1000000 in
set_option maxRecDepth 100000 in
theorem valid_any (A : Option Addr) (n c : Nat) (l : List UInt8) (w : World) (hr : Reads w w.heap.size 1 A n (BV l)) (hm : n ≤ 1099511627776) :
    Calls Tryd.prog 21 #[.slice A n c] w fun e w' => e = .returned (.bool (Ce.valid l)) ∧ Below w.heap.size w w' := by
  have HN := hide (reads_bytes_len hr)
  have HR := hide hr
  clear hr
  go_enter Tryd.func21, Tryd.ntmps21
  go_upto_region 2 with fail
  go_loopw [7] (fun s wr => ∃ k : Nat, k ≤ n ∧ s = .int .i64 (k : Int) ∧ Hid (∀ x ∈ l.take k, x.toNat < 64) ∧ Below w.heap.size w wr) (fun s _ => n - (intOf s).toNat)
  case atStart => exact ⟨0, by omega, rfl, by simp [Hid], Below.refl _ _⟩
  case round =>
    obtain ⟨k, hk, rfl, HG, hbel⟩ := hrel
    obtain ⟨wd, rfl⟩ : ∃ wd, wd = wr := ⟨wr, rfl⟩
    have HB := hide hbel
    by_cases hlt : k < n
    · obtain ⟨ad, rfl, hkl, hc0⟩ := reads_byte HR.out k hlt
      have hc : wd.cell? (ad.add k) = some (.int .u8 ((l[k].toNat : Nat) : Int)) := by rw [hbel.cell (block_lt_of_cell hc0)]; exact hc0
      have HMEM := hide (List.getElem_mem hkl)
      have HT := hide (List.take_succ_eq_append_getElem hkl)
      generalize l[k] = x at *
      have HLT := hide hlt
      have h0 : (0 : Int) ≤ (k : Int) := by omega
      have h1 : (k : Int) < (n : Int) := by omega
      clear hbel hlt hc0
      by_cases hb1 : x.toNat < 64
      · have HG2 := hide (show ∀ y ∈ l.take (k + 1), y.toNat < 64 by
          intro y hy
          rw [HT.out] at hy
          rcases List.mem_append.1 hy with hy | hy
          · exact HG.out y hy
          · simp at hy; subst hy; exact hb1)
        generalize x.toNat = xn at *
        have h2 : ¬ (64 : Int) ≤ (xn : Int) := by omega
        clear hb1
        go_wp2
        exact ⟨⟨k + 1, HLT.out, by go_num, HG2, HB.out⟩, by have := HLT.out; simp [intOf]; omega⟩
      · have HF := hide (Ce.valid_bad HMEM.out hb1)
        generalize x.toNat = xn at *
        have h2 : (64 : Int) ≤ (xn : Int) := by omega
        clear hb1
        go_wp2
        go_ret
        exact ⟨by rw [HF.out]; rfl, HB.out⟩
    · obtain rfl : k = n := by omega
      have HF := hide (Ce.valid_ok (l := l) (by have := HG.out; rwa [List.take_of_length_le (by have := HN.out; omega)] at this))
      clear hbel hlt HG
      go_wp2
      go_ret
      exact ⟨by rw [HF.out]; rfl, HB.out⟩
set_option maxHeartbeats 1000000 in
set_option maxRecDepth 100000 in
theorem refValid_any (A : Option Addr) (n c : Nat) (l : List UInt8) (w : World) (hr : Reads w w.heap.size 1 A n (BV l)) (hm : n ≤ 1099511627776) :
    Calls Tryd.prog 22 #[.slice A n c] w fun e w' => e = .returned (.bool (Ce.valid l)) ∧ Below w.heap.size w w' := by
  have HN := hide (reads_bytes_len hr)
  have HR := hide hr
  clear hr
  go_enter Tryd.func22, Tryd.ntmps22
  go_upto_region 2 with fail
  go_loopw [3] (fun s wr => ∃ k : Nat, k ≤ n ∧ s = .int .i64 (k : Int) ∧ Hid (∀ x ∈ l.take k, x.toNat < 64) ∧ Below w.heap.size w wr) (fun s _ => n - (intOf s).toNat)
  case atStart => exact ⟨0, by omega, rfl, by simp [Hid], Below.refl _ _⟩
  case round =>
    obtain ⟨k, hk, rfl, HG, hbel⟩ := hrel
    obtain ⟨wd, rfl⟩ : ∃ wd, wd = wr := ⟨wr, rfl⟩
    have HB := hide hbel
    by_cases hlt : k < n
    · obtain ⟨ad, rfl, hkl, hc0⟩ := reads_byte HR.out k hlt
      have hc : wd.cell? (ad.add k) = some (.int .u8 ((l[k].toNat : Nat) : Int)) := by rw [hbel.cell (block_lt_of_cell hc0)]; exact hc0
      have HMEM := hide (List.getElem_mem hkl)
      have HT := hide (List.take_succ_eq_append_getElem hkl)
      generalize l[k] = x at *
      have HLT := hide hlt
      have h0 : (0 : Int) ≤ (k : Int) := by omega
      have h1 : (k : Int) < (n : Int) := by omega
      clear hbel hlt hc0
      by_cases hb1 : x.toNat < 64
      · have HG2 := hide (show ∀ y ∈ l.take (k + 1), y.toNat < 64 by
          intro y hy
          rw [HT.out] at hy
          rcases List.mem_append.1 hy with hy | hy
          · exact HG.out y hy
          · simp at hy; subst hy; exact hb1)
        generalize x.toNat = xn at *
        have h2 : ¬ (63 : Int) < (xn : Int) := by omega
        clear hb1
        go_wp2
        exact ⟨⟨k + 1, HLT.out, by go_num, HG2, HB.out⟩, by have := HLT.out; simp [intOf]; omega⟩
      · have HF := hide (Ce.valid_bad HMEM.out hb1)
        generalize x.toNat = xn at *
        have h2 : (63 : Int) < (xn : Int) := by omega
        clear hb1
        go_wp2
        go_ret
        exact ⟨by rw [HF.out]; rfl, HB.out⟩
    · obtain rfl : k = n := by omega
      have HF := hide (Ce.valid_ok (l := l) (by have := HG.out; rwa [List.take_of_length_le (by have := HN.out; omega)] at this))
      clear hbel hlt HG
      go_wp2
      go_ret
      exact ⟨by rw [HF.out]; rfl, HB.out⟩
set_option maxHeartbeats 400000 in
set_option maxRecDepth 100000 in
/-- SameInts at equal lists -/
theorem sameInts_eq (A B : Option Addr) (n c d : Nat) (xs : List Int) (w : World) (ha : Reads w w.heap.size 1 A n (xs.map (Value.int .i64))) (hb : Reads w w.heap.size 1 B n (xs.map (Value.int .i64))) (hm : n ≤ maxLen) :
    Calls Tryd.prog 29 #[.slice A n c, .slice B n d] w fun e w' => e = .returned (.bool true) ∧ Below w.heap.size w w' := by
  have hn0 : ((n : Int) != n) = false := by simp
  have HA := hide ha
  have HB := hide hb
  have HRF := hide (Below.refl w.heap.size w)
  clear ha hb
  unfold maxLen at hm
  go_enter Tryd.func29, Tryd.ntmps29
  go_wp2
  go_loopw [5] (fun i wr => ∃ k m : Nat, k ≤ n ∧ i = .int .i64 (k : Int) ∧ wr = w.drewN m) (fun i _ => n - (intOf i).toNat)
  case atStart => exact ⟨0, 0, Nat.zero_le _, rfl, rfl⟩
  case round =>
    obtain ⟨k, m, hk, rfl, hwr⟩ := hrel
    subst hwr
    by_cases hlt : k < n
    · obtain ⟨ad, hA, hkl, hca⟩ := reads_int HA.out k hlt
      obtain ⟨bd, hB, _, hcb⟩ := reads_int HB.out k hlt
      subst hA hB
      generalize xs[k] = x at *
      have hx0 : (x != x) = false := by simp
      go_wp2
      go_quiet (fail)
      go_wp2
      go_roundw
      case rel => exact ⟨k + 1, _, by omega, by go_num, rfl⟩
      case measure => simp [intOf]; omega
    · obtain rfl : k = n := by omega
      go_wp2
      go_ret
      exact ⟨rfl, below_drewN HRF.out _⟩
set_option maxHeartbeats 400000 in
set_option maxRecDepth 100000 in
/-- Same at equal lists -/
theorem same_eq (A B : Option Addr) (n c d : Nat) (l : List UInt8) (w : World) (ha : Reads w w.heap.size 1 A n (BV l)) (hb : Reads w w.heap.size 1 B n (BV l)) (hm : n ≤ maxLen) :
    Calls Tryd.prog 40 #[.slice A n c, .slice B n d] w fun e w' => e = .returned (.bool true) ∧ ∃ k, w' = w.drewN k := by
  have hn0 : ((n : Int) != n) = false := by simp
  have HA := hide ha
  have HB := hide hb
  clear ha hb
  unfold maxLen at hm
  go_enter Tryd.func40, Tryd.ntmps40
  go_wp2
  go_loopw [5] (fun i wr => ∃ k m : Nat, k ≤ n ∧ i = .int .i64 (k : Int) ∧ wr = w.drewN m) (fun i _ => n - (intOf i).toNat)
  case atStart => exact ⟨0, 0, Nat.zero_le _, rfl, rfl⟩
  case round =>
    obtain ⟨k, m, hk, rfl, hwr⟩ := hrel
    subst hwr
    by_cases hlt : k < n
    · obtain ⟨ad, hA, hkl, hca⟩ := reads_byte HA.out k hlt
      obtain ⟨bd, hB, _, hcb⟩ := reads_byte HB.out k hlt
      subst hA hB
      go_wp2
      go_quiet (fail)
      go_wp2
      go_roundw
      case rel => exact ⟨k + 1, _, by omega, by go_num, rfl⟩
      case measure => simp [intOf]; omega
    · obtain rfl : k = n := by omega
      go_wp2
      go_ret
      exact ⟨rfl, _, rfl⟩
set_option maxHeartbeats 1000000 in
set_option maxRecDepth 100000 in
theorem text_any (A : Option Addr) (n c : Nat) (l : List UInt8) (w : World) (hr : Reads w w.heap.size 1 A n (BV l)) (hm : n ≤ 1099511627776) :
    Calls Tryd.prog 31 #[.slice A n c] w fun e w' => e = .returned (.string (S (Ce.text l))) ∧ Below w.heap.size w w' := by
  obtain ⟨i0, hi, hz0, hz1, hz2⟩ := info_parts byteInfo
  have HI := hide hi
  have HZ0 := hide hz0
  have HZ1 := hide hz1
  have HZ2 := hide hz2
  have HN := hide (reads_bytes_len hr)
  have CV := hide (valid_any A n c l w hr hm)
  have HR := hide hr
  clear hi hz0 hz1 hz2 hr
  cases hv : Ce.valid l with
  | false =>
    rw [hv] at CV
    have HT := hide (show Ce.text l = [] by unfold Ce.text; rw [hv]; rfl)
    clear hv
    go_enter Tryd.func31, Tryd.ntmps31
    go_wp2_with (go_at_call 21; refine (unhide CV).mono ?_; rintro e w1 ⟨rfl, hb1⟩; have B1 := hide hb1; clear hb1)
    go_ret
    exact ⟨by rw [HT.out]; rfl, B1.out⟩
  | true =>
    rw [hv] at CV
    have HT := hide (show Ce.text l = l.map (32 + ·) by unfold Ce.text; rw [hv]; rfl)
    have HV := hide (Ce.valid_at hv)
    have hn0 : (0 : Int) ≤ (n : Int) := by omega
    have hmz : (madeCells (Value.int .u8 0).cells (n * 1)).toList = filled n 0 (BV []) (.int .u8 0) := by
      rw [Nat.mul_one]
      show (madeCells #[Value.int .u8 0] n).toList = _
      rw [toList_madeCells_one]
      simp [filled, BV]
    have HMZ := hide hmz
    clear hv hmz
    go_enter Tryd.func31, Tryd.ntmps31
    go_upto_region 5 with (first
      | (go_at_call 21; refine (unhide CV).mono ?_; rintro e w1 ⟨rfl, hb1⟩; have B1 := hide hb1; clear hb1)
      | (at_make; refine wpList_make_full _ rfl _ _ 27 rfl w.heap.size 5 i0 (.int .u8 0) 1 Tryd.underlying27 HI.out HZ0.out HZ1.out _ _ _ _ n rfl rfl rfl rfl (by rw [HZ2.out]; omega) (by unfold maxLen; omega) B1.out.size ?_; intro w2 hown2 hgrow2))
    rw [HMZ.out] at hown2
    have HB2 := hide (show Below w.heap.size w w2 from B1.out.grown hgrow2 B1.out.size (by simp))
    have HO2 := hide hown2
    have hw1s := B1.out.size
    clear hown2 hgrow2
    generalize hg0 : w1.heap.size = g at *
    go_loopw [14] (fun s wr => ∃ k : Nat, k ≤ n ∧ s = .int .i64 (k : Int) ∧ wr.ownsRow w.heap.size 5 1 (.slice (some ⟨g, 0, none⟩) n n) n (filled n k (BV ((l.take k).map (32 + ·))) (.int .u8 0)) ∧ Below w.heap.size w wr) (fun s _ => n - (intOf s).toNat)
    case atStart => exact ⟨0, by omega, rfl, HO2.out, HB2.out⟩
    case round =>
      obtain ⟨k, hk, rfl, hown, hbel⟩ := hrel
      obtain ⟨wd, rfl⟩ : ∃ wd, wd = wr := ⟨wr, rfl⟩
      have HB := hide hbel
      by_cases hlt : k < n
      · obtain ⟨ad, rfl, hkl, hc0⟩ := reads_byte HR.out k hlt
        have hc : wd.cell? (ad.add k) = some (.int .u8 ((l[k].toNat : Nat) : Int)) := by rw [hbel.cell (block_lt_of_cell hc0)]; exact hc0
        have hx64 := HV.out _ (List.getElem_mem hkl)
        have hlen : (BV ((l.take k).map (32 + ·))).length = k := by rw [BV_len, List.length_map, List.length_take]; omega
        have hcell : wd.cell? ⟨g, k, none⟩ = some (.int .u8 0) := by rw [hown.cellAt k (by omega)]; exact filled_get n k _ _ hlen hlt
        have hfz := hown.frozenAt k
        have hnx : (filled n k (BV ((l.take k).map (32 + ·))) (.int .u8 0)).set k (.int .u8 (32 + (l[k].toNat : Int))) = filled n (k + 1) (BV ((l.take (k + 1)).map (32 + ·))) (.int .u8 0) := by
          rw [filled_set n k _ _ _ hlen hlt, List.take_succ_eq_append_getElem hkl, List.map_append, BV_append]
          congr 2
          simp only [BV, List.map_cons, List.map_nil]
          congr 2
          rw [UInt8.toNat_add]
          have : (32 : UInt8).toNat = 32 := rfl
          omega
        have hst := (hown.stored k (.int .u8 (32 + (l[k].toNat : Int)))).1
        rw [hnx] at hst
        generalize l[k].toNat = xn at *
        have HST := hide hst
        have HLT := hide hlt
        have h0 : (0 : Int) ≤ (k : Int) := by omega
        have h1 : (k : Int) < (n : Int) := by omega
        have h2 : (0 : Int) ≤ (xn : Int) := by omega
        have h3 : (xn : Int) < 64 := by omega
        have HSZ := hide (show w.heap.size ≤ g by omega)
        clear hbel hlt hc0 hown hst hnx hlen hx64
        go_wp2
        exact ⟨⟨k + 1, HLT.out, by go_num, HST.out, HB.out.setCell (p := ⟨g, k, none⟩) HSZ.out _⟩, by have := HLT.out; simp [intOf]; omega⟩
      · obtain rfl : k = n := by omega
        have hfu : filled k k (BV ((l.take k).map (32 + ·))) (.int .u8 0) = BV (Ce.text l) := by
          rw [filled_full, List.take_of_length_le (by have := HN.out; omega), HT.out]
        rw [hfu] at hown
        have hcv := conv_own hown (Below.refl wd.heap.size wd)
        clear hbel hlt hown hfu
        go_wp2
        go_ret
        exact ⟨rfl, HB.out⟩
end Go.Proofs.YtdjmfjmijpfijaaDoor
