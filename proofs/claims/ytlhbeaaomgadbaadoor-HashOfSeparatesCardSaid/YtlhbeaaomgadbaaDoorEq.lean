/-
  Equal of package hash; Few, Joined of the reference: by contract.
-/
import Derived.Test.YtlhbeaaomgadbaaDoorBase
namespace Go.Proofs.YtlhbeaaomgadbaaDoor
open Go.RowKit
set_option linter.unusedVariables false
set_option linter.unusedSimpArgs false

/-- whether two strings are the same -/
def eqS (a b : ByteArray) : Bool := decide (a.data.toList = b.data.toList)
theorem or_byte (a b : UInt8) : bits .or .u8 (a.toNat : Int) (b.toNat : Int) = ((a ||| b).toNat : Int) := by
  rw [u8_or_nat _ _ a.toNat_lt b.toNat_lt, UInt8.toNat_or]
theorem or_xor_zero (d a b : UInt8) : d ||| (a ^^^ b) = 0 ↔ d = 0 ∧ a = b := by
  constructor
  · intro h
    have h1 := congrArg UInt8.toBitVec h
    simp only [UInt8.toBitVec_or, UInt8.toBitVec_xor] at h1
    have h2 : ∀ i, (d.toBitVec.getLsbD i = false ∧ (a.toBitVec.getLsbD i = b.toBitVec.getLsbD i)) := by
      intro i
      have := congrArg (fun x => BitVec.getLsbD x i) h1
      simp at this
      revert this
      cases d.toBitVec.getLsbD i <;> cases a.toBitVec.getLsbD i <;> cases b.toBitVec.getLsbD i <;> simp
    refine ⟨UInt8.toBitVec_inj.1 ?_, UInt8.toBitVec_inj.1 ?_⟩
    · apply BitVec.eq_of_getLsbD_eq; intro i _; simpa using (h2 i).1
    · apply BitVec.eq_of_getLsbD_eq; intro i _; exact (h2 i).2
  · rintro ⟨rfl, rfl⟩
    simp
theorem take_eq_succ (a b : List UInt8) (k : Nat) (ha : k < a.length) (hb : k < b.length) : a.take (k + 1) = b.take (k + 1) ↔ a.take k = b.take k ∧ a[k] = b[k] := by
  rw [List.take_succ_eq_append_getElem ha, List.take_succ_eq_append_getElem hb]
  constructor
  · intro h
    have := List.append_inj h (by simp; omega)
    exact ⟨this.1, by simpa using this.2⟩
  · rintro ⟨h1, h2⟩
    rw [h1, h2]
/-- the differences of the first k bytes, gathered -/
def gath (a b : List UInt8) (k : Nat) (d : UInt8) : Prop := d = 0 ↔ a.take k = b.take k
theorem gath_succ {a b : List UInt8} {k : Nat} {d : UInt8} (h : gath a b k d) (ha : k < a.length) (hb : k < b.length) : gath a b (k + 1) (d ||| (a[k] ^^^ b[k])) := by
  unfold gath at *
  rw [or_xor_zero, take_eq_succ a b k ha hb, h]

set_option maxHeartbeats 400000 in
set_option maxRecDepth 100000 in
theorem equal_any (a b : ByteArray) (w : World) (ha : a.size ≤ maxLen) (hb : b.size ≤ maxLen) :
    Calls Tryd.prog 24 #[.string a, .string b] w fun e w' => e = .returned (.bool (eqS a b)) ∧ ∃ k, w' = w.drewN k := by
  unfold maxLen at ha hb
  by_cases hn : a.size = b.size
  · have hb' : ((a.size : Int) != (b.size : Int)) = false := by simp [hn]
    have HN := hide hn
    clear hn
    go_enter Tryd.func24, Tryd.ntmps24
    go_wp2
    go_loopw [5, 14] (fun d i wr => ∃ (k : Nat) (m : Nat) (x : UInt8), k ≤ a.size ∧ i = .int .i64 (k : Int) ∧ d = .int .u8 ((x.toNat : Nat) : Int) ∧ gath a.data.toList b.data.toList k x ∧ wr = w.drewN m) (fun _ i _ => a.size - (intOf i).toNat)
    case atStart => exact ⟨0, 0, 0, Nat.zero_le _, rfl, rfl, by simp [gath], rfl⟩
    case round =>
      obtain ⟨k, m, x, hk, rfl, rfl, hg, hwr⟩ := hrel
      subst hwr
      by_cases hlt : k < a.size
      · have hlt2 : k < b.size := by have := HN.out; omega
        have hi1 : (0 : Int) ≤ (k : Int) := by omega
        have hi2 : (k : Int) < (a.size : Int) := by omega
        have hi3 : (k : Int) < (b.size : Int) := by omega
        have HG := hide (gath_succ hg (by simpa using hlt) (by simpa using hlt2))
        have hx := xor_byte a[k] b[k]
        have ho := or_byte x (a[k] ^^^ b[k])
        have HG' : Hid (gath a.data.toList b.data.toList (k + 1) (x ||| (a[k] ^^^ b[k]))) := HG
        clear HG hg
        generalize x ||| (a[k] ^^^ b[k]) = y at *
        generalize a[k] ^^^ b[k] = z at *
        go_wp2
        go_quiet (fail)
        go_wp2
        go_roundw
        case rel => exact ⟨k + 1, _, y, by omega, by go_num, rfl, HG'.out, rfl⟩
        case measure => simp [intOf]; omega
      · obtain rfl : k = a.size := by omega
        have hfin : ((x.toNat : Int) == 0) = eqS a b := by
          have h1 : a.data.toList.take a.size = a.data.toList := List.take_of_length_le (by simp)
          have h2 : b.data.toList.take a.size = b.data.toList := List.take_of_length_le (by have := HN.out; simp; omega)
          unfold gath at hg
          rw [h1, h2] at hg
          rw [Bool.eq_iff_iff]
          unfold eqS
          rw [beq_iff_eq, decide_eq_true_iff, ← hg]
          constructor
          · intro h; apply UInt8.toNat_inj.1; simpa using h
          · rintro rfl; rfl
        have HF := hide hfin
        clear hfin hg
        go_wp2
        go_ret
        exact ⟨by rw [HF.out]; rfl, _, rfl⟩
  · have hb' : ((a.size : Int) != (b.size : Int)) = true := by rw [bne_iff_ne]; omega
    have HF := hide (show eqS a b = false by
      unfold eqS
      rw [decide_eq_false_iff_not]
      intro h
      exact hn (by have := congrArg List.length h; simpa using this))
    clear hn
    go_enter Tryd.func24, Tryd.ntmps24
    go_wp2
    go_ret
    exact ⟨by rw [HF.out]; rfl, 0, rfl⟩

/-- at most twelve texts of at most 400 bytes -/
def fewB (xs : List (List UInt8)) : Bool := decide (xs.length ≤ 12 ∧ ∀ x ∈ xs, x.length ≤ 400)
theorem fewB_true {xs : List (List UInt8)} (h : fewB xs = true) : xs.length ≤ 12 ∧ ∀ x ∈ xs, x.length ≤ 400 := of_decide_eq_true h

set_option maxHeartbeats 400000 in
set_option maxRecDepth 100000 in
theorem few_any (A : Option Addr) (n c : Nat) (xs : List (List UInt8)) (w : World) (hr : Reads w w.heap.size 1 A n (xs.map VS)) (hs : ∀ x ∈ xs, x.length ≤ 4611686018427387904) (hm : n ≤ 4611686018427387904) :
    Calls Tryd.prog 13 #[.slice A n c] w fun e w' => e = .returned (.bool (fewB xs)) ∧ w = w' := by
  have hl : n = xs.length := by have := hr.1; simpa using this.symm
  by_cases h12 : n ≤ 12
  · have h12' : ¬ (12 : Int) < (n : Int) := by omega
    have HA := hide hr
    have HL := hide hl
    have HS := hide hs
    clear hr hl hs
    go_enter Tryd.func13, Tryd.ntmps13
    go_wp2
    go_loopw [3] (fun i wr => ∃ k : Nat, k ≤ n ∧ i = .int .i64 (k : Int) ∧ (∀ x ∈ xs.take k, x.length ≤ 400) ∧ wr = w) (fun i _ => n - (intOf i).toNat)
    case atStart => exact ⟨0, Nat.zero_le _, rfl, by simp, rfl⟩
    case round =>
      obtain ⟨k, hk, rfl, hall, hwr⟩ := hrel
      subst hwr
      have HALL := hide hall
      clear hall
      by_cases hlt : k < n
      · obtain ⟨ad, hA, hkl, hca⟩ := reads_item HA.out k hlt
        subst hA
        have hkx : k < xs.length := by have := HL.out; omega
        have hca' : wr.cell? (ad.add k) = some (.string (S xs[k])) := by rw [hca]; simp [VS]
        have hsz : (S xs[k]).size = xs[k].length := rfl
        have hbig := HS.out xs[k] (List.getElem_mem hkx)
        have hst := List.take_succ_eq_append_getElem hkx
        clear hca
        by_cases hle : xs[k].length ≤ 400
        · have hle' : ¬ (400 : Int) < (((S xs[k]).size : Nat) : Int) := by rw [hsz]; omega
          have HN := hide (show ∀ x ∈ xs.take (k + 1), x.length ≤ 400 by
            rw [hst]
            intro x hx
            rcases List.mem_append.1 hx with h | h
            · exact HALL.out x h
            · simp at h; subst h; exact hle)
          rw [← hsz] at hbig
          clear hsz hst hle
          generalize S xs[k] = sk at *
          go_wp2
          go_roundw
          case rel => exact ⟨k + 1, by omega, by go_num, HN.out, trivial⟩
          case measure => simp [intOf]; omega
        · have hle' : (400 : Int) < (((S xs[k]).size : Nat) : Int) := by rw [hsz]; omega
          have HF := hide (show fewB xs = false by
            unfold fewB
            rw [decide_eq_false_iff_not]
            rintro ⟨_, h⟩
            exact hle (h _ (List.getElem_mem hkx)))
          rw [← hsz] at hbig
          clear hsz hst hle
          generalize S xs[k] = sk at *
          go_wp2
          go_ret
          exact ⟨by rw [HF.out]; rfl, rfl⟩
      · obtain rfl : k = n := by omega
        have HF := hide (show fewB xs = true by
          unfold fewB
          rw [decide_eq_true_iff]
          refine ⟨by have := HL.out; omega, ?_⟩
          have := HALL.out
          rwa [List.take_of_length_le (by have := HL.out; omega)] at this)
        go_wp2
        go_ret
        exact ⟨by rw [HF.out]; rfl, rfl⟩
  · have h12' : (12 : Int) < (n : Int) := by omega
    have HF := hide (show fewB xs = false by
      unfold fewB
      rw [decide_eq_false_iff_not]
      rintro ⟨h, _⟩
      omega)
    clear hr hl hs
    go_enter Tryd.func13, Tryd.ntmps13
    go_wp2
    go_ret
    exact ⟨by rw [HF.out]; rfl, rfl⟩

theorem flat_le (b : Nat) (ys : List (List UInt8)) (h : ∀ x ∈ ys, x.length ≤ b) : ys.flatten.length ≤ b * ys.length := by
  induction ys with
  | nil => simp
  | cons y ys ih =>
    have h1 := h y (by simp)
    have h2 := ih (fun x hx => h x (by simp [hx]))
    rw [List.flatten_cons, List.length_append, List.length_cons, Nat.mul_add]
    omega
set_option maxHeartbeats 400000 in
set_option maxRecDepth 100000 in
theorem joined_any (A : Option Addr) (n c : Nat) (xs : List (List UInt8)) (w : World) (hr : Reads w w.heap.size 1 A n (xs.map VS)) (h12 : xs.length ≤ 12) (hs : ∀ x ∈ xs, x.length ≤ 400) :
    Calls Tryd.prog 16 #[.slice A n c] w fun e w' => e = .returned (.string (S xs.flatten)) ∧ w = w' := by
  have hl : n = xs.length := by have := hr.1; simpa using this.symm
  have HA := hide hr
  have HL := hide hl
  have HS := hide hs
  have hn12 : n ≤ 12 := by omega
  clear hr hl hs h12
  go_enter Tryd.func16, Tryd.ntmps16
  go_wp2
  go_loopw [3, 4] (fun t i wr => ∃ k : Nat, k ≤ n ∧ i = .int .i64 (k : Int) ∧ t = .string (S (xs.take k).flatten) ∧ wr = w) (fun _ i _ => n - (intOf i).toNat)
  case atStart => exact ⟨0, Nat.zero_le _, rfl, rfl, rfl⟩
  case round =>
    obtain ⟨k, hk, rfl, rfl, hwr⟩ := hrel
    subst hwr
    by_cases hlt : k < n
    · obtain ⟨ad, hA, hkl, hca⟩ := reads_item HA.out k hlt
      subst hA
      have hkx : k < xs.length := by have := HL.out; omega
      have hca' : wr.cell? (ad.add k) = some (.string (S xs[k])) := by rw [hca]; simp [VS]
      have hst : (xs.take (k + 1)).flatten = (xs.take k).flatten ++ xs[k] := by
        rw [List.take_succ_eq_append_getElem hkx, List.flatten_append]
        simp only [List.flatten_cons, List.flatten_nil, List.append_nil]
      have HN := hide (show S (xs.take (k + 1)).flatten = S (xs.take k).flatten ++ S xs[k] by
        rw [hst]
        apply ByteArray.ext
        simp [S])
      have hsk : (S xs[k]).size ≤ 400 := HS.out _ (List.getElem_mem hkx)
      have hsj : (S (xs.take k).flatten).size ≤ 4800 := by
        have h1 := flat_le 400 (xs.take k) (fun x hx => HS.out x (List.mem_of_mem_take hx))
        have h2 : (xs.take k).length ≤ 12 := by rw [List.length_take]; omega
        rw [S_size]
        omega
      clear hca hst
      generalize S xs[k] = sk at *
      generalize S (xs.take k).flatten = sj at *
      go_wp2
      refine ⟨⟨k + 1, by omega, by go_num, by rw [HN.out], trivial⟩, by simp [intOf]; omega⟩
    · obtain rfl : k = n := by omega
      rw [List.take_of_length_le (by have := HL.out; omega)]
      go_wp2
      go_ret
      exact ⟨rfl, rfl⟩
end Go.Proofs.YtlhbeaaomgadbaaDoor
