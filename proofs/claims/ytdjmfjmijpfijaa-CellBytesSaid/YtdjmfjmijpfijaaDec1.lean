/-
  GetInt by its contract: for every slice of bytes, what the program answers is what the plain decoding answers, and memory stays as it is.
-/
import Derived.Test.YtdjmfjmijpfijaaProg
import Derived.Test.YtdjmfjmijpfijaaWords
import Derived.Test.YtdjmfjmijpfijaaMath
import Derived.WalkKit
import Derived.WalkSpells
import Derived.WalkLawsBesides
import Derived.Laws.BitsAllLaws
import Derived.Test.YtdjmfjmijpfijaaBase
namespace Go.Proofs.Ytdjmfjmijpfijaa
open Go.RowKit
set_option linter.unusedVariables false
set_option linter.unusedSimpArgs false
set_option maxHeartbeats 400000 in
set_option maxRecDepth 100000 in
theorem getInt_nil (A : Option Addr) (c : Nat) (w : World) :
    Calls Try.prog 45 #[.slice A 0 c] w fun e w' => e = .returned (.tuple #[.int .i64 0, .int .i64 0, .int .i64 3]) ∧ w = w' := by
  go_enter Try.func45, Try.ntmps45
  go_wp2
  go_ret3
  exact ⟨rfl, rfl⟩

theorem kOf_xor (h : UInt8) : (h ^^^ Wr.flipOf h).toNat = 128 + Wr.kOf h := by
  have H : ∀ h : Fin 256, 128 ≤ (UInt8.ofNat h.val ^^^ Wr.flipOf (UInt8.ofNat h.val)).toNat := by decide +kernel
  have := H ⟨h.toNat, h.toNat_lt⟩
  simp only [UInt8.ofNat_toNat] at this
  unfold Wr.kOf
  omega
theorem kOf_le (h : UInt8) : Wr.kOf h ≤ 127 := by unfold Wr.kOf; have := (h ^^^ Wr.flipOf h).toNat_lt; omega
theorem head_neg (h : UInt8) (hs : h.toNat < 128) : bits .xor .u8 (h.toNat : Int) 255 = 128 + (Wr.kOf h : Int) := by
  have hf : Wr.flipOf h = 255 := by unfold Wr.flipOf; rw [if_pos (by rw [UInt8.lt_iff_toNat_lt]; simpa using hs)]
  have := xor_byte h 255
  rw [show ((255 : UInt8).toNat : Int) = 255 from rfl] at this
  have hk := kOf_xor h
  rw [hf] at hk
  omega
theorem head_pos (h : UInt8) (hs : ¬ h.toNat < 128) : bits .xor .u8 (h.toNat : Int) 0 = 128 + (Wr.kOf h : Int) := by
  have hf : Wr.flipOf h = 0 := by unfold Wr.flipOf; rw [if_neg (by rw [UInt8.lt_iff_toNat_lt]; simpa using hs)]
  have := xor_byte h 0
  rw [show ((0 : UInt8).toNat : Int) = 0 from rfl] at this
  have hk := kOf_xor h
  rw [hf] at hk
  omega

/-- the value of the first j bytes behind a mask -/
def vk (f : UInt8) (t : List UInt8) (j : Nat) : Nat := Wr.val ((t.take j).map (· ^^^ f))
theorem vk_zero (f : UInt8) (t : List UInt8) : vk f t 0 = 0 := rfl
theorem vk_succ (f : UInt8) (t : List UInt8) (j : Nat) (h : j < t.length) : vk f t (j + 1) = vk f t j * 256 + (t[j] ^^^ f).toNat := by
  unfold vk
  rw [List.take_succ_eq_append_getElem h, List.map_append, List.map_singleton, Wr.val_snoc]
theorem vk_lt (f : UInt8) (t : List UInt8) (j : Nat) : vk f t j < 256 ^ j := by
  unfold vk
  have h := Wr.val_lt ((t.take j).map (· ^^^ f))
  have hl : ((t.take j).map (· ^^^ f)).length ≤ j := by simp; omega
  exact Nat.lt_of_lt_of_le h (Nat.pow_le_pow_right (by omega) hl)

theorem or_step (m b : Nat) (hm : m < 72057594037927936) (hb : b < 256) : bits .or .u64 ((m : Int) * 256) (b : Int) = ((m * 256 + b : Nat) : Int) := by
  have h1 : (m : Int) * 256 = ((m * 256 : Nat) : Int) := by omega
  rw [h1, u64_or_nat _ _ (by omega) (by omega), nat_join 8 _ _ (by omega) (by omega)]

theorem dec_full (h : UInt8) (t : List UInt8) (hk8 : Wr.kOf h ≤ 8) (hl : Wr.kOf h ≤ t.length) : Wr.decI (h :: t) =
    if (0 < Wr.kOf h ∧ t.head? = some (Wr.flipOf h)) ∨ 9223372036854775807 < vk (Wr.flipOf h) t (Wr.kOf h) then (0, 0, 2)
    else (if h < 128 then -1 - (vk (Wr.flipOf h) t (Wr.kOf h) : Int) else (vk (Wr.flipOf h) t (Wr.kOf h) : Int), 1 + Wr.kOf h, 0) := by
  rw [Wr.decI_cons, if_neg (by omega), if_neg (by omega)]
  rfl
theorem flip_neg (h : UInt8) (hs : h.toNat < 128) : Wr.flipOf h = 255 ∧ h < 128 := by
  have : h < 128 := by rw [UInt8.lt_iff_toNat_lt]; simpa using hs
  exact ⟨by unfold Wr.flipOf; rw [if_pos this], this⟩
theorem flip_pos (h : UInt8) (hs : ¬ h.toNat < 128) : Wr.flipOf h = 0 ∧ ¬ h < 128 := by
  have : ¬ h < 128 := by rw [UInt8.lt_iff_toNat_lt]; simpa using hs
  exact ⟨by unfold Wr.flipOf; rw [if_neg this], this⟩
/-- what a full encoding decodes to, below zero and from zero on -/
theorem dec_bad (h : UInt8) (t : List UInt8) (hk8 : Wr.kOf h ≤ 8) (hl : Wr.kOf h ≤ t.length) (hb : (0 < Wr.kOf h ∧ t.head? = some (Wr.flipOf h)) ∨ 9223372036854775807 < vk (Wr.flipOf h) t (Wr.kOf h)) :
    Wr.decI (h :: t) = (0, 0, 2) := by rw [dec_full h t hk8 hl, if_pos hb]
theorem dec_good (h : UInt8) (t : List UInt8) (hk8 : Wr.kOf h ≤ 8) (hl : Wr.kOf h ≤ t.length) (hb : ¬ ((0 < Wr.kOf h ∧ t.head? = some (Wr.flipOf h)) ∨ 9223372036854775807 < vk (Wr.flipOf h) t (Wr.kOf h))) :
    Wr.decI (h :: t) = (if h < 128 then -1 - (vk (Wr.flipOf h) t (Wr.kOf h) : Int) else (vk (Wr.flipOf h) t (Wr.kOf h) : Int), 1 + Wr.kOf h, 0) := by rw [dec_full h t hk8 hl, if_neg hb]
theorem head_get (t : List UInt8) (f : UInt8) (h : 0 < t.length) : (t.head? = some f) ↔ t[0].toNat = f.toNat := by
  cases t with
  | nil => simp at h
  | cons a r => simp [UInt8.toNat_inj]
theorem vk_lt7 (f : UInt8) (t : List UInt8) (j : Nat) (h : j ≤ 7) : vk f t j < 72057594037927936 :=
  Nat.lt_of_lt_of_le (vk_lt f t j) (Nat.le_trans (Nat.pow_le_pow_right (by omega) h) (by decide))
theorem vk_lt8 (f : UInt8) (t : List UInt8) (j : Nat) (h : j ≤ 8) : vk f t j < 18446744073709551616 :=
  Nat.lt_of_lt_of_le (vk_lt f t j) (Nat.le_trans (Nat.pow_le_pow_right (by omega) h) (by decide))

set_option maxHeartbeats 400000 in
set_option maxRecDepth 100000 in
theorem getInt_early (ad : Addr) (n c : Nat) (h : UInt8) (t : List UInt8) (w : World) (hr : Reads w w.heap.size 1 (some ad) n (BV (h :: t))) (hm : n ≤ maxLen) (hk : 8 < Wr.kOf h ∨ t.length < Wr.kOf h) :
    Calls Try.prog 45 #[.slice (some ad) n c] w fun e w' => e = .returned (.tuple #[.int .i64 0, .int .i64 0, .int .i64 (if 8 < Wr.kOf h then 2 else 3)]) ∧ w = w' := by
  have hn : n = t.length + 1 := by have := hr.1; simp [BV] at this; omega
  have hc : w.cell? ad = some (.int .u8 (h.toNat : Int)) := reads_cell hr 0 (by simp)
  have h0 : ((n : Int) == 0) = false := by rw [beq_eq_false_iff_ne]; omega
  have hp : 0 < n := by omega
  have hkl := kOf_le h
  unfold maxLen at hm
  by_cases hs : h.toNat < 128
  · have hx := head_neg h hs
    by_cases hk8 : 8 < Wr.kOf h
    · rw [if_pos hk8]
      clear hr hn
      go_enter Try.func45, Try.ntmps45
      go_wp2
      go_ret3
      exact ⟨rfl, rfl⟩
    · rw [if_neg hk8]
      have hl : n ≤ Wr.kOf h := by omega
      clear hr hn
      go_enter Try.func45, Try.ntmps45
      go_wp2
      go_ret3
      exact ⟨rfl, rfl⟩
  · have hx := head_pos h hs
    by_cases hk8 : 8 < Wr.kOf h
    · rw [if_pos hk8]
      clear hr hn
      go_enter Try.func45, Try.ntmps45
      go_wp2
      go_ret3
      exact ⟨rfl, rfl⟩
    · rw [if_neg hk8]
      have hl : n ≤ Wr.kOf h := by omega
      clear hr hn
      go_enter Try.func45, Try.ntmps45
      go_wp2
      go_ret3
      exact ⟨rfl, rfl⟩

set_option maxHeartbeats 400000 in
set_option maxRecDepth 100000 in
theorem getInt_loop_neg (ad : Addr) (n c : Nat) (h : UInt8) (t : List UInt8) (w : World) (hr : Reads w w.heap.size 1 (some ad) n (BV (h :: t))) (hm : n ≤ maxLen) (hnc : n ≤ c) (hk8 : Wr.kOf h ≤ 8) (hl : Wr.kOf h ≤ t.length) (hk0 : 0 < Wr.kOf h) (hs : h.toNat < 128) :
    Calls Try.prog 45 #[.slice (some ad) n c] w fun e w' => e = .returned (.tuple #[.int .i64 (Wr.decI (h :: t)).1, .int .i64 (Wr.decI (h :: t)).2.1, .int .i64 (Wr.decI (h :: t)).2.2]) ∧ w = w' := by
  have hn : n = t.length + 1 := by have := hr.1; simp [BV] at this; omega
  have hc : w.cell? ad = some (.int .u8 (h.toNat : Int)) := reads_cell hr 0 (by simp)
  have h0 : ((n : Int) == 0) = false := by rw [beq_eq_false_iff_ne]; omega
  have hp : 0 < n := by omega
  have hkl := kOf_le h
  have hc1 : ¬ c = 1 := by omega
  obtain ⟨hfl, hlt128⟩ := flip_neg h hs
  have DB := hide (dec_bad h t hk8 hl)
  have DG := hide (dec_good h t hk8 hl)
  have ht0 : 0 < t.length := by omega
  have HG := hide (head_get t 255 ht0)
  rw [hfl] at DB DG
  rw [if_pos hlt128] at DG
  clear hfl hlt128
  unfold maxLen at hm
  have hx := head_neg h hs
  have hl1 : Wr.kOf h + 1 ≤ n := by omega
  have HR := hide hr
  have HN := hide hn
  clear hr hn
  have hv8 := vk_lt8 255 t (Wr.kOf h) hk8
  generalize hkk : Wr.kOf h = k at *
  have HK := hide hkk
  clear hkk
  have hsub : (128 : Int) + (k : Int) - 128 = k := by omega
  go_enter Try.func45, Try.ntmps45
  go_wp2
  go_loop [7, 37] (fun m i => ∃ j : Nat, j ≤ k ∧ i = .int .i64 j ∧ m = .int .u64 (vk 255 t j)) (fun _ i => k - (intOf i).toNat)
  case atStart => exact ⟨0, Nat.zero_le _, rfl, rfl⟩
  case round =>
    obtain ⟨j, hj, rfl, rfl⟩ := hrel
    by_cases hlt : j < k
    · have hcell := reads_far HR.out j (by simp; omega)
      simp only [List.getElem_cons_succ] at hcell
      have hb := (t[j]).toNat_lt
      have hb' := (t[j] ^^^ 255).toNat_lt
      have hxx := xor_byte t[j] 255
      rw [show ((255 : UInt8).toNat : Int) = 255 from rfl] at hxx
      have HV := hide (vk_succ 255 t j (by omega))
      have hv7 := vk_lt7 255 t j (by omega)
      generalize hbb : (t[j]).toNat = b at *
      generalize hcc : (t[j] ^^^ 255).toNat = b' at *
      clear hbb hcc
      go_wp2
      go_round
      case rel => exact ⟨j + 1, by omega, by go_num, by rw [HV.out, or_step _ _ hv7 hb']⟩
      case measure => simp [intOf]; omega
    · obtain rfl : j = k := by omega
      have hcell := reads_far HR.out 0 (by simp; omega)
      simp only [List.getElem_cons_succ, Nat.add_zero] at hcell
      have hb := (t[0]).toNat_lt
      generalize hbb : (t[0]).toNat = b at *
      clear hbb
      generalize hvv : vk 255 t j = m at *
      clear hvv
      have ht : (255 : UInt8).toNat = 255 := rfl
      rw [ht] at HG
      clear ht
      by_cases hB : b = 255
      · have hB' : ((b : Int) == 255) = true := by rw [beq_iff_eq]; omega
        have HF := hide (DB.out (.inl ⟨hk0, HG.out.2 hB⟩))
        clear hB
        go_wp2
        go_ret3
        rw [HF.out]
        exact ⟨rfl, rfl⟩
      · have hB' : ((b : Int) == 255) = false := by rw [beq_eq_false_iff_ne]; omega
        by_cases hM : 9223372036854775807 < m
        · have HF := hide (DB.out (.inr hM))
          clear hB
          go_wp2
          go_ret3
          rw [HF.out]
          exact ⟨rfl, rfl⟩
        · have HF := hide (DG.out (fun x => x.elim (fun y => hB (HG.out.1 y.2)) hM))
          clear hB
          go_wp2
          go_ret3
          rw [HF.out]
          exact ⟨by simp, rfl⟩

set_option maxHeartbeats 400000 in
set_option maxRecDepth 100000 in
theorem getInt_loop_pos (ad : Addr) (n c : Nat) (h : UInt8) (t : List UInt8) (w : World) (hr : Reads w w.heap.size 1 (some ad) n (BV (h :: t))) (hm : n ≤ maxLen) (hnc : n ≤ c) (hk8 : Wr.kOf h ≤ 8) (hl : Wr.kOf h ≤ t.length) (hk0 : 0 < Wr.kOf h) (hs : ¬ h.toNat < 128) :
    Calls Try.prog 45 #[.slice (some ad) n c] w fun e w' => e = .returned (.tuple #[.int .i64 (Wr.decI (h :: t)).1, .int .i64 (Wr.decI (h :: t)).2.1, .int .i64 (Wr.decI (h :: t)).2.2]) ∧ w = w' := by
  have hn : n = t.length + 1 := by have := hr.1; simp [BV] at this; omega
  have hc : w.cell? ad = some (.int .u8 (h.toNat : Int)) := reads_cell hr 0 (by simp)
  have h0 : ((n : Int) == 0) = false := by rw [beq_eq_false_iff_ne]; omega
  have hp : 0 < n := by omega
  have hkl := kOf_le h
  have hc1 : ¬ c = 1 := by omega
  obtain ⟨hfl, hlt128⟩ := flip_pos h hs
  have DB := hide (dec_bad h t hk8 hl)
  have DG := hide (dec_good h t hk8 hl)
  have ht0 : 0 < t.length := by omega
  have HG := hide (head_get t 0 ht0)
  rw [hfl] at DB DG
  rw [if_neg hlt128] at DG
  clear hfl hlt128
  unfold maxLen at hm
  have hx := head_pos h hs
  have hl1 : Wr.kOf h + 1 ≤ n := by omega
  have HR := hide hr
  have HN := hide hn
  clear hr hn
  have hv8 := vk_lt8 0 t (Wr.kOf h) hk8
  generalize hkk : Wr.kOf h = k at *
  have HK := hide hkk
  clear hkk
  have hsub : (128 : Int) + (k : Int) - 128 = k := by omega
  go_enter Try.func45, Try.ntmps45
  go_wp2
  go_loop [7, 37] (fun m i => ∃ j : Nat, j ≤ k ∧ i = .int .i64 j ∧ m = .int .u64 (vk 0 t j)) (fun _ i => k - (intOf i).toNat)
  case atStart => exact ⟨0, Nat.zero_le _, rfl, rfl⟩
  case round =>
    obtain ⟨j, hj, rfl, rfl⟩ := hrel
    by_cases hlt : j < k
    · have hcell := reads_far HR.out j (by simp; omega)
      simp only [List.getElem_cons_succ] at hcell
      have hb := (t[j]).toNat_lt
      have hb' := (t[j] ^^^ 0).toNat_lt
      have hxx := xor_byte t[j] 0
      rw [show ((0 : UInt8).toNat : Int) = 0 from rfl] at hxx
      have HV := hide (vk_succ 0 t j (by omega))
      have hv7 := vk_lt7 0 t j (by omega)
      generalize hbb : (t[j]).toNat = b at *
      generalize hcc : (t[j] ^^^ 0).toNat = b' at *
      clear hbb hcc
      go_wp2
      go_round
      case rel => exact ⟨j + 1, by omega, by go_num, by rw [HV.out, or_step _ _ hv7 hb']⟩
      case measure => simp [intOf]; omega
    · obtain rfl : j = k := by omega
      have hcell := reads_far HR.out 0 (by simp; omega)
      simp only [List.getElem_cons_succ, Nat.add_zero] at hcell
      have hb := (t[0]).toNat_lt
      generalize hbb : (t[0]).toNat = b at *
      clear hbb
      generalize hvv : vk 0 t j = m at *
      clear hvv
      have ht : (0 : UInt8).toNat = 0 := rfl
      rw [ht] at HG
      clear ht
      by_cases hB : b = 0
      · have hB' : ((b : Int) == 0) = true := by rw [beq_iff_eq]; omega
        have HF := hide (DB.out (.inl ⟨hk0, HG.out.2 hB⟩))
        clear hB
        go_wp2
        go_ret3
        rw [HF.out]
        exact ⟨rfl, rfl⟩
      · have hB' : ((b : Int) == 0) = false := by rw [beq_eq_false_iff_ne]; omega
        by_cases hM : 9223372036854775807 < m
        · have HF := hide (DB.out (.inr hM))
          clear hB
          go_wp2
          go_ret3
          rw [HF.out]
          exact ⟨rfl, rfl⟩
        · have HF := hide (DG.out (fun x => x.elim (fun y => hB (HG.out.1 y.2)) hM))
          clear hB
          go_wp2
          go_ret3
          rw [HF.out]
          exact ⟨by simp, rfl⟩

set_option maxHeartbeats 400000 in
set_option maxRecDepth 100000 in
theorem getInt_zero_neg_one (ad : Addr) (n c : Nat) (h : UInt8) (t : List UInt8) (w : World) (hr : Reads w w.heap.size 1 (some ad) n (BV (h :: t))) (hm : n ≤ maxLen) (hnc : n ≤ c) (hk0 : Wr.kOf h = 0) (hs : h.toNat < 128) (hc1 : c = 1) :
    Calls Try.prog 45 #[.slice (some ad) n c] w fun e w' => e = .returned (.tuple #[.int .i64 (-1), .int .i64 1, .int .i64 0]) ∧ w = w' := by
  have hn : n = t.length + 1 := by have := hr.1; simp [BV] at this; omega
  have hc : w.cell? ad = some (.int .u8 (h.toNat : Int)) := reads_cell hr 0 (by simp)
  have h0 : ((n : Int) == 0) = false := by rw [beq_eq_false_iff_ne]; omega
  have hp : 1 ≤ n := by omega
  unfold maxLen at hm
  have hx := head_neg h hs
  rw [hk0] at hx
  clear hr hn hk0
  go_enter Try.func45, Try.ntmps45
  go_wp2
  refine wp_loop_rounds 1 ?_
  rw [rounds_succ]
  go_wp2
  go_ret3
  exact ⟨rfl, rfl⟩

set_option maxHeartbeats 400000 in
set_option maxRecDepth 100000 in
theorem getInt_zero_neg_more (ad : Addr) (n c : Nat) (h : UInt8) (t : List UInt8) (w : World) (hr : Reads w w.heap.size 1 (some ad) n (BV (h :: t))) (hm : n ≤ maxLen) (hnc : n ≤ c) (hk0 : Wr.kOf h = 0) (hs : h.toNat < 128) (hc1 : ¬ c = 1) :
    Calls Try.prog 45 #[.slice (some ad) n c] w fun e w' => e = .returned (.tuple #[.int .i64 (-1), .int .i64 1, .int .i64 0]) ∧ w = w' := by
  have hn : n = t.length + 1 := by have := hr.1; simp [BV] at this; omega
  have hc : w.cell? ad = some (.int .u8 (h.toNat : Int)) := reads_cell hr 0 (by simp)
  have h0 : ((n : Int) == 0) = false := by rw [beq_eq_false_iff_ne]; omega
  have hp : 1 ≤ n := by omega
  unfold maxLen at hm
  have hx := head_neg h hs
  rw [hk0] at hx
  clear hr hn hk0
  go_enter Try.func45, Try.ntmps45
  go_wp2
  refine wp_loop_rounds 1 ?_
  rw [rounds_succ]
  go_wp2
  go_ret3
  exact ⟨rfl, rfl⟩

set_option maxHeartbeats 400000 in
set_option maxRecDepth 100000 in
theorem getInt_zero_pos_one (ad : Addr) (n c : Nat) (h : UInt8) (t : List UInt8) (w : World) (hr : Reads w w.heap.size 1 (some ad) n (BV (h :: t))) (hm : n ≤ maxLen) (hnc : n ≤ c) (hk0 : Wr.kOf h = 0) (hs : ¬ h.toNat < 128) (hc1 : c = 1) :
    Calls Try.prog 45 #[.slice (some ad) n c] w fun e w' => e = .returned (.tuple #[.int .i64 0, .int .i64 1, .int .i64 0]) ∧ w = w' := by
  have hn : n = t.length + 1 := by have := hr.1; simp [BV] at this; omega
  have hc : w.cell? ad = some (.int .u8 (h.toNat : Int)) := reads_cell hr 0 (by simp)
  have h0 : ((n : Int) == 0) = false := by rw [beq_eq_false_iff_ne]; omega
  have hp : 1 ≤ n := by omega
  unfold maxLen at hm
  have hx := head_pos h hs
  rw [hk0] at hx
  clear hr hn hk0
  go_enter Try.func45, Try.ntmps45
  go_wp2
  refine wp_loop_rounds 1 ?_
  rw [rounds_succ]
  go_wp2
  go_ret3
  exact ⟨rfl, rfl⟩

set_option maxHeartbeats 400000 in
set_option maxRecDepth 100000 in
theorem getInt_zero_pos_more (ad : Addr) (n c : Nat) (h : UInt8) (t : List UInt8) (w : World) (hr : Reads w w.heap.size 1 (some ad) n (BV (h :: t))) (hm : n ≤ maxLen) (hnc : n ≤ c) (hk0 : Wr.kOf h = 0) (hs : ¬ h.toNat < 128) (hc1 : ¬ c = 1) :
    Calls Try.prog 45 #[.slice (some ad) n c] w fun e w' => e = .returned (.tuple #[.int .i64 0, .int .i64 1, .int .i64 0]) ∧ w = w' := by
  have hn : n = t.length + 1 := by have := hr.1; simp [BV] at this; omega
  have hc : w.cell? ad = some (.int .u8 (h.toNat : Int)) := reads_cell hr 0 (by simp)
  have h0 : ((n : Int) == 0) = false := by rw [beq_eq_false_iff_ne]; omega
  have hp : 1 ≤ n := by omega
  unfold maxLen at hm
  have hx := head_pos h hs
  rw [hk0] at hx
  clear hr hn hk0
  go_enter Try.func45, Try.ntmps45
  go_wp2
  refine wp_loop_rounds 1 ?_
  rw [rounds_succ]
  go_wp2
  go_ret3
  exact ⟨rfl, rfl⟩

/-- GetInt, for every slice of bytes -/
theorem getInt_any (A : Option Addr) (n c : Nat) (l : List UInt8) (w : World) (hr : Reads w w.heap.size 1 A n (BV l)) (hm : n ≤ maxLen) (hnc : n ≤ c) :
    Calls Try.prog 45 #[.slice A n c] w fun e w' => e = .returned (.tuple #[.int .i64 (Wr.decI l).1, .int .i64 (Wr.decI l).2.1, .int .i64 (Wr.decI l).2.2]) ∧ w = w' := by
  have hn : n = l.length := by have := hr.1; simp [BV] at this; omega
  cases l with
  | nil =>
    simp at hn
    subst hn
    exact getInt_nil A c w
  | cons h t =>
    have hn' : n = t.length + 1 := hn
    obtain ⟨ad, rfl, _, _⟩ := hr.2 (by omega)
    by_cases hk : 8 < Wr.kOf h ∨ t.length < Wr.kOf h
    · refine (getInt_early ad n c h t w hr hm hk).mono fun e w' he => ?_
      obtain ⟨rfl, rfl⟩ := he
      refine ⟨?_, rfl⟩
      rw [Wr.decI_cons]
      by_cases h8 : 8 < Wr.kOf h
      · rw [if_pos h8, if_pos h8]; rfl
      · rw [if_neg h8, if_neg h8, if_pos (by omega)]; rfl
    · have h8 : Wr.kOf h ≤ 8 := by omega
      have hl : Wr.kOf h ≤ t.length := by omega
      by_cases hk0 : 0 < Wr.kOf h
      · by_cases hs : h.toNat < 128
        · exact getInt_loop_neg ad n c h t w hr hm hnc h8 hl hk0 hs
        · exact getInt_loop_pos ad n c h t w hr hm hnc h8 hl hk0 hs
      · have hk0 : Wr.kOf h = 0 := by omega
        have hd : ∀ f, vk f t 0 = 0 := fun f => rfl
        by_cases hs : h.toNat < 128
        · have hdec : Wr.decI (h :: t) = (-1, 1, 0) := by
            rw [dec_full h t h8 hl, hk0, hd, if_neg (by simp), if_pos (flip_neg h hs).2]; rfl
          rw [hdec]
          by_cases hc1 : c = 1
          · exact getInt_zero_neg_one ad n c h t w hr hm hnc hk0 hs hc1
          · exact getInt_zero_neg_more ad n c h t w hr hm hnc hk0 hs hc1
        · have hdec : Wr.decI (h :: t) = (0, 1, 0) := by
            rw [dec_full h t h8 hl, hk0, hd, if_neg (by simp), if_neg (flip_pos h hs).2]; rfl
          rw [hdec]
          by_cases hc1 : c = 1
          · exact getInt_zero_pos_one ad n c h t w hr hm hnc hk0 hs hc1
          · exact getInt_zero_pos_more ad n c h t w hr hm hnc hk0 hs hc1

end Go.Proofs.Ytdjmfjmijpfijaa
