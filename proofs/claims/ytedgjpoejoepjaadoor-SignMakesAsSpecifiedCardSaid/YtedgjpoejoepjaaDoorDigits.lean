/-
  Digits, by contract.
-/
import Derived.Test.YtedgjpoejoepjaaDoorSmall
namespace Go.Proofs.YtedgjpoejoepjaaDoor
open Go.RowKit
set_option linter.unusedVariables false
set_option linter.unusedSimpArgs false

/-- integers as cells -/
def IV (l : List Int) : List Value := l.map (Value.int .i64)
theorem IV_len (l : List Int) : (IV l).length = l.length := by simp [IV]
theorem IV_get (l : List Int) (i : Nat) (x : Int) (h : l[i]? = some x) : (IV l).toArray[i]? = some (.int .i64 x) := by simp [IV, h]
theorem zeros68 : Tryd.zeroCells43 = (IV (List.replicate 68 0)).toArray := by kernel_rfl
namespace Sg
/-- the array while its first digits are laid -/
def laid (d : List UInt8) (i : Nat) : List Int := (List.range 68).map fun j => if j < i then (dig d j : Int) else 0
theorem laid_len (d : List UInt8) (i : Nat) : (laid d i).length = 68 := by simp [laid]
theorem laid_get (d : List UInt8) (i j : Nat) (h : j < 68) : (laid d i)[j]? = some (if j < i then (dig d j : Int) else 0) := by simp [laid, h]
theorem laid_zero (d : List UInt8) : laid d 0 = List.replicate 68 0 := by
  apply List.ext_getElem?
  intro j
  by_cases h : j < 68
  · rw [laid_get d 0 j h, List.getElem?_replicate, if_pos h, if_neg (by omega)]
  · rw [List.getElem?_eq_none (by rw [laid_len]; omega), List.getElem?_eq_none (by simp; omega)]
theorem laid_set (d : List UInt8) (i : Nat) (h : i < 68) : (laid d i).set i (dig d i : Int) = laid d (i + 1) := by
  apply List.ext_getElem?
  intro j
  rw [List.getElem?_set]
  by_cases hj : j < 68
  · rw [laid_get d i j hj, laid_get d (i + 1) j hj]
    by_cases e : i = j
    · subst e
      rw [if_pos rfl, if_pos (by rw [laid_len]; exact h), if_pos (by omega)]
    · rw [if_neg e]
      by_cases h2 : j < i
      · rw [if_pos h2, if_pos (by omega)]
      · rw [if_neg h2, if_neg (by omega)]
  · rw [List.getElem?_eq_none (by rw [laid_len]; omega : (laid d (i + 1)).length ≤ j), if_neg (by omega), List.getElem?_eq_none (by rw [laid_len]; omega)]
theorem laid_all (d : List UInt8) : laid d 68 = digits d := by
  unfold laid digits
  apply List.map_congr_left
  intro j hj
  rw [if_pos (by simpa using hj)]
end Sg

theorem digit_shr (x : UInt8) (k : Nat) (hk : k ≤ 3) : (wrap64 ((x.toNat : Int) / 2 ^ (2 * k))).tmod 4 = ((x.toNat / 4 ^ k % 4 : Nat) : Int) := by
  have H : ∀ k : Fin 4, ∀ x : Fin 256, (wrap64 (((x.val : Nat) : Int) / 2 ^ (2 * k.val))).tmod 4 = ((x.val / 4 ^ k.val % 4 : Nat) : Int) := by decide +kernel
  exact H ⟨k, by omega⟩ ⟨x.toNat, x.toNat_lt⟩
theorem IV_set (l : List Int) (i : Nat) (x : Int) : (IV l).set i (.int .i64 x) = IV (l.set i x) := by simp [IV, List.map_set]
namespace Sg
/-- the array while the digits of its checksum are laid, the last one first -/
def laid2 (d : List UInt8) (k : Nat) : List Int := (List.range 68).map fun j => if j < 64 ∨ 67 < j + k then (dig d j : Int) else 0
theorem laid2_len (d : List UInt8) (i : Nat) : (laid2 d i).length = 68 := by simp [laid2]
theorem laid2_get (d : List UInt8) (k j : Nat) (h : j < 68) : (laid2 d k)[j]? = some (if j < 64 ∨ 67 < j + k then (dig d j : Int) else 0) := by simp [laid2, h]
theorem laid2_zero (d : List UInt8) : laid d 64 = laid2 d 0 := by
  unfold laid laid2
  apply List.map_congr_left
  intro j hj
  have : j < 68 := by simpa using hj
  by_cases h : j < 64
  · rw [if_pos h, if_pos (.inl h)]
  · rw [if_neg h, if_neg (by omega)]
theorem laid2_set (d : List UInt8) (k : Nat) (h : k < 4) : (laid2 d k).set (67 - k) (dig d (67 - k) : Int) = laid2 d (k + 1) := by
  apply List.ext_getElem?
  intro j
  rw [List.getElem?_set]
  by_cases hj : j < 68
  · rw [laid2_get d k j hj, laid2_get d (k + 1) j hj]
    by_cases e : 67 - k = j
    · subst e
      rw [if_pos rfl, if_pos (by rw [laid2_len]; omega), if_pos (by omega)]
    · rw [if_neg e]
      by_cases h2 : j < 64 ∨ 67 < j + k
      · rw [if_pos h2, if_pos (by omega)]
      · rw [if_neg h2, if_neg (by omega)]
  · rw [List.getElem?_eq_none (by rw [laid2_len]; omega : (laid2 d (k + 1)).length ≤ j), if_neg (by omega), List.getElem?_eq_none (by rw [laid2_len]; omega)]
theorem laid2_all (d : List UInt8) : laid2 d 4 = digits d := by
  unfold laid2 digits
  apply List.map_congr_left
  intro j hj
  have : j < 68 := by simpa using hj
  rw [if_pos (by omega)]
end Sg

set_option maxHeartbeats 1000000 in
set_option maxRecDepth 100000 in
theorem digits_any (d : List UInt8) (w : World) (hd : d.length = 16) :
    Calls Tryd.prog 10 #[.agg (BV d).toArray] w fun e w' => e = .returned (.slice (some ⟨w.heap.size + 1, 0, none⟩) 68 68) ∧ Blk w' (w.heap.size + 1) 43 (IV (Sg.digits d)).toArray ∧ Below w.heap.size w w' := by
  have HD := hide hd
  clear hd
  go_enter Tryd.func10, Tryd.ntmps10
  go_upto_region 3 with fail
  refine name_world fun V hV => ?_
  have D1 := hide (show Dig V w.heap.size d by rw [← hV.out]; exact (Dig.new w d HD.out).alloc _)
  have C3 := hide (show Blk V (w.heap.size + 1) 43 (IV (Sg.laid d 0)).toArray by
    rw [← hV.out, Sg.laid_zero, ← zeros68]
    have := Blk.new (w.alloc (.cells (BV d).toArray 23)) 43 Tryd.zeroCells43
    rwa [show (w.alloc (.cells (BV d).toArray 23)).heap.size = w.heap.size + 1 by simp] at this)
  have HV := hide (show Below w.heap.size w V by rw [← hV.out]; exact ((Below.refl _ _).alloc (Nat.le_refl _) _).alloc (by simp) _)
  clear hV
  go_upto_region 4 with fail
  go_loopw [4, 11] (fun s4 s11 wr => ∃ i : Nat, i ≤ 64 ∧ s11 = .int .i64 (i : Int) ∧ s4 = .int .i64 ((Sg.lack d i : Nat) : Int) ∧ Blk wr (w.heap.size + 1) 43 (IV (Sg.laid d i)).toArray ∧ Dig wr w.heap.size d ∧ Below w.heap.size w wr) (fun _ s11 _ => 64 - (intOf s11).toNat)
  case atStart => exact ⟨0, by omega, rfl, rfl, C3.out, D1.out, HV.out⟩
  case round =>
    obtain ⟨i, hi, rfl, rfl, hC3, hD1, hbel⟩ := hrel
    by_cases hlt : i < 64
    · have hqd : i / 4 < d.length := by have := HD.out; omega
      have hcell : wr.cell? ⟨w.heap.size, i / 4, none⟩ = some (.int .u8 ((d[i / 4].toNat : Nat) : Int)) := by
        rw [hD1.2.cell, List.getElem?_toArray, BV_get d (i / 4) hqd]
      have hdq : d.getD (i / 4) 0 = d[i / 4] := by simp [List.getD, hqd]
      have hby := d[i / 4].toNat_lt
      generalize d[i / 4] = x at *
      have htest : (i : Int) < 64 := by omega
      have hi0 : (0 : Int) ≤ (i : Int) := by omega
      have k1 : (0 : Int) ≤ (i : Int) / 4 := by omega
      have k2 : (i : Int) / 4 < 16 := by omega
      have k3 : ((i : Int) / 4).toNat = i / 4 := by omega
      have hfr := hC3.frozen i
      have hlk := Sg.lack_le d i
      have hlk2 : Sg.lack d i ≤ 192 := by omega
      have hcz : wr.cell? ⟨w.heap.size + 1, i, none⟩ = some (.int .i64 0) := by
        rw [hC3.cell]; exact IV_get _ _ _ (by rw [Sg.laid_get d i i (by omega), if_neg (by omega)])
      have hdg : (wrap64 ((x.toNat : Int) / 2 ^ (2 * (3 - i % 4)))).tmod 4 = ((Sg.digit d i : Nat) : Int) := by
        rw [digit_shr x (3 - i % 4) (by omega)]
        unfold Sg.digit
        rw [hdq]
      have hdi : Sg.dig d i = Sg.digit d i := by unfold Sg.dig; rw [if_pos hlt]
      have hset := Sg.laid_set d i (by omega)
      have hls : Sg.lack d (i + 1) = Sg.lack d i + (3 - Sg.digit d i) := rfl
      have hgl := Sg.digit_le d i
      rw [hdi] at hset
      have HSET := hide hset
      have HLS := hide hls
      have HC3 := hide hC3
      have HD1 := hide hD1
      have HB := hide hbel
      generalize Sg.digit d i = g at *
      generalize Sg.lack d i = lk at *
      have hg0 : (0 : Int) ≤ (g : Int) := by omega
      have hg3 : (g : Int) ≤ 3 := by omega
      have hk0 : (0 : Int) ≤ (lk : Int) := by omega
      have hk1 : (lk : Int) ≤ 192 := by omega
      clear hset hls hC3 hD1 hbel hdi hdq hlk hlk2 hqd
      go_wp2
      refine ⟨⟨i + 1, by omega, by go_num, by rw [HLS.out]; congr 1; omega, ?_, ?_, ?_⟩, by simp [intOf]; omega⟩
      · have := HC3.out.set_ i (.int .i64 (g : Int))
        rwa [List.setIfInBounds_toArray, IV_set, HSET.out] at this
      · exact ⟨HD1.out.1, HD1.out.2.far (p := ⟨w.heap.size + 1, i, none⟩) (by show w.heap.size ≠ w.heap.size + 1; omega) _⟩
      · exact HB.out.setCell (p := ⟨w.heap.size + 1, i, none⟩) (by show w.heap.size ≤ w.heap.size + 1; omega) _
    · obtain rfl : i = 64 := by omega
      rw [Sg.laid2_zero] at hC3
      have hlk := Sg.lack_le d 64
      have hdig : ∀ k, k < 4 → Sg.dig d (67 - k) = Sg.lack d 64 / 4 ^ k % 4 := by
        intro k hk
        unfold Sg.dig
        rw [if_neg (by omega), show 67 - (67 - k) = k by omega]
      generalize Sg.lack d 64 = lk at *
      obtain ⟨wd, rfl⟩ : ∃ wd, wd = wr := ⟨wr, rfl⟩
      have HC := hide hC3
      have HDD := hide hD1
      have HB := hide hbel
      have HDG := hide hdig
      have HLK := hide hlk
      have hk1 : (lk : Int) ≤ 192 := by omega
      have hk0 : (0 : Int) ≤ (lk : Int) := by omega
      clear hC3 hD1 hbel hdig hlk
      go_upto_region 12 with fail
      go_loopw [4, 38] (fun s4 s38 wr => ∃ k : Nat, k ≤ 4 ∧ s38 = .int .i64 (k : Int) ∧ s4 = .int .i64 ((lk / 4 ^ k : Nat) : Int) ∧ Blk wr (w.heap.size + 1) 43 (IV (Sg.laid2 d k)).toArray ∧ Below w.heap.size w wr) (fun _ s38 _ => 4 - (intOf s38).toNat)
      case atStart => exact ⟨0, by omega, rfl, by simp, HC.out, HB.out⟩
      case round =>
        obtain ⟨k, hk, rfl, rfl, hC3, hbel⟩ := hrel
        by_cases hlt : k < 4
        · obtain h4 : k = 0 ∨ k = 1 ∨ k = 2 ∨ k = 3 := by omega
          rcases h4 with rfl | rfl | rfl | rfl
          · rw [show ((0 : Nat) : Int) = 0 from rfl]
            have hcz : wr.cell? ⟨w.heap.size + 1, 67, none⟩ = some (.int .i64 0) := by
              rw [hC3.cell]; exact IV_get _ _ _ (by rw [Sg.laid2_get d 0 67 (by omega), if_neg (by omega)])
            have hset : (Sg.laid2 d 0).set 67 ((lk / 4 ^ 0 % 4 : Nat) : Int) = Sg.laid2 d (0 + 1) := by rw [← HDG.out 0 (by omega)]; exact Sg.laid2_set d 0 (by omega)
            have hle : lk / 4 ^ 0 ≤ 192 := Nat.le_trans (Nat.div_le_self _ _) HLK.out
            have hdd : lk / 4 ^ 0 / 4 = lk / 4 ^ (0 + 1) := by rw [Nat.pow_succ, Nat.div_div_eq_div_mul]
            have hfr := hC3.frozen 67
            have HSET := hide hset
            have HDV := hide hdd
            have HC3 := hide hC3
            have HBe := hide hbel
            clear hset hdd hC3 hbel
            generalize lk / 4 ^ 0 = a at *
            have a0 : (0 : Int) ≤ (a : Int) := by omega
            have a1 : (a : Int) ≤ 192 := by omega
            go_wp2
            refine ⟨⟨1, by omega, rfl, by rw [← HDV.out]; go_num, ?_, HBe.out.setCell (p := ⟨w.heap.size + 1, 67, none⟩) (by show w.heap.size ≤ w.heap.size + 1; omega) _⟩, by decide⟩
            have := HC3.out.set_ 67 (.int .i64 ((a % 4 : Nat) : Int))
            rw [List.setIfInBounds_toArray, IV_set, HSET.out] at this
            exact this
          · rw [show ((1 : Nat) : Int) = 1 from rfl]
            have hcz : wr.cell? ⟨w.heap.size + 1, 66, none⟩ = some (.int .i64 0) := by
              rw [hC3.cell]; exact IV_get _ _ _ (by rw [Sg.laid2_get d 1 66 (by omega), if_neg (by omega)])
            have hset : (Sg.laid2 d 1).set 66 ((lk / 4 ^ 1 % 4 : Nat) : Int) = Sg.laid2 d (1 + 1) := by rw [← HDG.out 1 (by omega)]; exact Sg.laid2_set d 1 (by omega)
            have hle : lk / 4 ^ 1 ≤ 192 := Nat.le_trans (Nat.div_le_self _ _) HLK.out
            have hdd : lk / 4 ^ 1 / 4 = lk / 4 ^ (1 + 1) := by rw [Nat.pow_succ, Nat.div_div_eq_div_mul]
            have hfr := hC3.frozen 66
            have HSET := hide hset
            have HDV := hide hdd
            have HC3 := hide hC3
            have HBe := hide hbel
            clear hset hdd hC3 hbel
            generalize lk / 4 ^ 1 = a at *
            have a0 : (0 : Int) ≤ (a : Int) := by omega
            have a1 : (a : Int) ≤ 192 := by omega
            go_wp2
            refine ⟨⟨2, by omega, rfl, by rw [← HDV.out]; go_num, ?_, HBe.out.setCell (p := ⟨w.heap.size + 1, 66, none⟩) (by show w.heap.size ≤ w.heap.size + 1; omega) _⟩, by decide⟩
            have := HC3.out.set_ 66 (.int .i64 ((a % 4 : Nat) : Int))
            rw [List.setIfInBounds_toArray, IV_set, HSET.out] at this
            exact this
          · rw [show ((2 : Nat) : Int) = 2 from rfl]
            have hcz : wr.cell? ⟨w.heap.size + 1, 65, none⟩ = some (.int .i64 0) := by
              rw [hC3.cell]; exact IV_get _ _ _ (by rw [Sg.laid2_get d 2 65 (by omega), if_neg (by omega)])
            have hset : (Sg.laid2 d 2).set 65 ((lk / 4 ^ 2 % 4 : Nat) : Int) = Sg.laid2 d (2 + 1) := by rw [← HDG.out 2 (by omega)]; exact Sg.laid2_set d 2 (by omega)
            have hle : lk / 4 ^ 2 ≤ 192 := Nat.le_trans (Nat.div_le_self _ _) HLK.out
            have hdd : lk / 4 ^ 2 / 4 = lk / 4 ^ (2 + 1) := by rw [Nat.pow_succ, Nat.div_div_eq_div_mul]
            have hfr := hC3.frozen 65
            have HSET := hide hset
            have HDV := hide hdd
            have HC3 := hide hC3
            have HBe := hide hbel
            clear hset hdd hC3 hbel
            generalize lk / 4 ^ 2 = a at *
            have a0 : (0 : Int) ≤ (a : Int) := by omega
            have a1 : (a : Int) ≤ 192 := by omega
            go_wp2
            refine ⟨⟨3, by omega, rfl, by rw [← HDV.out]; go_num, ?_, HBe.out.setCell (p := ⟨w.heap.size + 1, 65, none⟩) (by show w.heap.size ≤ w.heap.size + 1; omega) _⟩, by decide⟩
            have := HC3.out.set_ 65 (.int .i64 ((a % 4 : Nat) : Int))
            rw [List.setIfInBounds_toArray, IV_set, HSET.out] at this
            exact this
          · rw [show ((3 : Nat) : Int) = 3 from rfl]
            have hcz : wr.cell? ⟨w.heap.size + 1, 64, none⟩ = some (.int .i64 0) := by
              rw [hC3.cell]; exact IV_get _ _ _ (by rw [Sg.laid2_get d 3 64 (by omega), if_neg (by omega)])
            have hset : (Sg.laid2 d 3).set 64 ((lk / 4 ^ 3 % 4 : Nat) : Int) = Sg.laid2 d (3 + 1) := by rw [← HDG.out 3 (by omega)]; exact Sg.laid2_set d 3 (by omega)
            have hle : lk / 4 ^ 3 ≤ 192 := Nat.le_trans (Nat.div_le_self _ _) HLK.out
            have hdd : lk / 4 ^ 3 / 4 = lk / 4 ^ (3 + 1) := by rw [Nat.pow_succ, Nat.div_div_eq_div_mul]
            have hfr := hC3.frozen 64
            have HSET := hide hset
            have HDV := hide hdd
            have HC3 := hide hC3
            have HBe := hide hbel
            clear hset hdd hC3 hbel
            generalize lk / 4 ^ 3 = a at *
            have a0 : (0 : Int) ≤ (a : Int) := by omega
            have a1 : (a : Int) ≤ 192 := by omega
            go_wp2
            refine ⟨⟨4, by omega, rfl, by rw [← HDV.out]; go_num, ?_, HBe.out.setCell (p := ⟨w.heap.size + 1, 64, none⟩) (by show w.heap.size ≤ w.heap.size + 1; omega) _⟩, by decide⟩
            have := HC3.out.set_ 64 (.int .i64 ((a % 4 : Nat) : Int))
            rw [List.setIfInBounds_toArray, IV_set, HSET.out] at this
            exact this
        · obtain rfl : k = 4 := by omega
          rw [Sg.laid2_all] at hC3
          have HC3 := hide hC3
          have HBe := hide hbel
          clear hC3 hbel
          go_wp2
          go_ret
          exact ⟨rfl, HC3.out, HBe.out⟩
end Go.Proofs.YtedgjpoejoepjaaDoor
