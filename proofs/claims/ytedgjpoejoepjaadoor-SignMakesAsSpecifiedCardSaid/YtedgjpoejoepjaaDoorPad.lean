/-
  The padded message of the reference, by contract.
-/
import Derived.Test.YtedgjpoejoepjaaDoorTxt
import Derived.Test.YtedgjpoejoepjaaDoorSha
namespace Go.Proofs.YtedgjpoejoepjaaDoor
open Go.RowKit
set_option linter.unusedVariables false
set_option linter.unusedSimpArgs false

/-- the length of a slice -/
def lenV : Value → Nat
  | .slice _ n _ => n
  | _ => 0
/-- how many zeros a message of so many bytes wants -/
def zerosOf (n : Nat) : Nat := (119 - n % 64) % 64
theorem zeros_lt (n z : Nat) (h : z < zerosOf n) : (n + 1 + z) % 64 ≠ 56 := by unfold zerosOf at h; omega
theorem zeros_eq (n : Nat) : (n + 1 + zerosOf n) % 64 = 56 := by unfold zerosOf; omega
theorem zeros_le (n : Nat) : zerosOf n ≤ 63 := by unfold zerosOf; omega
def padZ (m : List UInt8) (z : Nat) : List UInt8 := m ++ 128 :: List.replicate z 0
theorem padZ_len (m : List UInt8) (z : Nat) : (padZ m z).length = m.length + 1 + z := by simp [padZ]; omega
theorem padZ_succ (m : List UInt8) (z : Nat) : padZ m (z + 1) = padZ m z ++ [0] := by simp [padZ, List.replicate_succ']
theorem pad_is (m : List UInt8) (h : 8 * m.length < 18446744073709551616) : Sha.pad m = padZ m (zerosOf m.length) ++ Sha.be8 (8 * m.length) := by
  unfold Sha.pad padZ zerosOf
  rw [Nat.mod_eq_of_lt (show 8 * m.length < 2 ^ 64 from h)]
theorem be8_take (n i : Nat) (h : i < 8) : (Sha.be8 n).take (i + 1) = (Sha.be8 n).take i ++ [UInt8.ofNat (n / 2 ^ (56 - 8 * i))] := by
  have hl : i < (Sha.be8 n).length := by simpa [Sha.be8] using h
  rw [List.take_succ_eq_append_getElem hl]
  simp [Sha.be8]
theorem be8_all (n : Nat) : (Sha.be8 n).take 8 = Sha.be8 n := List.take_of_length_le (by simp [Sha.be8])
theorem byte_shr (n i : Nat) : ((n : Int) / 2 ^ (56 - 8 * i)) % 256 = (((UInt8.ofNat (n / 2 ^ (56 - 8 * i))).toNat : Nat) : Int) := by
  have e : (n : Int) / 2 ^ (56 - 8 * i) = ((n / 2 ^ (56 - 8 * i) : Nat) : Int) := by
    rw [Int.natCast_ediv, Int.natCast_pow]; rfl
  rw [e, UInt8.toNat_ofNat']
  omega

set_option maxHeartbeats 1000000 in
set_option maxRecDepth 100000 in
theorem padded_any (A : Option Addr) (n c : Nat) (l : List UInt8) (w : World) (hr : Reads w w.heap.size 1 A n (BV l)) (hn : n ≤ 1099511627776) :
    Calls Tryd.prog 68 #[.slice A n c] w fun e w' => ∃ v, e = .returned v ∧ w'.ownsRow w.heap.size 5 1 v (Sha.pad l).length (BV (Sha.pad l)) ∧ Below w.heap.size w w' := by
  obtain ⟨i0, hi, hz0, hz1, hz2⟩ := info_parts byteInfo
  have HI := hide hi
  have HZ0 := hide hz0
  have HZ1 := hide hz1
  have HZ2 := hide hz2
  have hl : l.length = n := by have := hr.1; simp [BV] at this; omega
  have HP := hide (pad_is l (by omega))
  have HR := hide hr
  have HL := hide hl
  have HO0 := hide (own_empty w)
  clear hi hz0 hz1 hz2 hr hl
  go_enter Tryd.func68, Tryd.ntmps68
  go_wp2_with (first
    | (at_builtin; refine wpList_append_any _ rfl (.tmp 6) (.tmp 7) 51 rfl w.heap.size 5 i0 (.int .u8 0) 1 1 Tryd.underlying51 HI.out HZ0.out HZ1.out HZ2.out rfl (by omega) _ 0 [] rfl HO0.out w.heap.size A n c (BV l) rfl (HR.out.alloc (Nat.le_refl _) _) (BV_one l) (by unfold maxLen; omega) (by omega) (by simp) ?_; intro v1 w1 hown1 hgrow1 hat1; have HO1 := hide hown1; have HB1 := hide ((below_alloc w _).trans (below_grown hgrow1 HO0.out (by simp))); clear hown1 hgrow1 hat1)
    | (at_builtin; refine wpList_append_any _ rfl (.tmp 9) (.tmp 10) 51 rfl w.heap.size 5 i0 (.int .u8 0) 1 1 Tryd.underlying51 HI.out HZ0.out HZ1.out HZ2.out rfl (by omega) v1 (0 + n) ([] ++ BV l) rfl (HO1.out.alloc _) _ (some ⟨w1.heap.size, 0, none⟩) 1 1 [.int .u8 128] rfl (reads_new w1 _ _) (by simp [Value.oneCell']) (by unfold maxLen; omega) (by omega) (by have := HB1.out.size; simp; omega) ?_; intro v2 w2 hown2 hgrow2 hat2; have HO2 := hide hown2; have HB2 := hide ((HB1.out.alloc HB1.out.size _).trans (below_grown hgrow2 (HO1.out.alloc _) (by have := HB1.out.size; simp; omega))); clear hown2 hgrow2 hat2))
  have HZ := hide (show w2.ownsRow w.heap.size 5 1 v2 (n + 1 + 0) (BV (padZ l 0)) by
    have h := HO2.out
    rw [List.nil_append, Nat.zero_add] at h
    have e : BV (padZ l 0) = BV l ++ [.int .u8 128] := by unfold padZ; rw [BV_append]; rfl
    rw [e]
    exact h)
  have z63 := zeros_le n
  have HB := HB2
  clear HO0 HO1 HO2 HB1 HB2
  go_loopw [3] (fun v wr => ∃ z : Nat, z ≤ zerosOf n ∧ lenV v = n + 1 + z ∧ wr.ownsRow w.heap.size 5 1 v (n + 1 + z) (BV (padZ l z)) ∧ Below w.heap.size w wr) (fun v _ => n + 1 + zerosOf n - lenV v)
  case atStart =>
    refine ⟨0, Nat.zero_le _, ?_, HZ.out, HB.out⟩
    obtain ⟨A2, c2, rfl, _, _⟩ := own_slice HZ.out
    rfl
  case round =>
    obtain ⟨z, hz, hlv, hown, hb⟩ := hrel
    obtain ⟨A3, c3, rfl, hc3, _⟩ := own_slice hown
    have hws := hb.size
    by_cases hlt : z < zerosOf n
    · have hne := zeros_lt n z hlt
      generalize hL : n + 1 + z = L at *
      have ht1 : (((L : Nat) : Int).tmod 64 != 56) = true := by rw [bne_iff_ne, Int.tmod_eq_emod_of_nonneg (by omega)]; omega
      have ht2 : (((L : Nat) : Int) % 64 != 56) = true := by rw [bne_iff_ne]; omega
      have HO := hide hown
      have HB := hide hb
      have HPS := hide (padZ_succ l z)
      have HLL := hide hL
      have hL1 : L ≤ 1099511627776 + 64 := by omega
      clear hown hb hlv hL
      generalize padZ l z = X at *
      go_wp2_with (at_builtin; refine wpList_append_any _ rfl (.tmp 16) (.tmp 17) 51 rfl w.heap.size 5 i0 (.int .u8 0) 1 1 Tryd.underlying51 HI.out HZ0.out HZ1.out HZ2.out rfl (by omega) _ L (BV X) rfl (HO.out.alloc _) _ (some ⟨wr.heap.size, 0, none⟩) 1 1 [.int .u8 0] rfl (reads_new wr _ _) (by simp [Value.oneCell']) (by unfold maxLen; omega) (by omega) (by simp; omega) ?_; intro v3 w3 hown3 hgrow3 hat3; have HO3 := hide hown3; have HB3 := hide ((HB.out.alloc HB.out.size _).trans (below_grown hgrow3 (HO.out.alloc _) (by simp; omega))); clear hown3 hgrow3 hat3)
      have hfin : w3.ownsRow w.heap.size 5 1 v3 (n + 1 + (z + 1)) (BV (padZ l (z + 1))) := by
        rw [HPS.out, BV_append, show n + 1 + (z + 1) = L + 1 by have := HLL.out; omega]
        exact HO3.out
      obtain ⟨A5, c5, rfl, _, _⟩ := own_slice HO3.out
      have HF := hide hfin
      clear hfin
      refine ⟨⟨z + 1, by omega, ?_, HF.out, HB3.out⟩, ?_⟩
      · show L + 1 = n + 1 + (z + 1)
        have := HLL.out; omega
      · show n + 1 + zerosOf n - (L + 1) < n + 1 + zerosOf n - L
        have := HLL.out; omega
    · obtain rfl : z = zerosOf n := by omega
      have hne := zeros_eq n
      generalize hL : n + 1 + zerosOf n = L at *
      have ht1 : (((L : Nat) : Int).tmod 64 != 56) = false := by rw [bne_eq_false_iff_eq, Int.tmod_eq_emod_of_nonneg (by omega)]; omega
      have ht2 : (((L : Nat) : Int) % 64 != 56) = false := by rw [bne_eq_false_iff_eq]; omega
      have HO := hide hown
      have HB := hide hb
      have HLL := hide hL
      have HPE := hide (show Sha.pad l = padZ l (zerosOf n) ++ Sha.be8 (8 * n) by have := HP.out; rw [HL.out] at this; exact this)
      have hL1 : L ≤ 1099511627776 + 64 := by omega
      clear hown hb hlv hL
      generalize padZ l (zerosOf n) = P at *
      obtain ⟨wd, rfl⟩ : ∃ wd, wd = wr := ⟨wr, rfl⟩
      have HZZ := hide (show wd.ownsRow w.heap.size 5 1 (.slice A3 L c3) (L + 0) (BV (P ++ (Sha.be8 (8 * n)).take 0)) by rw [List.take_zero, List.append_nil]; exact HO.out)
      have hn8 : 8 * (n : Int) ≤ 18446744073709551615 := by omega
      go_wp2_with fail
      rw [show (8 * (n : Int)) = ((8 * n : Nat) : Int) by omega]
      have hN : 8 * n ≤ 8796093022208 := by omega
      clear hn8
      generalize 8 * n = N at *
      go_loopw [3, 5] (fun v i wr => ∃ j : Nat, j ≤ 8 ∧ i = .int .i64 (j : Int) ∧ wr.ownsRow w.heap.size 5 1 v (L + j) (BV (P ++ (Sha.be8 N).take j)) ∧ Below w.heap.size w wr) (fun _ i _ => 8 - (intOf i).toNat)
      case atStart => exact ⟨0, Nat.zero_le _, rfl, HZZ.out, HB.out⟩
      case round =>
        obtain ⟨j, hj, rfl, hown, hb⟩ := hrel
        have hws := hb.size
        by_cases hlt : j < 8
        · obtain ⟨A4, c4, rfl, hc4, _⟩ := own_slice hown
          have hbs := byte_shr N j
          have htk := be8_take N j hlt
          have hby := (UInt8.ofNat (N / 2 ^ (56 - 8 * j))).toNat_lt
          generalize UInt8.ofNat (N / 2 ^ (56 - 8 * j)) = x at *
          have HO := hide hown
          have HB := hide hb
          have HTK := hide htk
          clear hown hb htk
          generalize hX : P ++ (Sha.be8 N).take j = X at *
          have HX := hide hX
          clear hX
          go_wp2_with (at_builtin; refine wpList_append_any _ rfl (.tmp 27) (.tmp 34) 51 rfl w.heap.size 5 i0 (.int .u8 0) 1 1 Tryd.underlying51 HI.out HZ0.out HZ1.out HZ2.out rfl (by omega) _ (L + j) (BV X) rfl (HO.out.alloc _) _ (some ⟨wr.heap.size, 0, none⟩) 1 1 [.int .u8 (x.toNat : Int)] rfl (reads_new wr _ _) (by simp [Value.oneCell']) (by unfold maxLen; omega) (by omega) (by simp; omega) ?_; intro v3 w3 hown3 hgrow3 hat3; have HO3 := hide hown3; have HB3 := hide ((HB.out.alloc HB.out.size _).trans (below_grown hgrow3 (HO.out.alloc _) (by simp; omega))); clear hown3 hgrow3 hat3)
          exact ⟨⟨j + 1, by omega, by go_num, by rw [HTK.out, ← List.append_assoc, HX.out, show L + (j + 1) = L + j + 1 by omega]; exact own_snoc HO3.out rfl, HB3.out⟩, by simp [intOf]; omega⟩
        · obtain rfl : j = 8 := by omega
          have HO := hide hown
          have HB := hide hb
          clear hown hb
          go_wp2
          go_ret
          refine ⟨_, rfl, ?_, HB.out⟩
          have h := HO.out
          rw [be8_all, ← HPE.out] at h
          have hlen : (Sha.pad l).length = L + 8 := by have := HO.out.1; rw [be8_all, ← HPE.out, BV_len] at this; omega
          rw [hlen]
          exact h
end Go.Proofs.YtedgjpoejoepjaaDoor
