/-
  Tables: Around, Same, and small functions of the reference; a text made of a string; by contract.
-/
import Derived.Test.YtbcfndhnopmbbaaTabS
import Derived.Test.YtbcfndhnopmbbaaSpecR
namespace Go.Proofs.Ytbcfndhnopmbbaa
open Go.RowKit
set_option linter.unusedVariables false
set_option linter.unusedSimpArgs false
namespace Ce
def around (x : Int) (m : Nat) : Nat := (if x < 0 then -(x + 1) else x).toNat % m
theorem around_lt (x : Int) (m : Nat) (h : 0 < m) : around x m < m := Nat.mod_lt _ h
end Ce
set_option maxHeartbeats 400000 in
set_option maxRecDepth 100000 in
theorem around_any (x : Int) (m : Nat) (w : World) (hx : Wr.inI x) (hm : 0 < m) (hm2 : m ≤ 1099511627776) :
    Calls Try.prog 30 #[.int .i64 x, .int .i64 (m : Int)] w fun e w' => e = .returned (.int .i64 ((Ce.around x m : Nat) : Int)) ∧ w = w' := by
  unfold Wr.inI at hx
  have h1 : ¬ ((m : Int) < 1) := by omega
  have hm0 : (0 : Int) ≤ (m : Int) := by omega
  have hmn : ¬ ((m : Int) = 0) := by omega
  by_cases hneg : x < 0
  · have hw1 : wrap64 (x + 1) = x + 1 := by unfold wrap64; omega
    have hw2 : wrap64 (-(x + 1)) = -(x + 1) := by unfold wrap64; omega
    have hp : (0 : Int) ≤ -(x + 1) := by omega
    have HF := hide (show ((Ce.around x m : Nat) : Int) = (-(x + 1)) % (m : Int) by
      unfold Ce.around
      rw [if_pos hneg, Int.natCast_emod]
      congr 1
      omega)
    have hx9 : -9223372036854775808 ≤ x := hx.1
    clear hx
    go_enter Try.func30, Try.ntmps30
    go_wp2
    go_ret
    exact ⟨by rw [HF.out]; show Ending.returned (Value.int IntKind.i64 (-((x + 1).tmod (m : Int)))) = _; rw [← Int.neg_tmod, Int.tmod_eq_emod_of_nonneg hp], rfl⟩
  · have hp : (0 : Int) ≤ x := by omega
    have HF := hide (show ((Ce.around x m : Nat) : Int) = x % (m : Int) by
      unfold Ce.around
      rw [if_neg hneg, Int.natCast_emod]
      congr 1
      omega)
    clear hx
    go_enter Try.func30, Try.ntmps30
    go_wp2
    go_ret
    exact ⟨by rw [HF.out]; first | rfl | simp, rfl⟩
theorem reads_byte {w : World} {B n : Nat} {A : Option Addr} {l : List UInt8} (hr : Reads w B 1 A n (BV l)) (k : Nat) (hk : k < n) : ∃ ad, A = some ad ∧ ad.block < B ∧ ∃ hx : k < l.length, w.cell? (ad.add k) = some (.int .u8 ((l[k].toNat : Nat) : Int)) := by
  obtain ⟨ad, u, rfl, hb, hu, hc⟩ := hr.at_ hk
  have hl : k < l.length := by have := hr.1; rw [BV_len] at this; omega
  rw [BV_get l k hl] at hu
  exact ⟨ad, rfl, hb, hl, by rw [hc, ← hu]⟩
set_option maxHeartbeats 1000000 in
set_option maxRecDepth 100000 in
theorem same_any (A B : Option Addr) (c d : Nat) (a b : List UInt8) (w : World) (ha : Reads w w.heap.size 1 A a.length (BV a)) (hb : Reads w w.heap.size 1 B b.length (BV b)) (hm : a.length ≤ 1048576) :
    Calls Try.prog 52 #[.slice A a.length c, .slice B b.length d] w fun e w' => e = .returned (.bool (decide (a = b))) ∧ ∃ q, w' = w.drewN q := by
  by_cases hl : a.length = b.length
  · obtain ⟨n, hn⟩ : ∃ n, n = a.length := ⟨_, rfl⟩
    have HA := hide ha
    have HB := hide hb
    have HLA := hide hn
    have HLB := hide (show n = b.length by omega)
    rw [← hl]
    rw [← hl] at HB
    rw [← hn] at HA HB hm ⊢
    have hni : (n : Int) ≤ 1048576 := by omega
    have hne : ((n : Int) != (n : Int)) = false := by simp
    generalize hr : decide (a = b) = res at *
    have HR := hide hr
    clear ha hb hl hn hr
    go_enter Try.func52, Try.ntmps52
    go_wp2
    go_loopw [5] (fun i wr => ∃ k q : Nat, k ≤ n ∧ i = .int .i64 (k : Int) ∧ Hid (a.take k = b.take k) ∧ wr = w.drewN q) (fun i _ => n - (intOf i).toNat)
    case atStart => exact ⟨0, 0, Nat.zero_le _, rfl, by simp [Hid], rfl⟩
    case round =>
      obtain ⟨k, q, hk, rfl, HT, rfl⟩ := hrel
      by_cases hlt : k < n
      · obtain ⟨ad, hA, _, hkl, hca⟩ := reads_byte HA.out k hlt
        obtain ⟨bd, hB, _, hkm, hcb⟩ := reads_byte HB.out k hlt
        subst hA hB
        have hk0 : (0 : Int) ≤ (k : Int) := by omega
        have hk1 : (k : Int) < (n : Int) := by omega
        have E := hide (u8_ne a[k] b[k])
        have HTK := hide (show a[k] = b[k] → a.take (k + 1) = b.take (k + 1) from fun h => by rw [List.take_succ_eq_append_getElem hkl, List.take_succ_eq_append_getElem hkm, HT.out, h])
        have HBAD := hide (show a[k] ≠ b[k] → res = false from fun h => by
          rw [← HR.out]
          refine decide_eq_false fun h2 => h ?_
          subst h2
          rfl)
        have HLT := hide hlt
        generalize a[k] = x at *
        generalize b[k] = y at *
        clear hlt hkl hkm
        by_cases hxy : x = y
        · have E' := E.out
          rw [decide_eq_true hxy] at E'
          have HT2 := hide (HTK.out hxy)
          clear E HTK HBAD HT hxy
          generalize (x.toNat : Int) = xi at *
          generalize (y.toNat : Int) = yi at *
          go_wp2
          go_quiet (fail)
          go_wp2
          go_roundw
          case rel => exact ⟨k + 1, _, HLT.out, by go_num, HT2, rfl⟩
          case measure => have := HLT.out; simp [intOf]; omega
        · have E' := E.out
          rw [decide_eq_false hxy] at E'
          have HF := hide (HBAD.out hxy)
          clear E HTK HBAD HT hxy
          generalize (x.toNat : Int) = xi at *
          generalize (y.toNat : Int) = yi at *
          go_wp2
          go_quiet (fail)
          go_wp2
          go_ret
          exact ⟨by rw [HF.out]; rfl, _, by rw [World.drewN_drewN]⟩
      · obtain rfl : k = n := by omega
        have HF := hide (show res = true by
          rw [← HR.out]
          have h := HT.out
          rw [List.take_of_length_le (by have := HLA.out; omega), List.take_of_length_le (by have := HLB.out; omega)] at h
          exact decide_eq_true h)
        have hnt : ¬ ((k : Int) < (k : Int)) := by omega
        clear hlt HT HR
        go_wp2
        go_ret
        exact ⟨by rw [HF.out]; rfl, _, rfl⟩
  · have HF := hide (show decide (a = b) = false from decide_eq_false fun h => hl (by rw [h]))
    have hne : ((a.length : Int) != (b.length : Int)) = true := by rw [bne_iff_ne]; omega
    generalize decide (a = b) = res at *
    generalize a.length = n at *
    generalize b.length = m at *
    clear hl ha hb
    go_enter Try.func52, Try.ntmps52
    go_wp2
    go_ret
    exact ⟨by rw [HF.out]; rfl, 0, rfl⟩
end Go.Proofs.Ytbcfndhnopmbbaa
