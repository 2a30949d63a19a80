/-
  HashMacKeys and HashSumMatchesSpec, walked.
-/
import Derived.Test.YtlhbeaaomgadbaaDoorEqLaw
import Derived.Test.YtlhbeaaomgadbaaDoorRefSum
namespace Go.Proofs.YtlhbeaaomgadbaaDoor
open Go.RowKit
set_option linter.unusedVariables false
set_option linter.unusedSimpArgs false

namespace Sha
theorem mac_long (k t : List UInt8) (h : 64 < k.length) : mac (sum k) t = mac k t := by
  have h1 : keyOf (sum k) = sum k := by unfold keyOf; rw [if_neg (by rw [sum_len]; omega)]
  have h2 : keyOf k = sum k := by unfold keyOf; rw [if_pos h]
  unfold mac
  rw [h1, h2]
theorem mac_short (k t : List UInt8) (h : k.length < 64) : mac (k ++ [0]) t = mac k t := by
  have h1 : keyOf (k ++ [0]) = k ++ [0] := by unfold keyOf; rw [if_neg (by simp; omega)]
  have h2 : keyOf k = k := by unfold keyOf; rw [if_neg (by omega)]
  have h3 : pad64 (k ++ [0]) = pad64 k := by
    unfold pad64
    rw [List.length_append, List.append_assoc, show 64 - k.length = (64 - (k.length + [(0 : UInt8)].length)) + 1 by simp; omega, List.replicate_succ]
    rfl
  unfold mac masked
  rw [h1, h2, h3]
theorem mac_len (k t : List UInt8) : (mac k t).length = 32 := by unfold mac; rw [sum_len]
end Sha
theorem add_zero_byte (k : List UInt8) : S k ++ ({ data := #[0] } : ByteArray) = S (k ++ [0]) := by
  apply ByteArray.ext
  simp [S]

set_option maxHeartbeats 1000000 in
set_option maxRecDepth 100000 in
theorem macKeys_walk (k t : List UInt8) (w : World) (hK : KLaid w) (hk : k.length ≤ 140737488355328) (ht : t.length ≤ 140737488355328) :
    Calls Tryd.prog 6 #[.string (S k), .string (S t)] w fun e w' => e = .returned (.bool true) ∧ Below w.heap.size w w' := by
  have HS := hide (sanity_any w hK)
  have hks : (S k).size = k.length := rfl
  have hts : (S t).size = t.length := rfl
  by_cases h1 : k.length ≤ 400
  · have g1 : ¬ (400 : Int) < (((S k).size : Nat) : Int) := by omega
    by_cases h2 : t.length ≤ 400
    · have g2 : ¬ (400 : Int) < (((S t).size : Nat) : Int) := by omega
      have CM := hide (fun W hW => mac_any k t W hW (by omega) (by omega))
      have HK := hide hK
      rcases Nat.lt_trichotomy k.length 64 with h3 | h3 | h3
      · have g3 : ¬ (64 : Int) < (((S k).size : Nat) : Int) := by omega
        have g4 : (((S k).size : Nat) : Int) < 64 := by omega
        have CM2 := hide (fun W hW => mac_any (k ++ [0]) t W hW (by simp; omega) (by omega))
        have hms := Sha.mac_short k t h3
        have happ := add_zero_byte k
        rw [hms] at CM2
        generalize Sha.mac k t = m at *
        clear hK hks hts h1 h2 hms h3
        go_enter Tryd.func6, Tryd.ntmps6
        go_wp2_with fail
        refine (unhide HS).mono ?_
        rintro e w1 ⟨rfl, hb1⟩
        have HB1 := hide hb1
        clear hb1
        go_wp2_with fail
        refine (unhide CM w1 (HK.out.below HB1.out (Nat.le_refl _))).mono ?_
        rintro e w2 ⟨rfl, hb2⟩
        have HB2 := hide (HB1.out.trans (hb2.mono HB1.out.size))
        clear hb2
        go_wp2_with fail
        refine (unhide CM2 w2 (HK.out.below HB2.out (Nat.le_refl _))).mono ?_
        rintro e w3 ⟨rfl, hb3⟩
        have HB3 := hide (HB2.out.trans (hb3.mono HB2.out.size))
        clear hb3
        go_wp2
        go_ret
        exact ⟨by simp, HB3.out⟩
      · have g3 : ¬ (64 : Int) < (((S k).size : Nat) : Int) := by omega
        have g4 : ¬ (((S k).size : Nat) : Int) < 64 := by omega
        have hml := Sha.mac_len k t
        generalize Sha.mac k t = m at *
        have hsm : (S m).size = 32 := hml
        clear hK hks hts h1 h2 h3 hml
        go_enter Tryd.func6, Tryd.ntmps6
        go_wp2_with fail
        refine (unhide HS).mono ?_
        rintro e w1 ⟨rfl, hb1⟩
        have HB1 := hide hb1
        clear hb1
        go_wp2_with fail
        refine (unhide CM w1 (HK.out.below HB1.out (Nat.le_refl _))).mono ?_
        rintro e w2 ⟨rfl, hb2⟩
        have HB2 := hide (HB1.out.trans (hb2.mono HB1.out.size))
        clear hb2
        go_wp2
        go_ret
        exact ⟨by simp, HB2.out⟩
      · have g3 : (64 : Int) < (((S k).size : Nat) : Int) := by omega
        have CM2 := hide (fun W hW => mac_any (Sha.sum k) t W hW (by rw [Sha.sum_len]; omega) (by omega))
        rw [Sha.mac_long k t h3] at CM2
        have CS := hide (fun A n c (W : World) hr hW => hsum_any A n c k W hr hW (by omega))
        have CB := hide (fun W => bytes32_any (Sha.sum k) W (Sha.sum_len k))
        have hcv := hide (fun W => conv_bytes k W)
        generalize Sha.mac k t = m at *
        generalize Sha.sum k = d at *
        clear hK hts h1 h2 h3
        have HKS := hide hks
        clear hks
        go_enter Tryd.func6, Tryd.ntmps6
        go_wp2_with fail
        refine (unhide HS).mono ?_
        rintro e w1 ⟨rfl, hb1⟩
        have HB1 := hide hb1
        clear hb1
        go_wp2_with fail
        refine (unhide CM w1 (HK.out.below HB1.out (Nat.le_refl _))).mono ?_
        rintro e w2 ⟨rfl, hb2⟩
        have HB2 := hide (HB1.out.trans (hb2.mono HB1.out.size))
        clear hb2
        obtain ⟨A1, c1, w3, hrun, hrd, hb3⟩ := unhide hcv w2
        have HRD := hide hrd
        have HB3 := hide (HB2.out.trans (hb3.mono HB2.out.size))
        clear hrd hb3
        go_wp2_with fail
        refine (CS.out _ _ _ w3 HRD.out (HK.out.below HB3.out (Nat.le_refl _))).mono ?_
        rintro e w4 ⟨rfl, hb4⟩
        have HB4 := hide (HB3.out.trans (hb4.mono HB3.out.size))
        clear hb4 hrun
        go_wp2_with fail
        refine (unhide CB w4).mono ?_
        rintro e w5 ⟨rfl, hb5⟩
        have HB5 := hide (HB4.out.trans (hb5.mono HB4.out.size))
        clear hb5
        go_wp2_with fail
        refine (unhide CM2 w5 (HK.out.below HB5.out (Nat.le_refl _))).mono ?_
        rintro e w6 ⟨rfl, hb6⟩
        have HB6 := hide (HB5.out.trans (hb6.mono HB5.out.size))
        clear hb6
        go_wp2
        go_ret
        exact ⟨by simp, HB6.out⟩
    · have g2 : (400 : Int) < (((S t).size : Nat) : Int) := by omega
      go_enter Tryd.func6, Tryd.ntmps6
      go_wp2_with fail
      refine (unhide HS).mono ?_
      rintro e w1 ⟨rfl, hb1⟩
      go_wp2
      go_ret
      exact ⟨rfl, hb1⟩
  · have g1 : (400 : Int) < (((S k).size : Nat) : Int) := by omega
    go_enter Tryd.func6, Tryd.ntmps6
    go_wp2_with fail
    refine (unhide HS).mono ?_
    rintro e w1 ⟨rfl, hb1⟩
    go_wp2
    go_ret
    exact ⟨rfl, hb1⟩
end Go.Proofs.YtlhbeaaomgadbaaDoor
