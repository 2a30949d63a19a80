/-
  HashEqualIsEquality, walked.
-/
import Derived.Test.YtlhbeaaomgadbaaDoorSane
namespace Go.Proofs.YtlhbeaaomgadbaaDoor
open Go.RowKit
set_option linter.unusedVariables false
set_option linter.unusedSimpArgs false

theorem eqS_self (a : ByteArray) : eqS a a = true := by simp [eqS]
theorem eqS_ne {a b : ByteArray} (h : a ≠ b) : eqS a b = false := by
  unfold eqS
  rw [decide_eq_false_iff_not]
  intro e
  apply h
  apply ByteArray.ext
  exact Array.toList_inj.1 e
theorem add_empty (a : ByteArray) : a ++ ({ data := #[] } : ByteArray) = a := by
  apply ByteArray.ext
  simp

set_option maxHeartbeats 1000000 in
set_option maxRecDepth 100000 in
theorem equal_walk (a b : ByteArray) (w : World) (hK : KLaid w) (ha : a.size ≤ 140737488355328) (hb : b.size ≤ 140737488355328) :
    Calls Tryd.prog 9 #[.string a, .string b] w fun e w' => e = .returned (.bool true) ∧ Below w.heap.size w w' := by
  have HS := hide (sanity_any w hK)
  have hm1 : a.size ≤ maxLen := by unfold maxLen; omega
  have hm2 : b.size ≤ maxLen := by unfold maxLen; omega
  have C1 := hide (fun W => equal_any a b W hm1 hm2)
  have C2 := hide (fun W => equal_any b a W hm2 hm1)
  have C3 := hide (fun W => equal_any a a W hm1 hm1)
  have h3 := eqS_self a
  have h4 := eqS_self b
  have hae := add_empty a
  rw [h3] at C3
  clear hK hm1 hm2
  by_cases h : a.size ≤ 400 ∧ b.size ≤ 400
  · obtain ⟨h1, h2⟩ := h
    have g1 : ¬ (400 : Int) < (a.size : Int) := by omega
    have g2 : ¬ (400 : Int) < (b.size : Int) := by omega
    by_cases hab : a = b
    · subst hab
      rw [h3] at C1 C2
      clear h3 h4
      go_enter Tryd.func9, Tryd.ntmps9
      go_wp2_with fail
      refine (unhide HS).mono ?_
      rintro e w1 ⟨rfl, hb1⟩
      have HB1 := hide hb1
      clear hb1
      go_wp2_with fail
      refine (unhide C1 _).mono ?_
      rintro e _ ⟨rfl, k1, rfl⟩
      go_wp2_with fail
      refine (unhide C2 _).mono ?_
      rintro e _ ⟨rfl, k2, rfl⟩
      go_wp2_with fail
      refine (unhide C3 _).mono ?_
      rintro e _ ⟨rfl, k3, rfl⟩
      go_wp2
      go_ret
      exact ⟨by simp, below_drewN HB1.out _⟩
    · have hba : b ≠ a := fun e => hab e.symm
      rw [eqS_ne hab] at C1
      rw [eqS_ne hba] at C2
      have hd : (a.toList == b.toList) = false := by
        rw [beq_eq_false_iff_ne, ByteArray.toList_eq, ByteArray.toList_eq]
        intro e
        exact hab (ByteArray.ext (Array.toList_inj.1 e))
      clear h3 h4
      go_enter Tryd.func9, Tryd.ntmps9
      go_wp2_with fail
      refine (unhide HS).mono ?_
      rintro e w1 ⟨rfl, hb1⟩
      have HB1 := hide hb1
      clear hb1
      go_wp2_with fail
      refine (unhide C1 _).mono ?_
      rintro e _ ⟨rfl, k1, rfl⟩
      go_wp2_with fail
      refine (unhide C2 _).mono ?_
      rintro e _ ⟨rfl, k2, rfl⟩
      go_wp2_with fail
      refine (unhide C3 _).mono ?_
      rintro e _ ⟨rfl, k3, rfl⟩
      go_wp2
      go_ret
      exact ⟨by simp, below_drewN HB1.out _⟩
  · by_cases h1 : a.size ≤ 400
    · have h2 : ¬ b.size ≤ 400 := fun e => h ⟨h1, e⟩
      have g1 : ¬ (400 : Int) < (a.size : Int) := by omega
      have g2 : (400 : Int) < (b.size : Int) := by omega
      clear h3 h4 h
      go_enter Tryd.func9, Tryd.ntmps9
      go_wp2_with fail
      refine (unhide HS).mono ?_
      rintro e w1 ⟨rfl, hb1⟩
      go_wp2
      go_ret
      exact ⟨rfl, hb1⟩
    · have g1 : (400 : Int) < (a.size : Int) := by omega
      clear h3 h4 h
      go_enter Tryd.func9, Tryd.ntmps9
      go_wp2_with fail
      refine (unhide HS).mono ?_
      rintro e w1 ⟨rfl, hb1⟩
      go_wp2
      go_ret
      exact ⟨rfl, hb1⟩

set_option maxHeartbeats 1000000 in
set_option maxRecDepth 100000 in
theorem macMatch_walk (k t : List UInt8) (w : World) (hK : KLaid w) (hR : RKLaid w) (hk : k.length ≤ 140737488355328) (ht : t.length ≤ 140737488355328) :
    Calls Tryd.prog 5 #[.string (S k), .string (S t)] w fun e w' => e = .returned (.bool true) ∧ Below w.heap.size w w' := by
  have HS := hide (sanity_any w hK)
  have hks : (S k).size = k.length := rfl
  have hts : (S t).size = t.length := rfl
  by_cases h1 : k.length ≤ 400
  · have g1 : ¬ (400 : Int) < (((S k).size : Nat) : Int) := by omega
    by_cases h2 : t.length ≤ 400
    · have g2 : ¬ (400 : Int) < (((S t).size : Nat) : Int) := by omega
      have CM := hide (fun W hW => mac_any k t W hW (by omega) (by omega))
      have CR := hide (fun W hW => refMac_any k t W hW (by omega) (by omega))
      have HK := hide hK
      have HR := hide hR
      generalize Sha.mac k t = m at *
      clear hK hR hks hts h1 h2
      go_enter Tryd.func5, Tryd.ntmps5
      go_wp2_with fail
      refine (unhide HS).mono ?_
      rintro e w1 ⟨rfl, hb1⟩
      have HB1 := hide hb1
      clear hb1
      go_wp2_with fail
      refine (unhide CM w1 (HK.out.below HB1.out (Nat.le_refl _))).mono ?_
      rintro e w2 ⟨rfl, hb2⟩
      have HB2 := hide (HB1.out.trans (hb2.mono HB1.out.size))
      clear hb2
      go_wp2_with fail
      refine (unhide CR w2 (HR.out.below HB2.out (Nat.le_refl _))).mono ?_
      rintro e w3 ⟨rfl, hb3⟩
      have HB3 := hide (HB2.out.trans (hb3.mono HB2.out.size))
      clear hb3
      go_wp2
      go_ret
      exact ⟨by simp, HB3.out⟩
    · have g2 : (400 : Int) < (((S t).size : Nat) : Int) := by omega
      go_enter Tryd.func5, Tryd.ntmps5
      go_wp2_with fail
      refine (unhide HS).mono ?_
      rintro e w1 ⟨rfl, hb1⟩
      go_wp2
      go_ret
      exact ⟨rfl, hb1⟩
  · have g1 : (400 : Int) < (((S k).size : Nat) : Int) := by omega
    go_enter Tryd.func5, Tryd.ntmps5
    go_wp2_with fail
    refine (unhide HS).mono ?_
    rintro e w1 ⟨rfl, hb1⟩
    go_wp2
    go_ret
    exact ⟨rfl, hb1⟩
end Go.Proofs.YtlhbeaaomgadbaaDoor
