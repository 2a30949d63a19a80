/-
  SignVerifiesAsSpecified, walked.
-/
import Derived.Test.YtedgjpoejoepjaaDoorRefVer
namespace Go.Proofs.YtedgjpoejoepjaaDoor
open Go.RowKit
set_option linter.unusedVariables false
set_option linter.unusedSimpArgs false

set_option maxHeartbeats 2000000 in
set_option maxRecDepth 100000 in
theorem verifies_walk (p m s : List UInt8) (h : Int) (w : World) (hp : p.length = 16) (hs : s.length ≤ 140737488351232) (hm : m.length ≤ 140737488351232) (hK : KLaid w) (hR : RKLaid w) :
    Calls Tryd.prog 5 #[.agg (BV p).toArray, .int .i64 h, .string (S m), .string (S s)] w fun e w' => e = .returned (.bool true) ∧ Below w.heap.size w w' := by
  have CSA := hide (fun (W : World) hK => sanity_any W hK)
  have HK := hide hK
  have HR := hide hR
  have HP := hide hp
  have hsm : (S m).size = m.length := rfl
  have hss : (S s).size = s.length := rfl
  clear hK hR hp
  by_cases hbig : 200 < m.length ∨ 1400 < s.length
  · rcases Nat.lt_or_ge 200 m.length with h1 | h1
    · have hml : (200 : Int) < (((S m).size : Nat) : Int) := by rw [hsm]; omega
      clear hsm hss hbig hs hm h1
      go_enter Tryd.func5, Tryd.ntmps5
      go_upto_region 1 with fail
      refine name_world fun V hV => ?_
      have D4 := hide (show Dig V w.heap.size p by rw [← hV.out]; exact Dig.new w p HP.out)
      have HV := hide (show Below w.heap.size w V by rw [← hV.out]; exact below_alloc w _)
      have h4 := D4.out.2.lt
      clear hV
      go_wp2_with (go_at_call 9; refine (unhide CSA V (HK.out.below HV.out (Nat.le_refl _))).mono ?_; rintro e x1 ⟨rfl, hb1⟩; have X1 := hide (HV.out.trans (hb1.mono HV.out.size)); have D5 := hide (D4.out.below hb1 h4); clear hb1)
      go_ret
      exact ⟨rfl, X1.out⟩
    · have hml : ¬ (200 : Int) < (((S m).size : Nat) : Int) := by rw [hsm]; omega
      have hsl : (1400 : Int) < (((S s).size : Nat) : Int) := by rw [hss]; omega
      clear hsm hss hbig hs hm h1
      go_enter Tryd.func5, Tryd.ntmps5
      go_upto_region 1 with fail
      refine name_world fun V hV => ?_
      have D4 := hide (show Dig V w.heap.size p by rw [← hV.out]; exact Dig.new w p HP.out)
      have HV := hide (show Below w.heap.size w V by rw [← hV.out]; exact below_alloc w _)
      have h4 := D4.out.2.lt
      clear hV
      go_wp2_with (go_at_call 9; refine (unhide CSA V (HK.out.below HV.out (Nat.le_refl _))).mono ?_; rintro e x1 ⟨rfl, hb1⟩; have X1 := hide (HV.out.trans (hb1.mono HV.out.size)); have D5 := hide (D4.out.below hb1 h4); clear hb1)
      go_ret
      exact ⟨rfl, X1.out⟩
  · have hml : ¬ (200 : Int) < (((S m).size : Nat) : Int) := by rw [hsm]; omega
    have hsl : ¬ (1400 : Int) < (((S s).size : Nat) : Int) := by rw [hss]; omega
    have CV := hide (fun (W : World) hK => verify_any p m s h W HP.out (by omega) hK)
    have CR := hide (fun (W : World) hK => refVerify_any p m s h W HP.out (by omega) hK)
    generalize (Sg.ver p h m s).1 = r1 at *
    generalize (Sg.ver p h m s).2 = r2 at *
    clear hsm hss hbig hs hm
    go_enter Tryd.func5, Tryd.ntmps5
    go_upto_region 1 with fail
    refine name_world fun V hV => ?_
    have D4 := hide (show Dig V w.heap.size p by rw [← hV.out]; exact Dig.new w p HP.out)
    have HV := hide (show Below w.heap.size w V by rw [← hV.out]; exact below_alloc w _)
    have h4 := D4.out.2.lt
    clear hV
    go_wp2_with (first
      | (go_at_call 9; refine (unhide CSA V (HK.out.below HV.out (Nat.le_refl _))).mono ?_; rintro e x1 ⟨rfl, hb1⟩; have X1 := hide (HV.out.trans (hb1.mono HV.out.size)); have D5 := hide (D4.out.below hb1 h4); clear hb1)
      | (with_reducible refine wpList_load_dig rfl (.tmp 4) rfl w.heap.size rfl p D6.out ?_)
      | (with_reducible refine wpList_load_dig rfl (.tmp 4) rfl w.heap.size rfl p D5.out ?_)
      | (go_at_call 18; (with_reducible refine (unhide CV x1 (HK.out.below X1.out (Nat.le_refl _))).mono ?_); rintro e x2 ⟨rfl, hb2⟩; have X2 := hide (X1.out.trans (hb2.mono X1.out.size)); have D6 := hide (D5.out.below hb2 D5.out.2.lt); clear hb2)
      | (go_at_call 19; (with_reducible refine (unhide CR x2 (HR.out.below X2.out (Nat.le_refl _))).mono ?_); rintro e x3 ⟨rfl, hb3⟩; have X3 := hide (X2.out.trans (hb3.mono X2.out.size)); clear hb3))
    go_ret
    exact ⟨rfl, X3.out⟩
end Go.Proofs.YtedgjpoejoepjaaDoor
