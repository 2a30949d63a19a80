/-
  HashSumMatchesSpec, walked.
-/
import Derived.Test.YtlhbeaaomgadbaaDoorKeysLaw
import Derived.Deep.DrawnRows
namespace Go.Proofs.YtlhbeaaomgadbaaDoor
open Go.RowKit
set_option linter.unusedVariables false
set_option linter.unusedSimpArgs false
attribute [local go_sem ↓] Go.wp_at_zero Go.wp_at_succ
attribute [local go_sem ↓] wp_load_32 wp_load_16
attribute [local go_sem] ptrBlock_is

set_option maxHeartbeats 2000000 in
set_option maxRecDepth 100000 in
theorem sumMatch_walk (A : Option Addr) (n c : Nat) (l : List UInt8) (w : World) (hr : Reads w w.heap.size 1 A n (BV l)) (hK : KLaid w) (hR : RKLaid w) (hn : n ≤ 140737488355328) :
    Calls Tryd.prog 3 #[.slice A n c] w fun e w' => e = .returned (.bool true) ∧ Below w.heap.size w w' := by
  have HS := hide (sanity_any w hK)
  have hl : l.length = n := by have := hr.1; simp [BV] at this; omega
  by_cases h1 : n ≤ 1000
  · have g1 : ¬ (1000 : Int) < (n : Int) := by omega
    have CS := hide (fun (W : World) hr hW => hsum_any A n c l W hr hW (by omega))
    have CR := hide (fun A n c (W : World) hr hn hW => refSum_any A n c l W hr hn hW)
    have hdl := Sha.sum_len l
    have hcb := hide (fun W => conv_bytes l W)
    have hsl : (S l).size = n := by rw [S_size, hl]
    generalize Sha.sum l = D at *
    have HDL := hide hdl
    have HK := hide hK
    have HR := hide hR
    have HRD := hide hr
    have HCV := hide (fun (W' : World) (hb : Below w.heap.size w W') => run_conv_reads (P := Tryd.prog) (hr.below hb) 22 9 5 c Tryd.underlying22 Tryd.underlying5 Tryd.underlying9)
    have HSL := hide hsl
    have hgd := guard32
    have hsame : ∀ W, (Op.equalIn 10000 24 (.agg (BV D).toArray) (.agg (BV D).toArray)).run Tryd.prog W = .ok true W := fun W => by
      have h := run_same32 D D hdl hdl W
      rwa [beq_self_eq_true] at h
    clear hK hR hr hl hdl hsl
    go_enter Tryd.func3, Tryd.ntmps3
    go_wp2_with fail
    refine (unhide HS).mono ?_
    rintro e w1 ⟨rfl, hb1⟩
    have HB1 := hide hb1
    have hcv1 := unhide HCV w1 hb1
    clear hb1
    go_upto_region 5 with fail
    clear hcv1
    go_upto_region 6 with (first
      | (go_at_call 11; refine (unhide CS w1 ((HRD.out.below HB1.out).more HB1.out.size) (HK.out.below HB1.out (Nat.le_refl _))).mono ?_; rintro e w2 ⟨rfl, hb2⟩; have HB2 := hide (HB1.out.trans (hb2.mono HB1.out.size)); clear hb2)
      | (with_reducible refine wpList_store_row rfl 24 (.tmp 5) (.tmp 14) rfl w2.heap.size (BV D).toArray rfl rfl 24 _ (heap_alloc_new w2 _) ?p1 ?p2 ?p3 ?_))
    case p1 => first | (rw [List.size_toArray, BV_len, HDL.out]; exact size32) | (rw [BV_len, HDL.out]; exact Option.map_eq_some_iff.1 size32)
    case p2 => first | (rw [show (BV D).toArray.size = 32 by rw [List.size_toArray, BV_len, HDL.out]]; rfl) | (rw [BV_len D, HDL.out]; rfl)
    case p3 => first | exact all_oneCell_toArray (BV_one D) | exact BV_one D
    rw [World.setRow_alloc_new]
    refine name_world fun V hV => ?_
    have G5 := hide (show Blk V w2.heap.size 24 (BV D).toArray by rw [← hV.out]; exact Blk.new w2 _ _)
    have HV := hide (show Below w.heap.size w V by rw [← hV.out]; exact HB2.out.alloc HB2.out.size _)
    have hg5 : w2.heap.size < V.heap.size := by rw [← hV.out]; simp
    clear hV
    generalize w2.heap.size = g5 at *
    have HLD := hide (fun (W' : World) (hb : Below V.heap.size V W') => (⟨⟨_, _, G5.out.below hb hg5, by rw [List.size_toArray, BV_len, HDL.out]⟩, rowAt_blk (G5.out.below hb hg5)⟩ : rowOk W' g5 32 ∧ rowAt W' g5 = (BV D).toArray))
    obtain ⟨r1, r2⟩ := unhide HLD V.drew (Below.refl V.heap.size V).drew
    obtain ⟨A1, c1, z0, hrun, hrd, hz0⟩ := unhide hcb V.drew
    have hZ0 : Below V.heap.size V z0 := below_drawn hz0
    obtain ⟨r3, r4⟩ := unhide HLD z0 hZ0
    have HRD0 := hide hrd
    have HVT := hide (fun (W' : World) (hb : Below V.heap.size V W') => HV.out.trans (hb.mono HV.out.size))
    have hsn := HSL.out
    rw [hsn] at hrun HRD0
    clear hrd hz0
    have hn1000 : n ≤ 1099511627776 := by omega
    go_region_with (go_at_call 12; refine (CR.out _ _ _ z0 HRD0.out hn1000 (HR.out.below (unhide HVT z0 hZ0) (Nat.le_refl _))).mono ?_; rintro e z1 ⟨rfl, hz1⟩; have hZ1 := from_here hZ0 hz1; obtain ⟨r5, r6⟩ := unhide HLD z1 hZ1; have hcv2 := unhide HCV z1 (unhide HVT z1 hZ1))
    all_goals
      have HF := hide (unhide HVT z1 hZ1)
      clear hZ1 hz1 r1 r2 r3 r4 r5 r6 hcv2 hrun
      go_wp2
      go_ret
      exact ⟨rfl, HF.out⟩
  · have g1 : (1000 : Int) < (n : Int) := by omega
    go_enter Tryd.func3, Tryd.ntmps3
    go_wp2_with fail
    refine (unhide HS).mono ?_
    rintro e w1 ⟨rfl, hb1⟩
    go_wp2
    go_ret
    exact ⟨rfl, hb1⟩
end Go.Proofs.YtlhbeaaomgadbaaDoor
