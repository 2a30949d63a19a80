/-
  Cells: Proper, Dot, Pack of the reference, by contract; Pack of what is no raster.
-/
import Derived.Test.YtdjmfjmijpfijaaDoorGenC
namespace Go.Proofs.YtdjmfjmijpfijaaDoor
open Go.RowKit
set_option linter.unusedVariables false
set_option linter.unusedSimpArgs false
namespace Ce
/-- is it a raster -/
def proper (W H : Int) (n : Nat) : Bool := can W H && decide (W * H = (n : Int))
end Ce
set_option maxHeartbeats 1000000 in
set_option maxRecDepth 100000 in
/-- Pack of what is no raster -/
theorem pack_bad (A : Option Addr) (n c : Nat) (W H : Int) (w : World) (hn : n ≤ 1099511627776) (hb : Ce.proper W H n = false) :
    Calls Tryd.prog 15 #[.agg #[.int .i64 W, .int .i64 H, .slice A n c]] w fun e w' => e = .returned (.tuple #[.slice none 0 0, .int .i64 1]) ∧ Below w.heap.size w w' := by
  have CP := hide (fun W' => possible_any W H W')
  have hni : (n : Int) ≤ 1099511627776 := by omega
  have hn0 : (0 : Int) ≤ (n : Int) := by omega
  cases hc : Ce.can W H with
  | false =>
    rw [hc] at CP
    clear hb hc
    go_enter Tryd.func15, Tryd.ntmps15
    go_upto_region 1 with fail
    refine name_world fun V hV => ?_
    have HBX := hide (show Blk V w.heap.size 37 #[.int .i64 W, .int .i64 H, .slice A n c] by rw [← hV.out]; exact Blk.new w _ _)
    have HV := hide (show Below w.heap.size w V by rw [← hV.out]; exact below_alloc w _)
    clear hV
    have hc0 : V.cell? ⟨w.heap.size, 0, none⟩ = some (.int .i64 W) := HBX.out.cell 0
    have hc1 : V.cell? ⟨w.heap.size, 1, none⟩ = some (.int .i64 H) := HBX.out.cell 1
    go_wp2_with (go_at_call 34; refine (CP.out _).mono ?_; rintro e w1 ⟨rfl, rfl⟩)
    go_ret2
    exact ⟨rfl, HV.out⟩
  | true =>
    rw [hc] at CP
    have hcc : 0 ≤ W ∧ 0 ≤ H ∧ W ≤ 65536 ∧ H ≤ 65536 ∧ W * H ≤ 65536 := by unfold Ce.can at hc; exact of_decide_eq_true hc
    obtain ⟨h1, h2, h3, h4, h5⟩ := hcc
    obtain ⟨q0, q1⟩ := mul_small h1 h2 h3 h4
    have hw2 : wrap64 (W * H) = W * H := wrap64_in q0 q1
    have hne : ¬ (W * H = (n : Int)) := by
      unfold Ce.proper at hb
      rw [hc, Bool.true_and] at hb
      exact of_decide_eq_false hb
    have hbn : ((n : Int) != wrap64 (W * H)) = true := by rw [hw2, bne_iff_ne]; exact fun e => hne e.symm
    have hbn2 : ((n : Int) != W * H) = true := by rw [bne_iff_ne]; exact fun e => hne e.symm
    clear hb hc hne hw2
    go_enter Tryd.func15, Tryd.ntmps15
    go_upto_region 1 with fail
    refine name_world fun V hV => ?_
    have HBX := hide (show Blk V w.heap.size 37 #[.int .i64 W, .int .i64 H, .slice A n c] by rw [← hV.out]; exact Blk.new w _ _)
    have HV := hide (show Below w.heap.size w V by rw [← hV.out]; exact below_alloc w _)
    clear hV
    have hc0 : V.cell? ⟨w.heap.size, 0, none⟩ = some (.int .i64 W) := HBX.out.cell 0
    have hc1 : V.cell? ⟨w.heap.size, 1, none⟩ = some (.int .i64 H) := HBX.out.cell 1
    have hc2 : V.cell? ⟨w.heap.size, 2, none⟩ = some (.slice A n c) := HBX.out.cell 2
    go_wp2_with (go_at_call 34; refine (CP.out _).mono ?_; rintro e w1 ⟨rfl, rfl⟩)
    go_ret2
    exact ⟨rfl, HV.out⟩
end Go.Proofs.YtdjmfjmijpfijaaDoor
