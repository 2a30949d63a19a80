/-
  Cells: the function literal of Pack, by contract.
-/
import Derived.Test.YtdjmfjmijpfijaaDoorPackC
import Derived.Deep.RegionHeld
namespace Go.Proofs.YtdjmfjmijpfijaaDoor
open Go.RowKit
set_option linter.unusedVariables false
set_option linter.unusedSimpArgs false
set_option maxHeartbeats 1000000 in
set_option maxRecDepth 100000 in
theorem pset_any (gv gp g : Nat) (n m x y b qx rx qy ry : Nat) (cur : Array Value) (w : World) (hv : w.cell? ⟨gv, 0, none⟩ = some (.slice (some ⟨gp, 0, none⟩) n n))
    (hp : w.cell? ⟨gp, qy, none⟩ = some (.slice (some ⟨g, 0, none⟩) m m)) (hg : Blk w g 5 cur) (hcur : cur[qx]? = some (.int .u8 (b : Int)))
    (hqx : (x : Int) / 2 = (qx : Int)) (hrx : (x : Int) % 2 = (rx : Int)) (hrx2 : rx < 2) (hry3 : ry < 3) (hqy : (y : Int) / 3 = (qy : Int)) (hry : (y : Int) % 3 = (ry : Int))
    (hy : qy < n) (hx : qx < m) (hn : n ≤ 65536) (hm : m ≤ 65536) (hb : b < 64) (hgv : gv ≠ g) (hgp : gp ≠ g) :
    Calls Tryd.prog 35 #[.int .i64 (x : Int), .int .i64 (y : Int), .pointer (some ⟨gv, 0, none⟩)] w fun e w' => e = .returned (.tuple #[]) ∧ Blk w' g 5 (cur.setIfInBounds qx (.int .u8 ((b ||| 2 ^ (ry + rx * 3) : Nat) : Int))) ∧ w.grownBy w' (some g) := by
  have hd6 : ry + rx * 3 < 6 := by omega
  have CB := hide (fun W => (show Calls Tryd.prog 36 #[.int .i64 (1 + (ry : Int) + (rx : Int) * 3)] W fun e w' => e = .returned (.int .u8 ((2 ^ (ry + rx * 3) : Nat) : Int)) ∧ W = w' from by
    have := bit_any (ry + rx * 3) W hd6
    rw [show (1 + (ry : Int) + (rx : Int) * 3) = 1 + ((ry + rx * 3 : Nat) : Int) by omega]
    exact this))
  have hp2 : 2 ^ (ry + rx * 3) < 64 := by exact show 2 ^ (ry + rx * 3) < 2 ^ 6 from Nat.pow_lt_pow_right (by omega) (by omega)
  have hor := u8_or_nat b (2 ^ (ry + rx * 3)) (by omega) (by omega)
  have hc : w.cell? ⟨g, qx, none⟩ = some (.int .u8 (b : Int)) := by rw [hg.cell]; exact hcur
  have hfz := hg.frozen qx
  have hx0 : (0 : Int) ≤ (qx : Int) := by omega
  have hy0 : (0 : Int) ≤ (qy : Int) := by omega
  have hx1 : (qx : Int) < (m : Int) := by omega
  have hy1 : (qy : Int) < (n : Int) := by omega
  have hrx0 : (0 : Int) ≤ (rx : Int) := by omega
  have hry0 : (0 : Int) ≤ (ry : Int) := by omega
  have hrx1 : (rx : Int) < 2 := by omega
  have hry1 : (ry : Int) < 3 := by omega
  have hb0 : (0 : Int) ≤ (b : Int) := by omega
  have hb1 : (b : Int) < 64 := by omega
  have hs1 : IntKind.i64.wrap (1 + (ry : Int)) = 1 + (ry : Int) := by rw [IntWalk.i64_in _ (by omega)]
  have hs2 : IntKind.i64.wrap ((rx : Int) * 3) = (rx : Int) * 3 := by rw [IntWalk.i64_in _ (by omega)]
  have hs3 : IntKind.i64.wrap (1 + (ry : Int) + (rx : Int) * 3) = 1 + (ry : Int) + (rx : Int) * 3 := by rw [IntWalk.i64_in _ (by omega)]
  have hx2 : Int.tdiv (x : Int) 2 = (qx : Int) := by rw [Int.tdiv_eq_ediv_of_nonneg (by omega)]; exact hqx
  have hy2 : Int.tdiv (y : Int) 3 = (qy : Int) := by rw [Int.tdiv_eq_ediv_of_nonneg (by omega)]; exact hqy
  have hx5 : Int.tmod (x : Int) 2 = (rx : Int) := by rw [Int.tmod_eq_emod_of_nonneg (by omega)]; exact hrx
  have hy5 : Int.tmod (y : Int) 3 = (ry : Int) := by rw [Int.tmod_eq_emod_of_nonneg (by omega)]; exact hry
  have hx3 : IntKind.i64.wrap (qx : Int) = (qx : Int) := by rw [IntWalk.i64_in _ (by omega)]
  have hy3 : IntKind.i64.wrap (qy : Int) = (qy : Int) := by rw [IntWalk.i64_in _ (by omega)]
  have hx4 : wrap64 (qx : Int) = (qx : Int) := wrap64_in (by omega) (by omega)
  have hy4 : wrap64 (qy : Int) = (qy : Int) := wrap64_in (by omega) (by omega)
  have HG := hide hg
  generalize b ||| 2 ^ (ry + rx * 3) = r at *
  generalize 2 ^ (ry + rx * 3) = p at *
  clear hd6 hp2 hg hcur hx hy
  go_enter Tryd.func35, Tryd.ntmps35
  go_region_with (go_at_call 36; refine (CB.out _).mono ?_; rintro e w1 ⟨rfl, rfl⟩)
  all_goals
    exact ⟨rfl, .tuple #[], by with_unfolding_all rfl, rfl, by first | exact (HG.out.set_ qx _).drew | exact HG.out.set_ qx _, by first | exact only_drew (only_setCell (World.grownBy.refl w _) (.inl rfl) _) | exact only_setCell (World.grownBy.refl w _) (.inl rfl) _⟩
end Go.Proofs.YtdjmfjmijpfijaaDoor
