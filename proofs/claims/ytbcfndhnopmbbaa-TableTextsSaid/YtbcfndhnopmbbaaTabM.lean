/-
  Tables: slices.Clone, Grow, Concat at bytes, by contract.
-/
import Derived.Test.YtbcfndhnopmbbaaTabL
import Derived.Lib.SliceRun
import Derived.Lib.AppendZerosOnto
namespace Go.Proofs.Ytbcfndhnopmbbaa
open Go.RowKit
set_option linter.unusedVariables false
set_option linter.unusedSimpArgs false
theorem byteInfo' : (Try.prog.info? 5).map (fun i => (i.zero, i.size, i.bytes)) = some (some (.int .u8 0), 1, 1) := by kernel_rfl
theorem bs_of_own {w : World} {b n : Nat} {v : Value} {l : List UInt8} (h : w.ownsRow b 5 1 v n (BV l)) (hl : l.length ≤ 1048576) :
    ∃ A c, v = .slice A l.length c ∧ BsAt w w.heap.size ⟨l, A, c⟩ ∧ ∀ a, A = some a → b ≤ a.block := by
  obtain ⟨A, c, rfl, hnc, _⟩ := own_slice h
  have hn : n = l.length := by have := h.1; rw [BV_len] at this; omega
  subst hn
  refine ⟨A, c, rfl, ⟨Reads.of_own h, hnc, hl⟩, fun a ha => ?_⟩
  subst ha
  rcases h.2 with ⟨h0, _⟩ | ⟨g, cap, cur, hv, hb, _⟩
  · cases h0
  · injection hv with hv
    injection hv with hv
    subst hv
    exact hb
set_option maxHeartbeats 2000000 in
set_option maxRecDepth 100000 in
theorem clone_any (ad : Addr) (c : Nat) (l : List UInt8) (w : World) (hr : Reads w w.heap.size 1 (some ad) l.length (BV l)) (hl : l.length ≤ 1048576) :
    Calls Try.prog 53 #[.slice (some ad) l.length c] w fun e w' => ∃ A c', e = .returned (.slice A l.length c') ∧ BsAt w' w'.heap.size ⟨l, A, c'⟩ ∧ Below w.heap.size w w' := by
  obtain ⟨i0, hi, hz0, hz1, hz2⟩ := info_parts byteInfo'
  have HI := hide hi
  have HZ0 := hide hz0
  have HZ1 := hide hz1
  have HZ2 := hide hz2
  have HR := hide (fun (W : World) (hb : Below w.heap.size w W) => (hr.below hb).more hb.size)
  have q22 : ∀ (w : World) (a : Option Addr) (n c n' c' : Nat), (binOp .eql 26 (.slice a n c) (.slice none n' c')).run Try.prog w = .ok (.bool a.isNone) w := fun w a n c n' c' => Lib.run_eql_slice_nil w _ _ a n c n' c' Try.underlying26
  obtain ⟨n, hn⟩ : ∃ n, n = l.length := ⟨_, rfl⟩
  have HN := hide hn
  rw [← hn] at HR hl ⊢
  clear hi hz0 hz1 hz2 hr hn
  go_enter Try.func53, Try.ntmps53
  go_wp2_with (at_builtin; refine wpList_append_any _ rfl (.tmp 5) (.tmp 6) 26 rfl w.heap.size 5 i0 (.int .u8 0) 1 1 Try.underlying26 HI.out HZ0.out HZ1.out HZ2.out rfl (by omega) _ 0 [] rfl (own_empty w) _ (some ad) n c (BV l) rfl (HR.out _ (below_alloc w _)) (BV_one l) (by unfold maxLen; omega) (by omega) (by simp) ?_; intro v2 w2 hown2 hgrow2 hat2; have HO2 := hide hown2; have HB2 := hide ((below_alloc w _).trans (below_grown hgrow2 (own_empty w) (by simp))); clear hown2 hgrow2 hat2)
  go_ret
  have ho := HO2.out
  simp only [List.nil_append] at ho
  obtain ⟨A, c', rfl, hbs, _⟩ := bs_of_own ho (by have := HN.out; omega)
  exact ⟨A, c', by have := HN.out; subst this; rfl, hbs, HB2.out⟩
set_option maxHeartbeats 2000000 in
set_option maxRecDepth 100000 in
theorem grow_any (n : Nat) (w : World) (h1 : 1 ≤ n) (h2 : n ≤ 1048576) :
    Calls Try.prog 70 #[.slice none 0 0, .int .i64 (n : Int)] w fun e w' => ∃ v, e = .returned v ∧ w'.ownsRow w.heap.size 5 1 v 0 [] ∧ Below w.heap.size w w' := by
  obtain ⟨i0, hi, hz0, hz1, hz2⟩ := info_parts byteInfo'
  have hrz : ∀ ty, (Builtin.append_ #[26, 3] ty #[.slice none 0 0, .int .i64 (n : Int)]).run Try.prog w = .ok (.slice (some ⟨w.heap.size, 0, none⟩) (0 + n) (grownCap w (0 + n) 0 5))
      (w.drew.alloc (.cells (([] : List Value).toArray ++ Builtin.zeroCells (Value.int .u8 0).cells n ++ Builtin.zeroCells (Value.int .u8 0).cells (grownCap w (0 + n) 0 5 - (0 + n))) 5)) := fun ty => by
    exact Lib.run_append_grow_zeros (P := Try.prog) w 26 3 ty 5 i0 (.int .u8 0) .i64 .i64 Try.underlying26 Try.underlying3 hi hz0 none 0 0 []
      (run_firstCells_none w.drew i0.size 0 0 0) n (by omega) (by rw [hz1]; omega) (by omega) (by omega) (by rw [hz2]; omega) (by
        rw [hz2]
        unfold Builtin.nextslicecap
        rw [if_pos (by omega)]
        omega)
  have hge := grownCap_ge w (0 + n) 0 5
  have hcm : grownCap w (0 + n) 0 5 ≤ maxLen := grownCap_le_maxLen w (0 + n) 0 5 (by unfold maxLen; omega)
  have HOWN := hide (show (w.drew.alloc (.cells (([] : List Value).toArray ++ Builtin.zeroCells (Value.int .u8 0).cells n ++ Builtin.zeroCells (Value.int .u8 0).cells (grownCap w (0 + n) 0 5 - (0 + n))) 5)).ownsRow w.heap.size 5 1 (.slice (some ⟨w.heap.size, 0, none⟩) 0 (grownCap w (0 + n) 0 5)) 0 [] from
    ⟨rfl, .inr ⟨w.heap.size, _, _, rfl, Nat.le_refl _, heap_alloc_new w.drew _, Nat.zero_le _, hcm, by
      simp only [Array.size_append, List.size_toArray, size_zeroCells, List.length_nil]
      show 0 + n * 1 + _ * 1 = _ * 1
      omega, rfl⟩⟩)
  have HB := hide (show Below w.heap.size w (w.drew.alloc (.cells (([] : List Value).toArray ++ Builtin.zeroCells (Value.int .u8 0).cells n ++ Builtin.zeroCells (Value.int .u8 0).cells (grownCap w (0 + n) 0 5 - (0 + n))) 5)) from below_drawn (below_alloc w.drew _))
  have h3 : ¬ ((n : Int) < 0) := by omega
  have h6 : (0 : Int) < (n : Int) := by omega
  have h8 : (n : Int) ≤ 1048576 := by omega
  clear hi hz0 hz1 hz2 hcm hge h1 h2
  generalize w.drew.alloc _ = V at *
  generalize grownCap w (0 + n) 0 5 = cap at *
  go_enter Try.func70, Try.ntmps70
  go_wp2_with (at_builtin; refine Lib.wpList_append_run _ rfl _ _ _ _ rfl _ _ rfl rfl _ _ (hrz _) ?_)
  go_ret
  exact ⟨_, rfl, HOWN.out, HB.out⟩
end Go.Proofs.Ytbcfndhnopmbbaa
