/-
  possible, valid, within, by contract.
  Public, by contract.
-/
import Derived.Test.YtedgjpoejoepjaaDoorTree
import Derived.Great.BuildSlice
namespace Go.Proofs.YtedgjpoejoepjaaDoor
open Go.RowKit
set_option linter.unusedVariables false
set_option linter.unusedSimpArgs false

set_option maxHeartbeats 400000 in
set_option maxRecDepth 100000 in
theorem possible_any (h : Int) (w : World) :
    Calls Tryd.prog 35 #[.int .i64 h] w fun e w' => e = .returned (.bool (decide (0 ≤ h ∧ h ≤ 6))) ∧ w = w' := by
  rcases Int.lt_or_le h 0 with h0 | h0
  · rw [decide_eq_false (by omega)]
    go_enter Tryd.func35, Tryd.ntmps35
    go_wp2
    go_ret
    exact ⟨rfl, rfl⟩
  · go_enter Tryd.func35, Tryd.ntmps35
    go_wp2
    go_ret
    exact ⟨by show Ending.returned (Value.bool (decide (h ≤ 6))) = _; simp [h0], rfl⟩
set_option maxHeartbeats 400000 in
set_option maxRecDepth 100000 in
theorem valid_any (s : List UInt8) (h : Int) (w : World) (hs : s.length ≤ 281474976710656) :
    Calls Tryd.prog 21 #[.string (S s), .int .i64 h] w fun e w' => e = .returned (.bool (decide (s.length = 32 ∧ 0 ≤ h ∧ h ≤ 6))) ∧ w = w' := by
  have CP := hide (possible_any h w)
  have hsz : (S s).size = s.length := rfl
  by_cases h32 : s.length = 32
  · have hd : decide (s.length = 32 ∧ 0 ≤ h ∧ h ≤ 6) = decide (0 ≤ h ∧ h ≤ 6) := by simp [h32]
    rw [hd]
    have hlen : (S s).size = 32 := h32
    clear hsz h32 hd hs
    go_enter Tryd.func21, Tryd.ntmps21
    go_wp2_with (go_at_call 35; refine (unhide CP).mono ?_; rintro e w1 ⟨rfl, rfl⟩)
    go_ret
    exact ⟨by first | rfl | (show Ending.returned (Value.bool (decide (0 ≤ h) && decide (h ≤ 6))) = _; simp), rfl⟩
  · rw [decide_eq_false (by omega)]
    have hlen : ¬ ((((S s).size : Nat) : Int) = 32) := by rw [hsz]; omega
    clear hsz h32 hs
    go_enter Tryd.func21, Tryd.ntmps21
    go_wp2
    go_ret
    exact ⟨rfl, rfl⟩
set_option maxHeartbeats 400000 in
set_option maxRecDepth 100000 in
theorem within_any (i : Int) (h : Nat) (w : World) (hh : h ≤ 6) :
    Calls Tryd.prog 25 #[.int .i64 i, .int .i64 (h : Int)] w fun e w' => e = .returned (.bool (decide (0 ≤ i ∧ i < ((2 ^ h : Nat) : Int)))) ∧ w = w' := by
  have hl0 : (0 : Int) ≤ (h : Int) := by omega
  have hl6 : (h : Int) ≤ 6 := by omega
  rcases Int.lt_or_le i 0 with h0 | h0
  · rw [decide_eq_false (by omega)]
    go_enter Tryd.func25, Tryd.ntmps25
    go_wp2
    go_ret
    exact ⟨rfl, rfl⟩
  · go_enter Tryd.func25, Tryd.ntmps25
    go_wp2
    go_ret
    have hw : wrap64 (2 ^ h) = ((2 ^ h : Nat) : Int) := by
      have H : ∀ h : Fin 7, wrap64 (2 ^ h.val) = ((2 ^ h.val : Nat) : Int) := by decide +kernel
      exact H ⟨h, by omega⟩
    exact ⟨by show Ending.returned (Value.bool (decide (i < wrap64 (2 ^ h)))) = _; rw [hw]; simp [h0], rfl⟩
end Go.Proofs.YtedgjpoejoepjaaDoor
namespace Go.Proofs.YtedgjpoejoepjaaDoor
open Go.RowKit
set_option linter.unusedVariables false
set_option linter.unusedSimpArgs false

theorem wpList_build_dig {w : World} {ops : Array Oper} {rest : List Oper} {o : Oper} {a : Act} {Q : Exit → Act → World → Prop} (hg : o.guard = none) (ho : o.op = .build 23 #[])
    (d : Option Tmp) (hd : o.dst = d) (h : wpList Tryd.prog ops Q rest (a.put d (.agg (BV Z16).toArray)) w) : wpList Tryd.prog ops Q (o :: rest) a w :=
  wpList_buildTo hg 23 #[] ho d hd (BV Z16).toArray (by simpa using built16) h

set_option maxHeartbeats 1000000 in
set_option maxRecDepth 100000 in
theorem public_bad (s : List UInt8) (h : Int) (w : World) (hs : s.length ≤ 281474976710656) (hb : ¬ (s.length = 32 ∧ 0 ≤ h ∧ h ≤ 6)) :
    Calls Tryd.prog 12 #[.string (S s), .int .i64 h] w fun e w' => e = .returned (.tuple #[.agg (BV Z16).toArray, .int .i64 1]) ∧ Below w.heap.size w w' := by
  have CV := hide (fun (W : World) => valid_any s h W hs)
  rw [decide_eq_false hb] at CV
  have hzs := zero16
  clear hs hb
  go_enter Tryd.func12, Tryd.ntmps12
  go_upto_region 1 with fail
  refine name_world fun V hV => ?_
  have D4 := hide (show Dig V w.heap.size Z16 by rw [← hV.out]; exact Dig.new w Z16 rfl)
  have HV := hide (show Below w.heap.size w V by rw [← hV.out]; exact (Below.refl _ _).alloc (Nat.le_refl _) _)
  clear hV
  go_wp2_with (first
    | (go_at_call 21; refine (CV.out _).mono ?_; rintro e w1 ⟨rfl, rfl⟩)
    | (with_reducible refine wpList_build_dig rfl rfl (some 12) rfl ?_)
    | (with_reducible refine wpList_store_dig rfl (.tmp 4) (.tmp 12) rfl w.heap.size Z16 Z16 rfl rfl D4.out rfl ?_; intro U hU))
  exact bodyPost_ret (v := .tuple #[.agg (BV Z16).toArray, .int .i64 1]) (results_cell_tmp1 Tryd.results12 _ _ ⟨w.heap.size, 0, none⟩ _ rfl (D4.out.put rfl hU).result) rfl ⟨rfl, below_row HV.out (Nat.le_refl _) hU⟩

set_option maxHeartbeats 1000000 in
set_option maxRecDepth 100000 in
theorem public_ok (s : List UInt8) (h : Nat) (w : World) (hs : s.length = 32) (hh : h ≤ 6) (hK : KLaid w) :
    Calls Tryd.prog 12 #[.string (S s), .int .i64 (h : Int)] w fun e w' => e = .returned (.tuple #[.agg (BV (Sg.pub s h)).toArray, .int .i64 0]) ∧ Below w.heap.size w w' := by
  have CV := hide (fun (W : World) => valid_any s h W (by omega))
  rw [decide_eq_true (by omega)] at CV
  have CT := hide (fun (W : World) hK => tree_any s h 0 W hs hh (Nat.pow_pos (by omega)) hK)
  have hpl : (Sg.pub s h).length = 16 := Sg.node_len s h 0
  generalize Sg.pub s h = P at *
  have HK := hide hK
  have hzs := zero16
  clear hs hh hK
  go_enter Tryd.func12, Tryd.ntmps12
  go_upto_region 1 with fail
  refine name_world fun V hV => ?_
  have D4 := hide (show Dig V w.heap.size Z16 by rw [← hV.out]; exact Dig.new w Z16 rfl)
  have HV := hide (show Below w.heap.size w V by rw [← hV.out]; exact (Below.refl _ _).alloc (Nat.le_refl _) _)
  have hv4 := D4.out.2.lt
  clear hV
  go_wp2_with (first
    | (go_at_call 21; refine (CV.out _).mono ?_; rintro e w1 ⟨rfl, rfl⟩)
    | (go_at_call 22; refine (unhide CT V (HK.out.below HV.out (Nat.le_refl _))).mono ?_; rintro e x1 ⟨g0, rfl, hg0, hbs, hb1⟩; have HX1 := hide hb1; clear hbs hb1 hg0)
    | (with_reducible refine wpList_store_dig rfl (.tmp 6) (.tmp 17) rfl x1.heap.size Z16 P rfl rfl (Dig.new x1 Z16 rfl) hpl ?_; intro Y hY; have HY := hide (HX1.out.trans (Below.mono (below_row (below_alloc x1 _) (Nat.le_refl _) hY) HX1.out.size)); have D6 := hide ((Dig.new x1 Z16 rfl).put hpl hY); have D4Y := hide (D4.out.below HY.out hv4); clear hY)
    | (with_reducible refine wpList_load_dig rfl (.tmp 6) rfl x1.heap.size rfl P D6.out ?_)
    | (with_reducible refine wpList_store_dig rfl (.tmp 4) (.tmp 19) rfl w.heap.size Z16 P rfl rfl D4Y.out hpl ?_; intro U hU))
  exact bodyPost_ret (v := .tuple #[.agg (BV P).toArray, .int .i64 0]) (results_cell_tmp1 Tryd.results12 _ _ ⟨w.heap.size, 0, none⟩ _ rfl (D4Y.out.put hpl hU).result) rfl ⟨rfl, below_row (HV.out.trans (HY.out.mono HV.out.size)) (Nat.le_refl _) hU⟩
end Go.Proofs.YtedgjpoejoepjaaDoor
