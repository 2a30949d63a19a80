/-
  Cells: Unpack, by contract.
-/
import Derived.Test.YtdjmfjmijpfijaaDoorUnpackC
namespace Go.Proofs.YtdjmfjmijpfijaaDoor
open Go.RowKit
set_option linter.unusedVariables false
set_option linter.unusedSimpArgs false
namespace Ce
def allValid (ls : List (List UInt8)) : Bool := ls.all valid
theorem allValid_bad {ls : List (List UInt8)} {l : List UInt8} (h : l ∈ ls) (hb : valid l = false) : allValid ls = false := by
  unfold allValid
  rw [List.all_eq_false]
  exact ⟨l, h, by simp [hb]⟩
theorem allValid_ok {ls : List (List UInt8)} (h : ∀ l ∈ ls, valid l = true) : allValid ls = true := by
  unfold allValid
  rw [List.all_eq_true]
  exact h
def canPage (ls : List (List UInt8)) : Bool := can (2 * (wide ls : Int)) (3 * (ls.length : Int))
/-- the error of Unpack -/
def unErr (ls : List (List UInt8)) : Int := if allValid ls then (if canPage ls then 0 else 4) else 1
structure Rast where
  W : Nat
  H : Nat
  bits : List Bool
def unRast (ls : List (List UInt8)) : Rast := if allValid ls && canPage ls then ⟨2 * wide ls, 3 * ls.length, unBits ls (2 * wide ls) (3 * ls.length)⟩ else ⟨0, 0, []⟩
end Ce
/-- a raster in memory -/
def RastAt (w : World) (v : Value) (r : Ce.Rast) : Prop := ∃ A n c, v = .agg #[.int .i64 (r.W : Int), .int .i64 (r.H : Int), .slice A n c] ∧ n ≤ c ∧ Reads w w.heap.size 1 A n (r.bits.map Value.bool)
theorem RastAt.below {w w' : World} {v : Value} {r : Ce.Rast} (h : RastAt w v r) (hb : Below w.heap.size w w') : RastAt w' v r := by
  obtain ⟨A, n, c, h1, h2, h3⟩ := h
  exact ⟨A, n, c, h1, h2, (h3.below hb).more hb.size⟩
theorem RastAt.nil (w : World) : RastAt w (.agg #[.int .i64 0, .int .i64 0, .slice none 0 0]) ⟨0, 0, []⟩ := ⟨none, 0, 0, rfl, Nat.le_refl _, Reads.none_⟩
theorem size3 : (Tryd.prog.info? 37).map (·.size) = some 3 := by kernel_rfl
theorem load_rast {w : World} {g : Nat} {a b c : Value} (h : Blk w g 37 #[a, b, c]) : (loadVar 37 ⟨g, 0, none⟩).run Tryd.prog w = .ok (.agg #[a, b, c]) w :=
  run_loadVar_row _ _ _ _ _ _ _ h Tryd.underlying37 rfl size3
theorem wpList_store_rast {w : World} {ops : Array Oper} {rest : List Oper} {o : Oper} {a : Act} {Q : Exit → Act → World → Prop} (hgd : o.guard = none) (x y : Operand) (ho : o.op = .store 37 x y)
    (g : Nat) (a1 a2 a3 b1 b2 b3 : Value) (hx : a.eval x = .pointer (some ⟨g, 0, none⟩)) (hy : a.eval y = .agg #[b1, b2, b3]) (hD : Blk w g 37 #[a1, a2, a3]) (ho1 : ∀ v ∈ [b1, b2, b3], v.oneCell' = true)
    (h : ∀ w', Hid (w.setRow g #[b1, b2, b3] = w') → wpList Tryd.prog ops Q rest (a.put o.dst undef) w') : wpList Tryd.prog ops Q (o :: rest) a w :=
  wpList_store_row hgd 37 x y ho g _ hx hy 37 _ hD size3 rfl (all_oneCell_toArray ho1) (h _ rfl)
theorem rast_put {w w' : World} {g : Nat} {a1 a2 a3 b1 b2 b3 : Value} (h : Blk w g 37 #[a1, a2, a3]) (hw : Hid (w.setRow g #[b1, b2, b3] = w')) : Blk w' g 37 #[b1, b2, b3] := by
  rw [← hw.out]
  exact setRow_heap w g _ _ _ _ h
theorem below_row {B g : Nat} {a w w' : World} {cs : Array Value} (h : Below B a w) (hg : B ≤ g) (hw : Hid (w.setRow g cs = w')) : Below B a w' := by
  rw [← hw.out]
  exact h.trans ⟨rfl, rfl, rfl, by simp, fun k hk => setRow_other w g k cs (by omega)⟩
/-- bits as cells -/
def BM (l : List Bool) : Array Value := (l.map Value.bool).toArray
theorem BM_set (l : List Bool) (j : Nat) : (BM l).setIfInBounds j (.bool true) = BM (l.set j true) := by
  apply Array.toList_inj.1
  rw [Array.toList_setIfInBounds]
  show (l.map Value.bool).set j _ = (l.set j true).map Value.bool
  rw [List.map_set]
theorem BM_size (l : List Bool) : (BM l).size = l.length := by simp [BM]
/-- numbers of dots that lie elsewhere than in a block -/
def DotsAt (W : World) (v : Value) (xs : List Nat) (b : Nat) : Prop := ∃ A cap, v = .slice A xs.length cap ∧ ∀ t (h : t < xs.length), ∃ ad, A = some ad ∧ ad.block ≠ b ∧ W.cell? (ad.add t) = some (.int .i64 (1 + (xs[t] : Int)))
theorem dots_at {W : World} {base c b : Nat} {v : Value} (h : W.ownsRow base 3 1 v (Ce.dots c).length ((Ce.dots c).map (Value.int .i64))) (hb : b < base) : DotsAt W v (Ce.dotsN c) b := by
  have hlen : (Ce.dots c).length = (Ce.dotsN c).length := by rw [Ce.dots_map, List.length_map]
  obtain ⟨A, cap, hv, hcap, hnn⟩ := own_slice h
  rw [hlen] at hv
  refine ⟨A, cap, hv, fun t ht => ?_⟩
  obtain ⟨g, cap', hv', hg, hlt⟩ := h.form (by omega)
  rw [hv] at hv'
  injection hv' with h1 h2 h3
  refine ⟨_, h1, fun e => ?_, ?_⟩
  · have : g = b := e
    omega
  · have hc := h.cells (g := g) (by rw [hv, h1]; rfl) t
    have := hc (.int .i64 (1 + ((Ce.dotsN c)[t] : Int))) (by rw [Ce.dots_map, List.getElem?_map, List.getElem?_map, List.getElem?_eq_getElem ht]; rfl)
    exact this
theorem BM_rep (n : Nat) : BM (List.replicate n false) = Array.replicate n (Value.bool false) := by
  apply Array.toList_inj.1
  simp [BM]
theorem madeBool (n : Nat) : madeCells #[Value.bool false] n = Array.replicate n (Value.bool false) := by
  apply Array.toList_inj.1
  rw [toList_madeCells_one]
  simp

set_option maxHeartbeats 2000000 in
set_option maxRecDepth 100000 in
theorem unpack_any (A : Option Addr) (n c : Nat) (ls : List (List UInt8)) (w : World) (hp : Pg w w.heap.size A n ls) (hn : n ≤ 1048576) (hll : ∀ l ∈ ls, l.length ≤ 1048576) :
    Calls Tryd.prog 16 #[.slice A n c] w fun e w' => ∃ v, e = .returned (.tuple #[v, .int .i64 (Ce.unErr ls)]) ∧ RastAt w' v (Ce.unRast ls) ∧ Below w.heap.size w w' := by
  have HP := hide hp
  have HLL := hide hll
  have hnl : n = ls.length := by obtain ⟨_, _, h, _⟩ := hp; exact h.symm
  have HNL := hide hnl
  have hn0 : (n : Int) ≤ 1048576 := by omega
  clear hp hll hnl
  go_enter Tryd.func16, Tryd.ntmps16
  go_upto_region 1 with fail
  refine name_world fun V hV => ?_
  have HRB := hide (show Blk V w.heap.size 37 #[.int .i64 0, .int .i64 0, .slice none 0 0] by rw [← hV.out]; exact Blk.new w _ _)
  have HV := hide (show Below w.heap.size w V by rw [← hV.out]; exact below_alloc w _)
  have HVS := hide (show V.heap.size = w.heap.size + 1 by rw [← hV.out]; simp)
  have hgx := HRB.out.lt
  have HVV := hide (Below.refl V.heap.size V)
  clear hV
  go_wp2
  go_loopw [19, 4] (fun s19 s4 wr => ∃ k : Nat, k ≤ n ∧ s19 = .int .i64 (k : Int) ∧ s4 = .int .i64 ((Ce.wide (ls.take k) : Nat) : Int) ∧ Hid (∀ l ∈ ls.take k, Ce.valid l = true) ∧ Below V.heap.size V wr) (fun s19 _ _ => n - (intOf s19).toNat)
  case atStart => exact ⟨0, by omega, rfl, rfl, by simp [Hid], HVV.out⟩
  case round =>
    obtain ⟨k, hk, rfl, rfl, HG, hbel⟩ := hrel
    obtain ⟨wd, rfl⟩ : ∃ wd, wd = wr := ⟨wr, rfl⟩
    have HB := hide hbel
    have hwt := Ce.wide_le 1048576 (ls.take k) (fun l hl => HLL.out l (List.mem_of_mem_take hl))
    by_cases hlt : k < n
    · obtain ⟨ad, rfl, hkl, A', c', hc0, hc', hr⟩ := HP.out.row k hlt
      have HWD := hide (HV.out.trans (hbel.mono HV.out.size))
      have hc : wd.cell? (ad.add k) = some (.slice A' ls[k].length c') := by rw [HWD.out.cell (block_lt_of_cell hc0)]; exact hc0
      have hk0 : (0 : Int) ≤ (k : Int) := by omega
      have hk1 : (k : Int) < (n : Int) := by omega
      have HMEM := hide (List.getElem_mem hkl)
      have HT := hide (List.take_succ_eq_append_getElem hkl)
      have hlen := HLL.out _ HMEM.out
      have CV := hide (valid_any A' ls[k].length c' ls[k] wd ((hr.below HWD.out).more HWD.out.size) (by omega))
      have HLT := hide hlt
      obtain ⟨l, hl⟩ : ∃ l, l = ls[k] := ⟨_, rfl⟩
      rw [← hl] at hc CV HMEM HT hlen
      clear hl hr hc0 hlt hbel
      cases hv : Ce.valid l with
      | false =>
        rw [hv] at CV
        have HF := hide (show Ce.unErr ls = 1 by unfold Ce.unErr; rw [Ce.allValid_bad HMEM.out hv]; rfl)
        have HF2 := hide (show Ce.unRast ls = ⟨0, 0, []⟩ by unfold Ce.unRast; rw [Ce.allValid_bad HMEM.out hv]; rfl)
        clear hv
        generalize Ce.wide (ls.take k) = m at *
        have HRW := hide (HRB.out.below HB.out hgx)
        go_wp2_with (first
          | (go_at_call 21; refine (unhide CV).mono ?_; rintro e w1 ⟨rfl, hb1⟩; have B1 := hide hb1; have HRX := hide (HRW.out.below hb1 HRW.out.lt); clear hb1)
          | (with_reducible refine wpList_store_rast rfl (.tmp 2) (.tmp 26) rfl w.heap.size _ _ _ (.int .i64 0) (.int .i64 0) (.slice none 0 0) rfl rfl HRX.out (by simp [Value.oneCell']) ?_; intro Y hY))
        exact bodyPost_ret (v := .tuple #[.agg #[.int .i64 0, .int .i64 0, .slice none 0 0], .int .i64 1]) (results_cell_tmp1 Tryd.results16 _ _ ⟨w.heap.size, 0, none⟩ _ rfl (load_rast (rast_put HRX.out hY))) rfl ⟨_, by rw [HF.out], by rw [HF2.out]; exact RastAt.nil _, below_row (HWD.out.trans (B1.out.mono HWD.out.size)) (Nat.le_refl _) hY⟩
      | true =>
        rw [hv] at CV
        have HG2 := hide (show ∀ x ∈ ls.take (k + 1), Ce.valid x = true by
          intro x hx
          rw [HT.out] at hx
          rcases List.mem_append.1 hx with hx | hx
          · exact HG.out x hx
          · simp at hx; subst hx; exact hv)
        have HW := hide (show Ce.wide (ls.take (k + 1)) = max (Ce.wide (ls.take k)) l.length by rw [HT.out, Ce.wide_snoc])
        clear hv
        generalize Ce.wide (ls.take k) = m at *
        generalize l.length = len at *
        have hm0 : (0 : Int) ≤ (m : Int) := by omega
        have hm1 : (m : Int) ≤ 1048576 := by omega
        have hl0 : (0 : Int) ≤ (len : Int) := by omega
        have hl1 : (len : Int) ≤ 1048576 := by omega
        go_wp2_with (go_at_call 21; refine (unhide CV).mono ?_; rintro e w1 ⟨rfl, hb1⟩; have B1 := hide hb1; clear hb1)
        exact ⟨⟨k + 1, HLT.out, by go_num, by rw [HW.out, Nat.max_def]; congr 1; split <;> split <;> omega, HG2, HB.out.trans (B1.out.mono HB.out.size)⟩, by have := HLT.out; simp [intOf]; omega⟩
    · obtain rfl : k = n := by omega
      have hall : Ce.allValid ls = true := Ce.allValid_ok (by have := HG.out; rwa [List.take_of_length_le (by have := HNL.out; omega)] at this)
      have hwd : ls.take k = ls := List.take_of_length_le (by have := HNL.out; omega)
      rw [hwd]
      have hwt := Ce.wide_le 1048576 ls HLL.out
      have CP := hide (fun W' => possible_any (2 * (Ce.wide ls : Int)) (3 * (k : Int)) W')
      have hcp : Ce.canPage ls = Ce.can (2 * (Ce.wide ls : Int)) (3 * (k : Int)) := by unfold Ce.canPage; rw [← HNL.out]
      have HWI := hide (show Ce.wide ls = Ce.wide ls from rfl)
      obtain ⟨m, hm⟩ : ∃ m, m = Ce.wide ls := ⟨_, rfl⟩
      rw [← hm] at CP hcp hwt
      rw [← hm]
      have hm0 : (0 : Int) ≤ (m : Int) := by omega
      have hm1 : (m : Int) ≤ 1048576 := by omega
      have hk0 : (0 : Int) ≤ (k : Int) := by omega
      have HM := hide hm
      have HRW := hide (HRB.out.below HB.out hgx)
      clear hm hwd hlt hbel HG
      by_cases hcan : Ce.can (2 * (m : Int)) (3 * (k : Int)) = true
      · rw [hcan] at CP hcp
        have hcc : 0 ≤ 2 * (m : Int) ∧ 0 ≤ 3 * (k : Int) ∧ 2 * (m : Int) ≤ 65536 ∧ 3 * (k : Int) ≤ 65536 ∧ 2 * (m : Int) * (3 * (k : Int)) ≤ 65536 := by unfold Ce.can at hcan; exact of_decide_eq_true hcan
        obtain ⟨_, _, hm6, hk6, hmk6⟩ := hcc
        obtain ⟨wd2, hwd2⟩ : ∃ q : Nat, q = 2 * m := ⟨_, rfl⟩
        obtain ⟨N, hN⟩ : ∃ N : Nat, N = wd2 * (3 * k) := ⟨_, rfl⟩
        have hNi : 2 * (m : Int) * (3 * (k : Int)) = (N : Int) := by rw [hN, hwd2, Int.natCast_mul, Int.natCast_mul, Int.natCast_mul]; rfl
        have hN6 : N ≤ 65536 := by omega
        have hwi : 2 * (m : Int) = (wd2 : Int) := by omega
        have hwr : wrap64 ((wd2 : Int) * (3 * (k : Int))) = (N : Int) := by rw [← hwi, hNi]; exact wrap64_in (by omega) (by omega)
        have hmk : ∀ W', (Instr.makeSlice 35 (.int .i64 (N : Int)) (.int .i64 (N : Int))).run Tryd.prog W' = .ok (.slice (some ⟨W'.heap.size, 0, none⟩) N N) (W'.alloc (.cells (madeCells #[Value.bool false] N) 4)) := fun W' =>
          run_make_row' 35 4 (.bool false) 1 Tryd.underlying35 boolInfo rfl .i64 .i64 N (by omega) (by omega) W'
        rw [madeBool] at hmk
        have HF := hide (show Ce.unErr ls = 0 by unfold Ce.unErr; rw [hall, hcp]; rfl)
        have HF2 := hide (show Ce.unRast ls = ⟨wd2, 3 * k, Ce.unBits ls wd2 (3 * k)⟩ by unfold Ce.unRast; rw [hall, hcp, hwd2, HM.out, HNL.out]; rfl)
        have HWD2 := hide (show wd2 = 2 * Ce.wide ls by rw [hwd2, HM.out])
        have HN := hide hN
        rw [hwi] at CP
        have HWI := hide hwi
        clear hall hcp hcan hmk6 hNi hN hwi hwd2
        have hgs := HB.out.size
        go_upto_region 10 with fail
        rw [HWI.out]
        refine name_world fun Y hY => ?_
        have HY7 := hide (show Blk Y wd.heap.size 3 #[.int .i64 (wd2 : Int)] by rw [← hY.out]; exact Blk.new wd _ _)
        have HYB := hide (show Below wd.heap.size wd Y by rw [← hY.out]; exact below_alloc wd _)
        have HYS := hide (show Y.heap.size = wd.heap.size + 1 by rw [← hY.out]; simp)
        clear hY
        have hc7 : Y.cell? ⟨wd.heap.size, 0, none⟩ = some (.int .i64 (wd2 : Int)) := HY7.out.cell 0
        go_upto_region 13 with (go_at_call 34; refine (CP.out _).mono ?_; rintro e w1 ⟨rfl, rfl⟩)
        refine name_world fun X hX => ?_
        have HX9 := hide (show Blk X (Y.heap.size + 1) 35 #[.slice (some ⟨Y.heap.size, 0, none⟩) N N] by
          rw [← hX.out]
          have := Blk.new (Y.alloc (.cells (Array.replicate N (Value.bool false)) 4)) 35 #[.slice (some ⟨Y.heap.size, 0, none⟩) N N]
          rwa [show (Y.alloc (.cells (Array.replicate N (Value.bool false)) 4)).heap.size = Y.heap.size + 1 by simp] at this)
        have HXO := hide (show Blk X Y.heap.size 4 (BM (List.replicate N false)) by rw [← hX.out, BM_rep]; exact (Blk.new Y _ _).alloc _)
        have HXB := hide (show Below Y.heap.size Y X by rw [← hX.out]; exact (below_alloc Y _).alloc (by simp) _)
        have hys := HYS.out
        have h7l : wd.heap.size < Y.heap.size := by omega
        have HX7 := hide (HY7.out.below HXB.out h7l)
        have HWY := hide (HV.out.trans ((HB.out.trans (HYB.out.mono hgs)).mono HV.out.size))
        have hwy : w.heap.size < Y.heap.size := by have := HWY.out.size; omega
        have HXR := hide (((HRW.out.below HYB.out (by omega)).below HXB.out hwy))
        have HWX := hide (HWY.out.trans (HXB.out.mono (Nat.le_of_lt hwy)))
        generalize hg7 : wd.heap.size = g7 at *
        generalize hgon : Y.heap.size = gon at *
        have HXX := hide (Below.refl gon X)
        clear hX hys hmk hc7 CP hgs hwr
        have hno : gon ≠ gon + 1 := by omega
        have HRG := hide (And.intro hm6 hk6)
        go_wp2
        go_loopw [49] (fun s49 wr => ∃ i : Nat, i ≤ k ∧ s49 = .int .i64 (i : Int) ∧ Blk wr gon 4 (BM (Ce.marks N (Ce.U ls wd2 i))) ∧ Blk wr (gon + 1) 35 #[.slice (some ⟨gon, 0, none⟩) N N] ∧ Below gon X wr) (fun s49 _ => k - (intOf s49).toNat)
        case atStart => exact ⟨0, by omega, rfl, by rw [Ce.marks_congr (Q := fun _ => False) (fun q _ => ⟨fun h => Ce.U_zero _ _ _ h, False.elim⟩), Ce.marks_none]; exact HXO.out, HX9.out, HXX.out⟩
        case round =>
          obtain ⟨i, hi, rfl, hbo, hb9, hbel⟩ := hrel
          obtain ⟨we, rfl⟩ : ∃ we, we = wr := ⟨wr, rfl⟩
          have JO := hide hbo
          have J9 := hide hb9
          have JB := hide hbel
          by_cases hlt : i < k
          · obtain ⟨ad, rfl, hil, A', c', hc0, hc', hr⟩ := HP.out.row i hlt
            have HWE := hide (HWX.out.trans (hbel.mono (Nat.le_of_lt hwy)))
            have hc : we.cell? (ad.add i) = some (.slice A' ls[i].length c') := by rw [HWE.out.cell (block_lt_of_cell hc0)]; exact hc0
            have hi0 : (0 : Int) ≤ (i : Int) := by omega
            have hi1 : (i : Int) < (k : Int) := by omega
            have HLI := hide (show ls.getD i [] = ls[i] by simp [List.getD, hil])
            have HLW := hide (Ce.le_wide ls _ (List.getElem_mem hil))
            have hlen := HLL.out _ (List.getElem_mem hil)
            have HR := hide hr
            have HLT := hide hlt
            obtain ⟨l, hl⟩ : ∃ l, l = ls[i] := ⟨_, rfl⟩
            rw [← hl] at hc HLI HLW hlen HR
            obtain ⟨len, hln⟩ : ∃ len, len = l.length := ⟨_, rfl⟩
            rw [← hln] at hc HLW hlen HR
            have HLN := hide hln
            have hlen0 : (len : Int) ≤ 1048576 := by omega
            clear hl hr hc0 hlt hbel hbo hb9 hlen hln hc'
            clear hil
            go_wp2
            go_loopw [56] (fun s56 wr => ∃ j : Nat, j ≤ len ∧ s56 = .int .i64 (j : Int) ∧ Blk wr gon 4 (BM (Ce.marks N fun q => Ce.U ls wd2 i q ∨ Ce.V ls wd2 i j q)) ∧ Blk wr (gon + 1) 35 #[.slice (some ⟨gon, 0, none⟩) N N] ∧ Below gon X wr) (fun s56 _ => len - (intOf s56).toNat)
            case atStart => exact ⟨0, by omega, rfl, by rw [Ce.marks_congr (Q := Ce.U ls wd2 i) (fun q _ => ⟨fun h => h.elim id fun h => absurd h (Ce.V_zero _ _ _ _), .inl⟩)]; exact JO.out, J9.out, JB.out⟩
            case round =>
              clear hc
              obtain ⟨j, hj, rfl, hbo, hb9, hbel⟩ := hrel
              obtain ⟨wf, rfl⟩ : ∃ wf, wf = wr := ⟨wr, rfl⟩
              have KO := hide hbo
              have K9 := hide hb9
              have KB := hide hbel
              by_cases hlt : j < len
              · obtain ⟨bd, rfl, hjl, hc0⟩ := reads_byte HR.out j hlt
                have HWF := hide (HWX.out.trans (hbel.mono (Nat.le_of_lt hwy)))
                have hc : wf.cell? (bd.add j) = some (.int .u8 ((l[j].toNat : Nat) : Int)) := by rw [HWF.out.cell (block_lt_of_cell hc0)]; exact hc0
                have hj0 : (0 : Int) ≤ (j : Int) := by omega
                have hj1 : (j : Int) < (len : Int) := by omega
                have HCA := hide (show Ce.cellAt ls i j = l[j].toNat by unfold Ce.cellAt; rw [HLI.out]; simp [List.getD, hjl])
                have CD := hide (fun W' => dots_any l[j] W')
                have HLT3 := hide hlt
                obtain ⟨c8, hc8⟩ : ∃ c8, c8 = l[j].toNat := ⟨_, rfl⟩
                rw [← hc8] at hc HCA CD
                have hl4 : gon < wf.heap.size := hbo.lt
                clear hc8 hc0 hlt hbel hbo hb9 hjl
                have CD2 := hide (show Calls Tryd.prog 30 #[.int .u8 (c8 : Int)] wf fun e w' => ∃ A cap, e = .returned (.slice A (Ce.dotsN c8).length cap) ∧ (∀ t (h : t < (Ce.dotsN c8).length), ∃ ad, A = some ad ∧ ad.block ≠ gon ∧ w'.cell? (ad.add t) = some (.int .i64 (1 + ((Ce.dotsN c8)[t] : Int)))) ∧ Below wf.heap.size wf w' from
                  (unhide CD wf).mono fun e w' ⟨v, he, hown, hb⟩ => by
                    obtain ⟨A, cap, hv, hd⟩ := dots_at hown hl4
                    subst hv
                    exact ⟨A, cap, he, hd, hb⟩)
                clear CD
                go_wp2_with (go_at_call 30; refine (unhide CD2).mono ?_; rintro e x1 ⟨A2, cap2, rfl, hd2, hb1⟩; have HD2 := hide hd2; have XO := hide (KO.out.below hb1 KO.out.lt); have X9 := hide (K9.out.below hb1 K9.out.lt); have XB := hide (KB.out.trans (hb1.mono (Nat.le_of_lt KO.out.lt))); clear hd2 hb1)
                have hxg := XO.out.lt
                obtain ⟨xs, hxs⟩ : ∃ xs, xs = Ce.dotsN c8 := ⟨_, rfl⟩
                have HXS := hide hxs
                rw [← hxs] at HD2
                rw [← hxs]
                have hx6 : xs.length ≤ 6 := by rw [hxs]; unfold Ce.dotsN; exact List.length_filter_le _ _
                have hx6i : (xs.length : Int) ≤ 6 := by omega
                clear hxs CD2
                go_loopw [64] (fun s64 wr => ∃ t : Nat, t ≤ xs.length ∧ s64 = .int .i64 (t : Int) ∧ Blk wr gon 4 (BM (Ce.marks N fun q => (Ce.U ls wd2 i q ∨ Ce.V ls wd2 i j q) ∨ ∃ e ∈ xs.take t, q = Ce.ix wd2 i j e)) ∧ Blk wr (gon + 1) 35 #[.slice (some ⟨gon, 0, none⟩) N N] ∧ Hid (∀ t (h : t < xs.length), ∃ ad, A2 = some ad ∧ ad.block ≠ gon ∧ wr.cell? (ad.add t) = some (.int .i64 (1 + (xs[t] : Int)))) ∧ Below gon X wr) (fun s64 _ => xs.length - (intOf s64).toNat)
                case atStart => exact ⟨0, by omega, rfl, by rw [Ce.marks_congr (Q := fun q => Ce.U ls wd2 i q ∨ Ce.V ls wd2 i j q) (fun q _ => ⟨fun h => h.elim id fun ⟨e, he, _⟩ => by simp at he, .inl⟩)]; exact XO.out, X9.out, HD2.out, XB.out⟩
                case round =>
                  clear hc
                  obtain ⟨t, ht, rfl, hbo, hb9, HDD, hbel⟩ := hrel
                  obtain ⟨wh, rfl⟩ : ∃ wh, wh = wr := ⟨wr, rfl⟩
                  have LO := hide hbo
                  have L9 := hide hb9
                  have LB := hide hbel
                  by_cases hlt : t < xs.length
                  · obtain ⟨dd, rfl, hdb, hcd⟩ := HDD.out t hlt
                    have ht0 : (0 : Int) ≤ (t : Int) := by omega
                    have ht1 : (t : Int) < (xs.length : Int) := by omega
                    obtain ⟨e, he⟩ : ∃ e, e = xs[t] := ⟨_, rfl⟩
                    have he6 : e < 6 := Ce.dotsN_lt c8 e (by rw [he, ← HXS.out]; exact List.getElem_mem hlt)
                    have HT := hide (show xs.take (t + 1) = xs.take t ++ [e] by rw [he]; exact List.take_succ_eq_append_getElem hlt)
                    have hix : Ce.ix wd2 i j e < N := by
                      rw [HN.out]
                      have h1 := HLW.out
                      have h2 := HLT3.out
                      have h3 := HWD2.out
                      have h4 := HLT.out
                      exact Ce.ix_lt wd2 (3 * k) i j e he6 (by omega) (by omega)
                    have CU := hide (uset_any gon (gon + 1) g7 N wd2 i j e (BM (Ce.marks N fun q => (Ce.U ls wd2 i q ∨ Ce.V ls wd2 i j q) ∨ ∃ e ∈ xs.take t, q = Ce.ix wd2 i j e)) wh hb9 (HX7.out.below hbel h7l) hbo (by rw [BM_size, Ce.marks_len]) hN6 hix he6 (by have := HLT.out; have := HRG.out.2; omega) (by have := HLT3.out; have := HLW.out; have := HWD2.out; have := HRG.out.1; have := HM.out; omega) (by have := HWD2.out; have := HRG.out.1; have := HM.out; omega))
                    rw [← he] at hcd
                    have HIX := hide hix
                    have HLT4 := hide hlt
                    have HNX := hide (show Blk (wh.setCell ⟨gon, Ce.ix wd2 i j e, none⟩ (.bool true)) gon 4 (BM (Ce.marks N fun q => (Ce.U ls wd2 i q ∨ Ce.V ls wd2 i j q) ∨ ∃ e ∈ xs.take (t + 1), q = Ce.ix wd2 i j e)) by
                      have h := hbo.set_ (Ce.ix wd2 i j e) (.bool true)
                      rw [BM_set, Ce.marks_set N _ _ hix] at h
                      rw [Ce.marks_congr (Q := fun q => ((Ce.U ls wd2 i q ∨ Ce.V ls wd2 i j q) ∨ ∃ e ∈ xs.take t, q = Ce.ix wd2 i j e) ∨ q = Ce.ix wd2 i j e) (fun q _ => by
                        rw [HT.out]
                        constructor
                        · rintro (h | ⟨f, hf, hq⟩)
                          · exact .inl (.inl h)
                          · rcases List.mem_append.1 hf with hf | hf
                            · exact .inl (.inr ⟨f, hf, hq⟩)
                            · simp at hf; subst hf; exact .inr hq
                        · rintro ((h | ⟨f, hf, hq⟩) | hq)
                          · exact .inl h
                          · exact .inr ⟨f, by simp [hf], hq⟩
                          · exact .inr ⟨e, by simp, hq⟩)]
                      exact h)
                    have HN9 := hide (hb9.far (p := ⟨gon, Ce.ix wd2 i j e, none⟩) (by show gon + 1 ≠ gon; omega) (.bool true))
                    have HNB := hide (hbel.setCell (p := ⟨gon, Ce.ix wd2 i j e, none⟩) (Nat.le_refl _) (.bool true))
                    have HND := hide (show ∀ t (h : t < xs.length), ∃ ad, some dd = some ad ∧ ad.block ≠ gon ∧ (wh.setCell ⟨gon, Ce.ix wd2 i j e, none⟩ (.bool true)).cell? (ad.add t) = some (.int .i64 (1 + (xs[t] : Int))) from fun t' h' => by
                      obtain ⟨ad, h1, h2, h3⟩ := HDD.out t' h'
                      refine ⟨ad, h1, h2, (World.cell?_setCell_other wh ⟨gon, Ce.ix wd2 i j e, none⟩ (ad.add t') _ (fun he' => h2 ?_)).trans h3⟩
                      rw [← block_of_add ad t', ← he'])
                    clear he he6 hix hbo hb9 hbel hlt hdb HDD
                    generalize Ce.ix wd2 i j e = q0 at *
                    go_wp2_with (go_at_call 37; refine (unhide CU).mono ?_; rintro ed w1 ⟨rfl, rfl⟩)
                    exact ⟨⟨t + 1, HLT4.out, by go_num, HNX.out, HN9.out, HND.out, HNB.out⟩, by have := HLT4.out; simp [intOf]; omega⟩
                  · obtain rfl : t = xs.length := by omega
                    have HNX := hide (show Blk wh gon 4 (BM (Ce.marks N fun q => Ce.U ls wd2 i q ∨ Ce.V ls wd2 i (j + 1) q)) by
                      rw [Ce.marks_congr (P := fun q => Ce.U ls wd2 i q ∨ Ce.V ls wd2 i (j + 1) q) (Q := fun q => (Ce.U ls wd2 i q ∨ Ce.V ls wd2 i j q) ∨ ∃ e ∈ xs.take xs.length, q = Ce.ix wd2 i j e) (fun q _ => by
                        rw [Ce.V_succ, List.take_length, HCA.out, ← HXS.out, or_assoc])]
                      exact hbo)
                    clear hbo hb9 hbel hlt HDD
                    go_wp2
                    exact ⟨⟨j + 1, HLT3.out, by go_num, HNX.out, L9.out, LB.out⟩, by have := HLT3.out; simp [intOf]; omega⟩
              · obtain rfl : j = len := by omega
                have HNX := hide (show Blk wf gon 4 (BM (Ce.marks N (Ce.U ls wd2 (i + 1)))) by
                  rw [Ce.marks_congr (P := Ce.U ls wd2 (i + 1)) (Q := fun q => Ce.U ls wd2 i q ∨ Ce.V ls wd2 i j q) (fun q _ => by
                    rw [Ce.U_succ, HLI.out, ← HLN.out])]
                  exact hbo)
                clear hbo hb9 hbel hlt
                go_wp2
                exact ⟨⟨i + 1, HLT.out, by go_num, HNX.out, K9.out, KB.out⟩, by have := HLT.out; simp [intOf]; omega⟩
          · obtain rfl : i = k := by omega
            have hc7 : we.cell? ⟨g7, 0, none⟩ = some (.int .i64 (wd2 : Int)) := (HX7.out.below hbel h7l).cell 0
            have hc9 : we.cell? ⟨gon + 1, 0, none⟩ = some (.slice (some ⟨gon, 0, none⟩) N N) := hb9.cell 0
            have HRZ := hide (HXR.out.below hbel hwy)
            have HWE := hide (HWX.out.trans (hbel.mono (Nat.le_of_lt hwy)))
            have HEND := hide (show Blk we gon 4 (BM (Ce.unBits ls wd2 (3 * i))) by
              rw [← Ce.marks_end ls wd2 (3 * i) HWD2.out (by rw [HNL.out]), ← HN.out, ← HNL.out]
              exact hbo)
            clear hbo hb9 hbel hlt
            go_wp2_with (with_reducible refine wpList_store_rast rfl (.tmp 2) (.tmp 79) rfl w.heap.size _ _ _ (.int .i64 (wd2 : Int)) (.int .i64 (3 * (i : Int))) (.slice (some ⟨gon, 0, none⟩) N N) rfl rfl HRZ.out (by simp [Value.oneCell']) ?_; intro Z hZ)
            have HZ := hide (below_row HWE.out (Nat.le_refl _) hZ)
            have HEZ := hide (show Blk Z gon 4 (BM (Ce.unBits ls wd2 (3 * i))) by rw [← hZ.out]; exact HEND.out.otherRow (by omega) _)
            exact bodyPost_ret (v := .tuple #[.agg #[.int .i64 (wd2 : Int), .int .i64 (3 * (i : Int)), .slice (some ⟨gon, 0, none⟩) N N], .int .i64 0]) (results_cell_tmp1 Tryd.results16 _ _ ⟨w.heap.size, 0, none⟩ _ rfl (load_rast (rast_put HRZ.out hZ))) rfl ⟨_, by rw [HF.out], by
              rw [HF2.out]
              refine ⟨some ⟨gon, 0, none⟩, N, N, rfl, Nat.le_refl _, ?_, fun _ => ⟨_, rfl, HEZ.out.lt, fun jj u hu => ?_⟩⟩
              · rw [List.length_map, Ce.unBits_len, Nat.mul_one, HN.out]
              · rw [show ((⟨gon, 0, none⟩ : Addr).add jj) = ⟨gon, jj, none⟩ by simp [Addr.add]; intro h; omega, HEZ.out.cell, ← hu]
                unfold BM
                rw [List.getElem?_toArray], HZ.out⟩
      · rw [Bool.not_eq_true] at hcan
        rw [hcan] at CP hcp
        have HF := hide (show Ce.unErr ls = 4 by unfold Ce.unErr; rw [hall, hcp]; rfl)
        have HF2 := hide (show Ce.unRast ls = ⟨0, 0, []⟩ by unfold Ce.unRast; rw [hall, hcp]; rfl)
        clear hall hcp hcan
        go_upto_region 10 with fail
        refine name_world fun Y hY => ?_
        have HY7 := hide (show Blk Y wd.heap.size 3 #[.int .i64 (2 * (m : Int))] by rw [← hY.out]; exact Blk.new wd _ _)
        have HYB := hide (show Below wd.heap.size wd Y by rw [← hY.out]; exact below_alloc wd _)
        clear hY
        have hc7 : Y.cell? ⟨wd.heap.size, 0, none⟩ = some (.int .i64 (2 * (m : Int))) := HY7.out.cell 0
        have hgs := HB.out.size
        have HRX := hide (HRW.out.below HYB.out (by omega))
        have HWY := hide (HV.out.trans ((HB.out.trans (HYB.out.mono hgs)).mono HV.out.size))
        go_wp2_with (first
          | (go_at_call 34; refine (CP.out _).mono ?_; rintro e w1 ⟨rfl, rfl⟩)
          | (with_reducible refine wpList_store_rast rfl (.tmp 2) (.tmp 41) rfl w.heap.size _ _ _ (.int .i64 0) (.int .i64 0) (.slice none 0 0) rfl rfl HRX.out (by simp [Value.oneCell']) ?_; intro Z hZ))
        exact bodyPost_ret (v := .tuple #[.agg #[.int .i64 0, .int .i64 0, .slice none 0 0], .int .i64 4]) (results_cell_tmp1 Tryd.results16 _ _ ⟨w.heap.size, 0, none⟩ _ rfl (load_rast (rast_put HRX.out hZ))) rfl ⟨_, by rw [HF.out], by rw [HF2.out]; exact RastAt.nil _, below_row HWY.out (Nat.le_refl _) hZ⟩
end Go.Proofs.YtdjmfjmijpfijaaDoor
