/-
  Cells: Cell, Unpack of the reference, by contract.
-/
import Derived.Test.YtedgjpoejoepjabRefPackE
namespace Go.Proofs.Ytedgjpoejoepjab
open Go.RowKit
set_option linter.unusedVariables false
set_option linter.unusedSimpArgs false

set_option maxHeartbeats 1000000 in
set_option maxRecDepth 100000 in
/-- Cell of the reference -/
theorem refCell_any (A : Option Addr) (n c : Nat) (ls : List (List UInt8)) (w : World) (hp : Pg w w.heap.size A n ls) (i j : Nat) :
    Calls Try.prog 50 #[.slice A n c, .int .i64 (i : Int), .int .i64 (j : Int)] w fun e w' => e = .returned (.int .u8 ((Ce.cellAt ls i j : Nat) : Int)) ∧ w = w' := by
  have hnl : n = ls.length := by obtain ⟨_, _, h, _⟩ := hp; exact h.symm
  have hj0 : ¬ ((j : Int) < 0) := by omega
  have hj0' : (0 : Int) ≤ (j : Int) := by omega
  have hi0 : (0 : Int) ≤ (i : Int) := by omega
  by_cases hlt : i < n
  · obtain ⟨ad, rfl, hkl, A', c', hc, hc', hr⟩ := hp.row i hlt
    have hi1 : (i : Int) < (n : Int) := by omega
    have hrow : Ce.cellAt ls i j = (ls[i].getD j 0).toNat := by
      unfold Ce.cellAt
      rw [show ls.getD i [] = ls[i] by simp [List.getD, hkl]]
    rw [hrow]
    clear hp hrow hlt
    generalize ls[i] = l at *
    by_cases hjl : j < l.length
    · obtain ⟨bd, rfl, hx, hcb⟩ := reads_item hr j hjl
      have hv : w.cell? (bd.add j) = some (.int .u8 (((l.getD j 0).toNat : Nat) : Int)) := by
        rw [hcb, show l.getD j 0 = l[j] by simp [List.getD, hjl]]
        simp [BV]
      have hj1 : (j : Int) < (l.length : Int) := by omega
      generalize (l.getD j 0).toNat = q at *
      clear hr hcb hx hjl
      go_enter Try.func50, Try.ntmps50
      go_wp2
      go_ret
      exact ⟨rfl, rfl⟩
    · have hj1 : ¬ ((j : Int) < (l.length : Int)) := by omega
      have hj2 : (l.length : Int) ≤ (j : Int) := by omega
      have hq : (l.getD j 0).toNat = 0 := by rw [List.getD_eq_getElem?_getD, List.getElem?_eq_none (by omega)]; rfl
      rw [hq]
      clear hr hjl hq
      go_enter Try.func50, Try.ntmps50
      go_wp2
      go_ret
      exact ⟨rfl, rfl⟩
  · have hi1 : ¬ ((i : Int) < (n : Int)) := by omega
    have hi2 : (n : Int) ≤ (i : Int) := by omega
    have hil : ls.length ≤ i := by omega
    have hq : Ce.cellAt ls i j = 0 := by
      unfold Ce.cellAt
      rw [show ls.getD i [] = [] by simp [List.getD, hil]]
      rfl
    rw [hq]
    clear hp hlt hnl hq hil
    go_enter Try.func50, Try.ntmps50
    go_wp2
    go_ret
    exact ⟨rfl, rfl⟩
theorem Pg.same {w w' : World} {A : Option Addr} {n : Nat} {ls : List (List UInt8)} (h : Pg w w.heap.size A n ls) (hb : Below w.heap.size w w') : Pg w' w'.heap.size A n ls := (h.below hb).more hb.size
theorem unBits_part (ls : List (List UInt8)) (W x y q : Nat) (hx : x < W) (hq : q = y * W + x) : (List.range (q + 1)).map (fun i => Ce.unBit ls (i % W) (i / W)) = (List.range q).map (fun i => Ce.unBit ls (i % W) (i / W)) ++ [Ce.unBit ls x y] := by
  obtain ⟨h1, h2⟩ := (Ce.place W q x y (by omega) hx).1 hq.symm
  rw [List.range_succ, List.map_append, h1, h2]
  rfl
theorem wp_append_65 (o : Oper) (a : Act) (w : World) (K : Act → World → Prop) (Q : Exit → Act → World → Prop) (h0 : o.op = .call { callee := .builtin .append, args := #[.tmp 65, .tmp 80], argTypes := #[40, 40] }) (h1 : o.type = 40) (h2 : o.dst = some 81) (h : apOk w (a.eval (.tmp 65)) (a.eval (.tmp 80))) :
    Oper.wp Try.prog o a w K Q = K (a.put (some 81) (apRes w (a.eval (.tmp 65)) (a.eval (.tmp 80))).1) (apRes w (a.eval (.tmp 65)) (a.eval (.tmp 80))).2 := wp_append_bool o _ _ _ a w K Q h0 h1 h2 h
attribute [local go_sem ↓] wp_append_65

set_option maxHeartbeats 4000000 in
set_option maxRecDepth 100000 in
theorem refUnpack_any (A : Option Addr) (n c : Nat) (ls : List (List UInt8)) (w : World) (hp : Pg w w.heap.size A n ls) (hn : n ≤ 1048576) (hll : ∀ l ∈ ls, l.length ≤ 1048576) :
    Calls Try.prog 32 #[.slice A n c] w fun e w' => ∃ v, e = .returned (.tuple #[v, .int .i64 (Ce.unErr ls)]) ∧ RastAt w' v (Ce.unRast ls) ∧ Below w.heap.size w w' := by
  have HP := hide hp
  have HLL := hide hll
  have hnl : n = ls.length := by obtain ⟨_, _, h, _⟩ := hp; exact h.symm
  have HNL := hide hnl
  have hn0 : (n : Int) ≤ 1048576 := by omega
  clear hp hll hnl
  go_enter Try.func32, Try.ntmps32
  go_upto_region 1 with fail
  refine name_world fun V hV => ?_
  have HRB := hide (show Blk V w.heap.size 42 #[.int .i64 0, .int .i64 0, .slice none 0 0] by rw [← hV.out]; exact Blk.new w _ _)
  have HV := hide (show Below w.heap.size w V by rw [← hV.out]; exact below_alloc w _)
  have hgx := HRB.out.lt
  have HVV := hide (Below.refl V.heap.size V)
  clear hV
  go_wp2
  go_loopw [5, 4] (fun s5 s4 wr => ∃ k : Nat, k ≤ n ∧ s5 = .int .i64 (k : Int) ∧ s4 = .int .i64 ((Ce.wide (ls.take k) : Nat) : Int) ∧ Hid (∀ l ∈ ls.take k, Ce.valid l = true) ∧ Below V.heap.size V wr) (fun s5 _ _ => n - (intOf s5).toNat)
  case atStart => exact ⟨0, by omega, rfl, rfl, by simp [Hid], HVV.out⟩
  case round =>
    obtain ⟨k, hk, rfl, rfl, HG, hbel⟩ := hrel
    obtain ⟨wd, rfl⟩ : ∃ wd, wd = wr := ⟨wr, rfl⟩
    have HB := hide hbel
    have hwt := Ce.wide_le 1048576 (ls.take k) (fun l hl => HLL.out l (List.mem_of_mem_take hl))
    by_cases hlt : k < n
    · obtain ⟨ad, rfl, hkl, A', c', hc0, hc', hr⟩ := HP.out.row k hlt
      have HWD := hide (HV.out.trans (hbel.mono HV.out.size))
      have hc : wd.cell? (ad.add k) = some (.slice A' ls[k].length c') := by rw [HWD.out.cell (block_lt_of_cell hc0)]; exact hc0
      have hk0 : (0 : Int) ≤ (k : Int) := by omega
      have hk1 : (k : Int) < (n : Int) := by omega
      have HMEM := hide (List.getElem_mem hkl)
      have HT := hide (List.take_succ_eq_append_getElem hkl)
      have hlen := HLL.out _ HMEM.out
      have CV := hide (refValid_any A' ls[k].length c' ls[k] wd ((hr.below HWD.out).more HWD.out.size) (by omega))
      have HLT := hide hlt
      obtain ⟨l, hl⟩ : ∃ l, l = ls[k] := ⟨_, rfl⟩
      rw [← hl] at hc CV HMEM HT hlen
      clear hl hr hc0 hlt hbel
      cases hv : Ce.valid l with
      | false =>
        rw [hv] at CV
        have HF := hide (show Ce.unErr ls = 1 by unfold Ce.unErr; rw [Ce.allValid_bad HMEM.out hv]; rfl)
        have HF2 := hide (show Ce.unRast ls = ⟨0, 0, []⟩ by unfold Ce.unRast; rw [Ce.allValid_bad HMEM.out hv]; rfl)
        clear hv
        generalize Ce.wide (ls.take k) = m at *
        have HRW := hide (HRB.out.below HB.out hgx)
        go_wp2_with (first
          | (go_at_call 16; refine (unhide CV).mono ?_; rintro e w1 ⟨rfl, hb1⟩; have B1 := hide hb1; have HRX := hide (HRW.out.below hb1 HRW.out.lt); clear hb1)
          | (with_reducible refine wpList_store_rast rfl (.tmp 2) (.tmp 21) rfl w.heap.size _ _ _ (.int .i64 0) (.int .i64 0) (.slice none 0 0) rfl rfl HRX.out (by simp [Value.oneCell']) ?_; intro Y hY))
        exact bodyPost_ret (v := .tuple #[.agg #[.int .i64 0, .int .i64 0, .slice none 0 0], .int .i64 1]) (results_cell_tmp1 Try.results32 _ _ ⟨w.heap.size, 0, none⟩ _ rfl (load_rast (rast_put HRX.out hY))) rfl ⟨_, by rw [HF.out], by rw [HF2.out]; exact RastAt.nil _, below_row (HWD.out.trans (B1.out.mono HWD.out.size)) (Nat.le_refl _) hY⟩
      | true =>
        rw [hv] at CV
        have HG2 := hide (show ∀ x ∈ ls.take (k + 1), Ce.valid x = true by
          intro x hx
          rw [HT.out] at hx
          rcases List.mem_append.1 hx with hx | hx
          · exact HG.out x hx
          · simp at hx; subst hx; exact hv)
        have HW := hide (show Ce.wide (ls.take (k + 1)) = max (Ce.wide (ls.take k)) l.length by rw [HT.out, Ce.wide_snoc])
        clear hv
        generalize Ce.wide (ls.take k) = m at *
        generalize l.length = len at *
        have hm0 : (0 : Int) ≤ (m : Int) := by omega
        have hm1 : (m : Int) ≤ 1048576 := by omega
        have hl0 : (0 : Int) ≤ (len : Int) := by omega
        have hl1 : (len : Int) ≤ 1048576 := by omega
        go_wp2_with (go_at_call 16; refine (unhide CV).mono ?_; rintro e w1 ⟨rfl, hb1⟩; have B1 := hide hb1; have hc1 : w1.cell? (ad.add k) = some (.slice A' len c') := (by rw [hb1.cell (block_lt_of_cell hc)]; exact hc); clear hb1)
        exact ⟨⟨k + 1, HLT.out, by go_num, by rw [HW.out, Nat.max_def]; congr 1; split <;> split <;> omega, HG2, HB.out.trans (B1.out.mono HB.out.size)⟩, by have := HLT.out; simp [intOf]; omega⟩
    · obtain rfl : k = n := by omega
      have hall : Ce.allValid ls = true := Ce.allValid_ok (by have := HG.out; rwa [List.take_of_length_le (by have := HNL.out; omega)] at this)
      have hwd : ls.take k = ls := List.take_of_length_le (by have := HNL.out; omega)
      rw [hwd]
      have hwt := Ce.wide_le 1048576 ls HLL.out
      have hcp : Ce.canPage ls = Ce.can (2 * (Ce.wide ls : Int)) (3 * (k : Int)) := by unfold Ce.canPage; rw [← HNL.out]
      obtain ⟨m, hm⟩ : ∃ m, m = Ce.wide ls := ⟨_, rfl⟩
      rw [← hm] at hcp hwt
      rw [← hm]
      have hm0 : (0 : Int) ≤ (m : Int) := by omega
      have hm1 : (m : Int) ≤ 1048576 := by omega
      have hk0 : (0 : Int) ≤ (k : Int) := by omega
      have hnk : ¬ ((k : Int) < (k : Int)) := by omega
      have HM := hide hm
      have HRW := hide (HRB.out.below HB.out hgx)
      have hgs := HB.out.size
      obtain ⟨wd2, hwd2⟩ : ∃ q : Nat, q = 2 * m := ⟨_, rfl⟩
      obtain ⟨h3, hh3⟩ : ∃ q : Nat, q = 3 * k := ⟨_, rfl⟩
      have hwi : 2 * (m : Int) = (wd2 : Int) := by omega
      have hhi : 3 * (k : Int) = (h3 : Int) := by omega
      have hwb : (wd2 : Int) ≤ 2097152 := by omega
      have hhb : (h3 : Int) ≤ 3145728 := by omega
      have hw0 : (0 : Int) ≤ (wd2 : Int) := by omega
      have hh0 : (0 : Int) ≤ (h3 : Int) := by omega
      rw [hwi, hhi] at hcp
      have HWI := hide hwi
      have HHI := hide hhi
      clear hm hwd hlt hbel HG hwi hhi hwd2 hh3
      go_upto_region 9 with fail
      rw [HWI.out, HHI.out]
      refine name_world fun X hX => ?_
      have HX0 := hide (show Blk X wd.heap.size 42 #[.int .i64 (wd2 : Int), .int .i64 (h3 : Int), .slice none 0 0] by rw [← hX.out]; exact Blk.new wd _ _)
      have HXB := hide (show Below wd.heap.size wd X by rw [← hX.out]; exact below_alloc wd _)
      have HRX := hide (HRW.out.below HXB.out (Nat.lt_of_lt_of_le hgx hgs))
      have HWX := hide (HV.out.trans ((HB.out.trans (HXB.out.mono hgs)).mono (Nat.le_of_lt hgx)))
      have hxl := HX0.out.lt
      have hwg : w.heap.size < wd.heap.size := Nat.lt_of_lt_of_le hgx hgs
      have HPX := hide (HP.out.same HWX.out)
      clear hX
      have hc0 : X.cell? ⟨wd.heap.size, 0, none⟩ = some (.int .i64 (wd2 : Int)) := HX0.out.cell 0
      have hc1 : X.cell? ⟨wd.heap.size, 1, none⟩ = some (.int .i64 (h3 : Int)) := HX0.out.cell 1
      generalize wd.heap.size = g6 at *
      have HXX := hide (Below.refl g6 X)
      by_cases hcan : Ce.can (wd2 : Int) (h3 : Int) = true
      · rw [hcan] at hcp
        have hcc : 0 ≤ (wd2 : Int) ∧ 0 ≤ (h3 : Int) ∧ (wd2 : Int) ≤ 65536 ∧ (h3 : Int) ≤ 65536 ∧ (wd2 : Int) * (h3 : Int) ≤ 65536 := by unfold Ce.can at hcan; exact of_decide_eq_true hcan
        obtain ⟨_, _, hm6, hk6, hmk6⟩ := hcc
        obtain ⟨N, hN⟩ : ∃ N : Nat, N = h3 * wd2 := ⟨_, rfl⟩
        have hNi : (wd2 : Int) * (h3 : Int) = (N : Int) := by rw [hN, Int.natCast_mul, Int.mul_comm]
        have hN6 : N ≤ 65536 := by omega
        have hN6i : ¬ ((65536 : Int) < (N : Int)) := by omega
        have hwr : wrap64 ((wd2 : Int) * (h3 : Int)) = (N : Int) := by rw [hNi]; exact wrap64_in (by omega) (by omega)
        have hn1 : ¬ ((65536 : Int) < (wd2 : Int)) := by omega
        have hn2 : ¬ ((65536 : Int) < (h3 : Int)) := by omega
        have HF := hide (show Ce.unErr ls = 0 by unfold Ce.unErr; rw [hall, hcp]; rfl)
        have HF2 := hide (show Ce.unRast ls = ⟨wd2, h3, Ce.unBits ls wd2 h3⟩ by
          have hwd2 : wd2 = 2 * m := by have := HWI.out; omega
          have hh3 : h3 = 3 * k := by have := HHI.out; omega
          unfold Ce.unRast; rw [hall, hcp, hwd2, hh3, HM.out, HNL.out]; rfl)
        have HNN := hide hN
        have HH3 := hide (show h3 = 3 * k by have := HHI.out; omega)
        have HR0 := hide (World.ownsRow_nil X (g6 + 1) 4 1)
        clear hall hcp hcan hmk6 hNi hN
        go_upto_region 11 with fail
        clear hwr hc0 hc1 hN6i hn1 hn2
        go_wp2
        go_loopw [7] (fun s7 wr => ∃ (y q : Nat) (v : Value), y ≤ h3 ∧ q = y * wd2 ∧ s7 = .int .i64 (y : Int) ∧ Blk wr g6 42 #[.int .i64 (wd2 : Int), .int .i64 (h3 : Int), v] ∧ wr.ownsRow (g6 + 1) 4 1 v q (((List.range q).map fun i => Ce.unBit ls (i % wd2) (i / wd2)).map Value.bool) ∧ Below g6 X wr) (fun s7 _ => h3 - (intOf s7).toNat)
        case atStart => exact ⟨0, 0, .slice none 0 0, by omega, by omega, rfl, HX0.out, HR0.out, HXX.out⟩
        case round =>
          obtain ⟨y, q, v, hy, hq, rfl, hblk, hown, hbel⟩ := hrel
          obtain ⟨we, rfl⟩ : ∃ we, we = wr := ⟨wr, rfl⟩
          have HBK := hide hblk
          have HOW := hide hown
          have HBE := hide hbel
          have HQ := hide hq
          have hc0 : we.cell? ⟨g6, 0, none⟩ = some (.int .i64 (wd2 : Int)) := hblk.cell 0
          have hc1 : we.cell? ⟨g6, 1, none⟩ = some (.int .i64 (h3 : Int)) := hblk.cell 1
          by_cases hlt : y < h3
          · have HLT := hide hlt
            have hy0 : (0 : Int) ≤ (y : Int) := by omega
            have hy1 : (y : Int) < (h3 : Int) := by omega
            clear hblk hown hbel hlt hq hy
            go_upto_region 15 with fail
            go_loopw [8] (fun s8 wr => ∃ (x q1 : Nat) (v : Value), x ≤ wd2 ∧ q1 = y * wd2 + x ∧ s8 = .int .i64 (x : Int) ∧ Blk wr g6 42 #[.int .i64 (wd2 : Int), .int .i64 (h3 : Int), v] ∧ wr.ownsRow (g6 + 1) 4 1 v q1 (((List.range q1).map fun i => Ce.unBit ls (i % wd2) (i / wd2)).map Value.bool) ∧ Below g6 X wr) (fun s8 _ => wd2 - (intOf s8).toNat)
            case atStart => exact ⟨0, q, v, by omega, by rw [HQ.out]; rfl, rfl, HBK.out, HOW.out, HBE.out⟩
            case round =>
              clear hc0 hc1 HBK HOW HBE
              obtain ⟨x, q1, v, hx, hq1, rfl, hblk, hown, hbel⟩ := hrel
              obtain ⟨wf, rfl⟩ : ∃ wf, wf = wr := ⟨wr, rfl⟩
              have HBK := hide hblk
              have HOW := hide hown
              have HBE := hide hbel
              have HQ1 := hide hq1
              have hc0 : wf.cell? ⟨g6, 0, none⟩ = some (.int .i64 (wd2 : Int)) := hblk.cell 0
              by_cases hlt : x < wd2
              · have HLX := hide hlt
                have hx0 : (0 : Int) ≤ (x : Int) := by omega
                have hx1 : (x : Int) < (wd2 : Int) := by omega
                have hc2 : wf.cell? ⟨g6, 2, none⟩ = some v := hblk.cell 2
                have hq6 : q1 ≤ 65536 := by
                  have h := Nat.mul_le_mul_right wd2 (show y + 1 ≤ h3 from HLT.out)
                  rw [← HNN.out, Nat.add_mul, Nat.one_mul] at h
                  omega
                obtain ⟨yq, hyq⟩ : ∃ yq, yq = y / 3 := ⟨_, rfl⟩
                obtain ⟨xq, hxq⟩ : ∃ xq, xq = x / 2 := ⟨_, rfl⟩
                obtain ⟨yr, hyr⟩ : ∃ yr, yr = y % 3 := ⟨_, rfl⟩
                obtain ⟨xr, hxr⟩ : ∃ xr, xr = x % 2 := ⟨_, rfl⟩
                have e1 : Int.tdiv (y : Int) 3 = (yq : Int) := by rw [Int.tdiv_eq_ediv_of_nonneg (by omega)]; omega
                have e1w : IntKind.i64.wrap (yq : Int) = (yq : Int) := wrap_small _ (by omega)
                have e2 : Int.tdiv (x : Int) 2 = (xq : Int) := by rw [Int.tdiv_eq_ediv_of_nonneg (by omega)]; omega
                have e2w : IntKind.i64.wrap (xq : Int) = (xq : Int) := wrap_small _ (by omega)
                have e3 : Int.tmod (y : Int) 3 = (yr : Int) := by rw [Int.tmod_eq_emod_of_nonneg (by omega)]; omega
                have e4 : IntKind.i64.wrap (1 + (yr : Int)) = 1 + (yr : Int) := by rw [IntWalk.i64_in _ (by omega)]
                have e5 : Int.tmod (x : Int) 2 = (xr : Int) := by rw [Int.tmod_eq_emod_of_nonneg (by omega)]; omega
                have e6 : IntKind.i64.wrap (3 * (xr : Int)) = 3 * (xr : Int) := by rw [IntWalk.i64_in _ (by omega)]
                have e7 : IntKind.i64.wrap (1 + (yr : Int) + 3 * (xr : Int)) = 1 + (yr : Int) + 3 * (xr : Int) := by rw [IntWalk.i64_in _ (by omega)]
                obtain ⟨b, hb⟩ : ∃ b, b = Ce.unBit ls x y := ⟨_, rfl⟩
                have hwb := HWX.out.trans (hbel.mono (Nat.le_of_lt hwg))
                have CH := hide (fun W' => (show Calls Try.prog 41 #[.int .u8 ((Ce.cellAt ls yq xq : Nat) : Int), .int .i64 (1 + (yr : Int) + 3 * (xr : Int))] W' fun e w' => e = .returned (.bool b) ∧ W' = w' by
                  have h := has_any ((ls.getD yq []).getD xq 0) (yr + xr * 3) W' (by omega)
                  rw [show 1 + (yr : Int) + 3 * (xr : Int) = 1 + ((yr + xr * 3 : Nat) : Int) by omega, hb]
                  unfold Ce.unBit
                  rw [← hyq, ← hxq, ← hyr, ← hxr]
                  exact h))
                have CCI := hide (refCell_any A k c ls wf.drew (HP.out.same hwb.drew) yq xq)
                have CCJ := hide (refCell_any A k c ls wf (HP.out.same hwb) yq xq)
                generalize Ce.cellAt ls yq xq = cv at *
                have hnx : ((List.range q1).map fun i => Ce.unBit ls (i % wd2) (i / wd2)) ++ [b] = (List.range (q1 + 1)).map fun i => Ce.unBit ls (i % wd2) (i / wd2) := by rw [hb]; exact (unBits_part ls wd2 x y q1 hlt hq1).symm
                have hwg6 := hblk.lt
                obtain ⟨v2, w2, hap, hown2, hgrow2, hat2⟩ := append_bool (wf.alloc (.cells #[.bool b] 4)).drew (g6 + 1) q1 v _ b (hown.alloc _) ⟨wf.heap.size, 0, none⟩ (reads_new wf _ _) (by omega) (by show g6 + 1 ≤ (wf.alloc _).heap.size; simp; omega)
                rw [hnx] at hown2
                obtain ⟨A2, c2, rfl, _, _⟩ := own_slice hown2
                have hok := apOk_of hap
                have hre := apRes_of hap
                clear hap
                have hblk2 := Blk.grown ((hblk.alloc (.cells #[.bool b] 4)).drew) hgrow2 (fun e => own_lt hown (Nat.lt_succ_self g6) e.symm)
                have ha2 : (wf.alloc (.cells #[.bool b] 4)).cell? ⟨g6, 2, none⟩ = some v := (hblk.alloc _).cell 2
                have hw2 : w2.cell? ⟨g6, 2, none⟩ = some v := hblk2.cell 2
                have hf2 := hblk2.frozen 2
                have HB2 := hide (hblk2.set_ 2 (.slice A2 (q1 + 1) c2))
                have HO2 := hide (own_setFar hown2 (p := ⟨g6, 2, none⟩) (Nat.lt_succ_self g6) (.slice A2 (q1 + 1) c2))
                have HBE2 := hide (((((hbel.alloc (Nat.le_of_lt hwg6) (.cells #[.bool b] 4)).drew).grown hgrow2 (by show g6 ≤ (wf.alloc _).heap.size; simp; omega) (fun g e => by
                  have := own_lt hown (Nat.lt_succ_self g6)
                  rcases hown.2 with ⟨h1, _⟩ | ⟨g', cap, cur, h1, h2, _⟩
                  · rw [h1] at e; simp [Value.ownBlock] at e
                  · rw [h1] at e
                    have : g' = g := by simpa [Value.ownBlock] using e
                    omega)).setCell (p := ⟨g6, 2, none⟩) (Nat.le_refl _) (.slice A2 (q1 + 1) c2)))
                clear hblk hown hbel hlt hyq hxq hyr hxr hb hwb hnx hown2 hgrow2 hat2 hblk2 hq1 hx hq6 HBK HOW HBE
                go_upto_region 17 with fail
                go_region_with (first
                  | (go_at_call 50; (with_reducible refine (unhide CCI).mono ?_); rintro e w1 ⟨rfl, rfl⟩)
                  | (go_at_call 50; (with_reducible refine (unhide CCJ).mono ?_); rintro e w1 ⟨rfl, rfl⟩)
                  | (go_at_call 41; (with_reducible refine (unhide CH _).mono ?_); rintro e w1 ⟨rfl, rfl⟩))
                all_goals
                  go_wp2
                  exact ⟨⟨x + 1, q1 + 1, .slice A2 (q1 + 1) c2, HLX.out, by have := HQ1.out; omega, by go_num, HB2.out, HO2.out, HBE2.out⟩, by have := HLX.out; simp [intOf]; omega⟩
              · obtain rfl : x = wd2 := by omega
                have hnt : ¬ ((x : Int) < (x : Int)) := by omega
                clear hblk hown hbel hlt hq1 hx
                go_wp2
                exact ⟨⟨y + 1, q1, v, HLT.out, by rw [HQ1.out, Nat.add_mul, Nat.one_mul], by go_num, HBK.out, HOW.out, HBE.out⟩, by have := HLT.out; simp [intOf]; omega⟩
          · obtain rfl : y = h3 := by omega
            have hnt : ¬ ((y : Int) < (y : Int)) := by omega
            obtain ⟨A2, c2, rfl, hcc, _⟩ := own_slice hown
            have HRZ := hide (HRX.out.below hbel hwg)
            have HWE := hide (HWX.out.trans (hbel.mono (Nat.le_of_lt hwg)))
            have hc2 : we.cell? ⟨g6, 2, none⟩ = some (.slice A2 q c2) := hblk.cell 2
            clear hblk hown hbel hlt hq hy HBE
            go_wp2_with (with_reducible refine wpList_store_rast rfl (.tmp 2) (.tmp 83) rfl w.heap.size _ _ _ (.int .i64 (wd2 : Int)) (.int .i64 (y : Int)) (.slice A2 q c2) rfl rfl HRZ.out (by simp [Value.oneCell']) ?_; intro Z hZ)
            have HZ := hide (below_row HWE.out (Nat.le_refl _) hZ)
            have HOZ2 := own_rowFar HOW.out (Nat.lt_succ_of_lt hwg) hZ
            exact bodyPost_ret (v := .tuple #[.agg #[.int .i64 (wd2 : Int), .int .i64 (y : Int), .slice A2 q c2], .int .i64 0]) (results_cell_tmp1 Try.results32 _ _ ⟨w.heap.size, 0, none⟩ _ rfl (load_rast (rast_put HRZ.out hZ))) rfl ⟨_, by rw [HF.out], by
              rw [HF2.out]
              refine ⟨A2, q, c2, rfl, hcc, ?_⟩
              have := Reads.of_own HOZ2
              unfold Ce.unBits
              rw [Nat.mul_comm wd2 y, ← HQ.out]
              exact this, HZ.out⟩
      · rw [Bool.not_eq_true] at hcan
        rw [hcan] at hcp
        have HF := hide (show Ce.unErr ls = 4 by unfold Ce.unErr; rw [hall, hcp]; rfl)
        have HF2 := hide (show Ce.unRast ls = ⟨0, 0, []⟩ by unfold Ce.unRast; rw [hall, hcp]; rfl)
        have hno : ¬ (0 ≤ (wd2 : Int) ∧ 0 ≤ (h3 : Int) ∧ (wd2 : Int) ≤ 65536 ∧ (h3 : Int) ≤ 65536 ∧ (wd2 : Int) * (h3 : Int) ≤ 65536) := by unfold Ce.can at hcan; exact of_decide_eq_false hcan
        clear hall hcp hcan
        by_cases a1 : (65536 : Int) < (wd2 : Int)
        · clear hno
          go_wp2_with (with_reducible refine wpList_store_rast rfl (.tmp 2) (.tmp 51) rfl w.heap.size _ _ _ (.int .i64 0) (.int .i64 0) (.slice none 0 0) rfl rfl HRX.out (by simp [Value.oneCell']) ?_; intro Z hZ)
          exact bodyPost_ret (v := .tuple #[.agg #[.int .i64 0, .int .i64 0, .slice none 0 0], .int .i64 4]) (results_cell_tmp1 Try.results32 _ _ ⟨w.heap.size, 0, none⟩ _ rfl (load_rast (rast_put HRX.out hZ))) rfl ⟨_, by rw [HF.out], by rw [HF2.out]; exact RastAt.nil _, below_row HWX.out (Nat.le_refl _) hZ⟩
        · by_cases a2 : (65536 : Int) < (h3 : Int)
          · clear hno
            go_wp2_with (with_reducible refine wpList_store_rast rfl (.tmp 2) (.tmp 51) rfl w.heap.size _ _ _ (.int .i64 0) (.int .i64 0) (.slice none 0 0) rfl rfl HRX.out (by simp [Value.oneCell']) ?_; intro Z hZ)
            exact bodyPost_ret (v := .tuple #[.agg #[.int .i64 0, .int .i64 0, .slice none 0 0], .int .i64 4]) (results_cell_tmp1 Try.results32 _ _ ⟨w.heap.size, 0, none⟩ _ rfl (load_rast (rast_put HRX.out hZ))) rfl ⟨_, by rw [HF.out], by rw [HF2.out]; exact RastAt.nil _, below_row HWX.out (Nat.le_refl _) hZ⟩
          · obtain ⟨q0, q1⟩ := mul_small hw0 hh0 (show (wd2 : Int) ≤ 65536 by omega) (show (h3 : Int) ≤ 65536 by omega)
            obtain ⟨P, hP⟩ : ∃ P, P = (wd2 : Int) * (h3 : Int) := ⟨_, rfl⟩
            rw [← hP] at q0 q1 hno
            have a3 : (65536 : Int) < P := by
              apply Classical.byContradiction
              intro h
              exact hno ⟨hw0, hh0, by omega, by omega, by omega⟩
            have hwr : wrap64 ((wd2 : Int) * (h3 : Int)) = P := by rw [← hP]; exact wrap64_in (by omega) (by omega)
            clear hno hP
            go_wp2_with (with_reducible refine wpList_store_rast rfl (.tmp 2) (.tmp 51) rfl w.heap.size _ _ _ (.int .i64 0) (.int .i64 0) (.slice none 0 0) rfl rfl HRX.out (by simp [Value.oneCell']) ?_; intro Z hZ)
            exact bodyPost_ret (v := .tuple #[.agg #[.int .i64 0, .int .i64 0, .slice none 0 0], .int .i64 4]) (results_cell_tmp1 Try.results32 _ _ ⟨w.heap.size, 0, none⟩ _ rfl (load_rast (rast_put HRX.out hZ))) rfl ⟨_, by rw [HF.out], by rw [HF2.out]; exact RastAt.nil _, below_row HWX.out (Nat.le_refl _) hZ⟩
end Go.Proofs.Ytedgjpoejoepjab
