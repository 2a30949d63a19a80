/-
  Cells: Pack of the reference, by contract.
-/
import Derived.Test.YtedgjpoejoepjabRefPackD
namespace Go.Proofs.Ytedgjpoejoepjab
open Go.RowKit
set_option linter.unusedVariables false
set_option linter.unusedSimpArgs false

theorem wpList_append_line {ops : Array Oper} {rest : List Oper} {o : Oper} {a : Act} {Q : Exit → Act → World → Prop} (W : World) (hgd : o.guard = none) (s x : Operand) (t : TypeId) (ht : t = 47)
    (ho : o.op = .call { callee := .builtin .append, args := #[s, x], argTypes := #[t, t] }) (hot : o.type = 47)
    (base : Nat) (v : Value) (ls : List (List UInt8)) (l : List UInt8) (u : Value) (hs : a.eval s = v) (hp : PgOwn W base v ls) (hl : W.ownsRow base 5 1 u l.length (BV l)) (A : Addr) (hx : a.eval x = .slice (some A) 1 1) (hr : Reads W W.heap.size 1 (some A) 1 [u]) (hn : ls.length ≤ 1048576) (hb : base ≤ W.heap.size) (hu : u.oneCell' = true)
    (h : ∀ v' w', PgOwn w' base v' (ls ++ [l]) → W.grownBy w' v.ownBlock → wpList Try.prog ops Q rest (a.put o.dst v') w') : wpList Try.prog ops Q (o :: rest) a W := by
  subst ht
  refine wpList_plain hgd fun _ hK => ?_
  obtain ⟨v', w', hrun, h2, h3⟩ := append_line W base v ls l u hp hl A hr hn hb hu
  unfold Oper.wp execOp
  simp only [ho, hot, resolve, invoke, builtin, Sem.run_bind, Sem.run_pure, Result.andThen_ok, List.map_toArray, List.map_cons, List.map_nil, hs, hx, hrun]
  exact hK _ _ (h v' w' h2 h3)
theorem PgOwn.below_grown {base : Nat} {w w' : World} {v : Value} {ls : List (List UInt8)} (hp : PgOwn w base v ls) (h : w.grownBy w' v.ownBlock) (hb : base ≤ w.heap.size) : Below base w w' := by
  obtain ⟨vs, h1, _⟩ := hp
  exact Go.Proofs.Ytedgjpoejoepjab.below_grown h h1 hb
namespace Ce
def dotF (W H : Nat) (bits : List Bool) (i j : Nat) (d : Nat) : Bool := bitTo W H bits (W * H) (2 * j + d / 3) (3 * i + d % 3)
theorem packTo_dotF (W H : Nat) (bits : List Bool) (i j : Nat) : packTo W H bits (W * H) i j = cellOf (dotF W H bits i j) := rfl
def part (W H : Nat) (bits : List Bool) (i j : Nat) : List UInt8 := (List.range j).map fun j => UInt8.ofNat (packTo W H bits (W * H) i j)
def lines (W H : Nat) (bits : List Bool) (i : Nat) : List (List UInt8) := (List.range i).map fun i => rowTo W H bits (W * H) i
theorem part_len (W H : Nat) (bits : List Bool) (i j : Nat) : (part W H bits i j).length = j := by simp [part]
theorem lines_len (W H : Nat) (bits : List Bool) (i : Nat) : (lines W H bits i).length = i := by simp [lines]
theorem part_next (W H : Nat) (bits : List Bool) (i j : Nat) : part W H bits i (j + 1) = part W H bits i j ++ [UInt8.ofNat (packTo W H bits (W * H) i j)] := by
  unfold part; rw [List.range_succ, List.map_append]; rfl
theorem lines_next (W H : Nat) (bits : List Bool) (i : Nat) : lines W H bits (i + 1) = lines W H bits i ++ [rowTo W H bits (W * H) i] := by
  unfold lines; rw [List.range_succ, List.map_append]; rfl
end Ce

set_option maxHeartbeats 4000000 in
set_option maxRecDepth 100000 in
theorem refPack_any (A : Option Addr) (n c W H : Nat) (bits : List Bool) (w : World) (hr : Reads w w.heap.size 1 A n (bits.map Value.bool)) (hn : n = W * H) (hW : W ≤ 65536) (hH : H ≤ 65536) (hn6 : n ≤ 65536) :
    Calls Try.prog 27 #[.agg #[.int .i64 (W : Int), .int .i64 (H : Int), .slice A n c]] w fun e w' => ∃ A' c', e = .returned (.tuple #[.slice A' ((H + 2) / 3) c', .int .i64 0]) ∧ (H + 2) / 3 ≤ c' ∧ Pg w' w'.heap.size A' ((H + 2) / 3) (Ce.pack W H bits) ∧ Below w.heap.size w w' := by
  obtain ⟨i0, hi, hz0, hz1, hz2⟩ := info_parts intInfo
  have HI := hide hi
  have HZ0 := hide hz0
  have HZ1 := hide hz1
  have HZ2 := hide hz2
  obtain ⟨i1, hi', hy0, hy1, hy2⟩ := info_parts byteInfo
  have HI1 := hide hi'
  have HY0 := hide hy0
  have HY1 := hide hy1
  have HY2 := hide hy2
  clear hi hz0 hz1 hz2 hi' hy0 hy1 hy2
  have hmulN : (W : Int) * (H : Int) = (n : Int) := by rw [hn]; exact (Int.natCast_mul _ _).symm
  have hprop : Ce.proper (W : Int) (H : Int) n = true := by
    unfold Ce.proper Ce.can
    rw [hmulN, decide_eq_true (show 0 ≤ (W : Int) ∧ 0 ≤ (H : Int) ∧ (W : Int) ≤ 65536 ∧ (H : Int) ≤ 65536 ∧ (n : Int) ≤ 65536 from ⟨by omega, by omega, by omega, by omega, by omega⟩)]
    simp
  have CP := hide (fun W' => proper_any A n c (W : Int) (H : Int) W' (by omega))
  rw [hprop] at CP
  have CD := hide (fun (W' : World) (hb : Below w.heap.size w W') (x y : Nat) => dot_any A n c W H bits W' ((hr.below hb).more hb.size) hn hW hH hn6 x y)
  have hWi : (W : Int) ≤ 65536 := by omega
  have hHi : (H : Int) ≤ 65536 := by omega
  have HN := hide hn
  clear hr hn hmulN hprop
  go_enter Try.func27, Try.ntmps27
  go_upto_region 1 with fail
  refine name_world fun V hV => ?_
  have HBX := hide (show Blk V w.heap.size 42 #[.int .i64 (W : Int), .int .i64 (H : Int), .slice A n c] by rw [← hV.out]; exact Blk.new w _ _)
  have HV := hide (show Below w.heap.size w V by rw [← hV.out]; exact below_alloc w _)
  have hgx := HBX.out.lt
  clear hV
  have hc0 : V.cell? ⟨w.heap.size, 0, none⟩ = some (.int .i64 (W : Int)) := HBX.out.cell 0
  have hc1 : V.cell? ⟨w.heap.size, 1, none⟩ = some (.int .i64 (H : Int)) := HBX.out.cell 1
  have hc2 : V.cell? ⟨w.heap.size, 2, none⟩ = some (.slice A n c) := HBX.out.cell 2
  go_upto_region 3 with (go_at_call 47; refine (CP.out _).mono ?_; rintro e w1 ⟨rfl, hb1⟩; have HB1 := hide hb1; clear hb1)
  clear hc0 hc1 hc2 CP
  have hP0 := hide (PgOwn.nil w1 V.heap.size)
  go_wp2
  go_loopw [5, 4] (fun s5 s4 wr => ∃ i y : Nat, y = 3 * i ∧ i ≤ (H + 2) / 3 ∧ s5 = .int .i64 (y : Int) ∧ PgOwn wr V.heap.size s4 (Ce.lines W H bits i) ∧ Below V.heap.size V wr) (fun s5 _ _ => H - (intOf s5).toNat)
  case atStart => exact ⟨0, 0, rfl, by omega, rfl, hP0.out, HB1.out⟩
  case round =>
    obtain ⟨i, y, hy, hi, rfl, hpg, hbel⟩ := hrel
    obtain ⟨wd, rfl⟩ : ∃ wd, wd = wr := ⟨wr, rfl⟩
    have HPG := hide hpg
    have HB := hide hbel
    have hds := hbel.size
    have HY := hide hy
    have HIL := hide hi
    have hc0 : wd.cell? ⟨w.heap.size, 0, none⟩ = some (.int .i64 (W : Int)) := by rw [(HBX.out.below hbel hgx).cell]; rfl
    have hc1 : wd.cell? ⟨w.heap.size, 1, none⟩ = some (.int .i64 (H : Int)) := by rw [(HBX.out.below hbel hgx).cell]; rfl
    by_cases hlt : y < H
    · have HLT := hide hlt
      have hy1 : (y : Int) < (H : Int) := by omega
      have hy0 : (0 : Int) ≤ (y : Int) := by omega
      have hR0 := hide (World.ownsRow_nil wd wd.heap.size 5 1)
      have HDD := hide (Below.refl wd.heap.size wd)
      clear hpg hbel hlt hy hi
      go_upto_region 9 with fail
      go_loopw [7, 6] (fun s7 s6 wr => ∃ j x : Nat, x = 2 * j ∧ j ≤ (W + 1) / 2 ∧ s7 = .int .i64 (x : Int) ∧ wr.ownsRow wd.heap.size 5 1 s6 j (BV (Ce.part W H bits i j)) ∧ Below wd.heap.size wd wr) (fun s7 _ _ => W - (intOf s7).toNat)
      case atStart => exact ⟨0, 0, rfl, by omega, rfl, hR0.out, HDD.out⟩
      case round =>
        clear hc0 hc1
        obtain ⟨j, x, hx, hj, rfl, hown, hbel⟩ := hrel
        obtain ⟨we, rfl⟩ : ∃ we, we = wr := ⟨wr, rfl⟩
        have HO := hide hown
        have HE := hide hbel
        have hes := hbel.size
        have HX := hide hx
        have HJ := hide hj
        have HVE := hide (HB.out.trans (hbel.mono hds))
        have hc0 : we.cell? ⟨w.heap.size, 0, none⟩ = some (.int .i64 (W : Int)) := by rw [(HBX.out.below HVE.out hgx).cell]; rfl
        by_cases hlt : x < W
        · have HLX := hide hlt
          have hx1 : (x : Int) < (W : Int) := by omega
          have hx0 : (0 : Int) ≤ (x : Int) := by omega
          have HEE := hide (Below.refl we.heap.size we)
          have hR1 := hide (World.ownsRow_nil we we.heap.size 3 1)
          clear hown hbel hlt hx hj
          go_upto_region 13 with fail
          go_loopw [9, 8] (fun s9 s8 wr => ∃ k : Nat, k ≤ 6 ∧ s9 = .int .i64 (k : Int) ∧ wr.ownsRow we.heap.size 3 1 s8 (Ce.dotsOf (Ce.dotF W H bits i j) k).length ((Ce.dotsOf (Ce.dotF W H bits i j) k).map (Value.int .i64)) ∧ Below we.heap.size we wr) (fun s9 _ _ => 6 - (intOf s9).toNat)
          case atStart => exact ⟨0, by omega, rfl, hR1.out, HEE.out⟩
          case round =>
            clear hc0
            obtain ⟨k, hk, rfl, hown, hbel⟩ := hrel
            obtain ⟨wf, rfl⟩ : ∃ wf, wf = wr := ⟨wr, rfl⟩
            have HOK := hide hown
            have HF := hide hbel
            have hfs := hbel.size
            have HVF := hide (HVE.out.trans (hbel.mono (Nat.le_trans hds hes)))
            have HWF := hide (HV.out.trans (HVF.out.mono (Nat.le_of_lt hgx)))
            by_cases hlt : k < 6
            · have HLK := hide hlt
              have hk1 : (k : Int) < 6 := by omega
              have hk0 : (0 : Int) ≤ (k : Int) := by omega
              obtain ⟨kq, hkq⟩ : ∃ kq, kq = k / 3 := ⟨_, rfl⟩
              obtain ⟨kr, hkr⟩ : ∃ kr, kr = k % 3 := ⟨_, rfl⟩
              have hq : (k : Int) / 3 = (kq : Int) := by omega
              have hrm : (k : Int) % 3 = (kr : Int) := by omega
              have hq1 : (kq : Int) ≤ 2 := by omega
              have hr1 : (kr : Int) ≤ 2 := by omega
              have hq0 : (0 : Int) ≤ (kq : Int) := by omega
              have hr0 : (0 : Int) ≤ (kr : Int) := by omega
              have hc0 : wf.cell? ⟨w.heap.size, 0, none⟩ = some (.int .i64 (W : Int)) := by rw [(HBX.out.below HVF.out hgx).cell]; rfl
              have hc1 : wf.cell? ⟨w.heap.size, 1, none⟩ = some (.int .i64 (H : Int)) := by rw [(HBX.out.below HVF.out hgx).cell]; rfl
              have hc2 : wf.cell? ⟨w.heap.size, 2, none⟩ = some (.slice A n c) := by rw [(HBX.out.below HVF.out hgx).cell]; rfl
              have CK := hide (unhide CD wf HWF.out (x + kq) (y + kr))
              rw [Int.natCast_add, Int.natCast_add, show Ce.bitTo W H bits (W * H) (x + kq) (y + kr) = Ce.dotF W H bits i j k by unfold Ce.dotF; rw [hkq, hkr, HX.out, HY.out]] at CK
              have hdl := Ce.dotsOf_len (Ce.dotF W H bits i j) k
              clear hown hbel hlt hkq hkr hk
              cases hb : Ce.dotF W H bits i j k with
              | false =>
                have HNX := hide (Ce.dotsOf_off _ _ hb)
                rw [hb] at CK
                clear hb
                go_wp2_with (go_at_call 48; refine (unhide CK).mono ?_; rintro e x1 ⟨rfl, hb1⟩; have X1 := hide hb1; clear hb1)
                exact ⟨⟨k + 1, HLK.out, by go_num, by rw [HNX.out]; exact own_under HOK.out X1.out, HF.out.trans (X1.out.mono hfs)⟩, by have := HLK.out; simp [intOf]; omega⟩
              | true =>
                have HNX := hide (Ce.dotsOf_on _ _ hb)
                rw [hb] at CK
                clear hb
                generalize hdd : Ce.dotsOf (Ce.dotF W H bits i j) k = dd at *
                have HDD2 := hide hdd
                clear hdd
                go_wp2_with (first
                  | (go_at_call 48; refine (unhide CK).mono ?_; rintro e x1 ⟨rfl, hb1⟩; have X1 := hide hb1; have hx1s := hb1.size; have HO1 := hide (own_under HOK.out hb1); clear hb1)
                  | (at_builtin; refine wpList_append_any _ rfl (.tmp 41) (.tmp 44) 22 rfl we.heap.size 3 i0 (.int .i64 0) 1 8 Try.underlying22 HI.out HZ0.out HZ1.out HZ2.out rfl (by omega) _ dd.length _ rfl (HO1.out.alloc _) _ (some ⟨x1.heap.size, 0, none⟩) 1 1 [.int .i64 ((k : Int) + 1)] rfl (reads_new x1 _ _) (by simp [Value.oneCell']) (by unfold maxLen; omega) (by omega) (by simp; omega) ?_; intro v2 w2 hown2 hgrow2 hat2; have HO2 := hide hown2; have HB2 := hide (HF.out.trans (((X1.out.mono hfs).trans (below_alloc' x1 _ (Nat.le_trans hfs hx1s))).trans (below_grown hgrow2 (HO1.out.alloc _) (by simp; omega)))); clear hown2 hgrow2 hat2))
                exact ⟨⟨k + 1, HLK.out, by go_num, by rw [HNX.out, List.length_append, List.map_append]; exact HO2.out, HB2.out⟩, by have := HLK.out; simp [intOf]; omega⟩
            · obtain rfl : k = 6 := by omega
              rw [show ((6 : Nat) : Int) = 6 from rfl]
              obtain ⟨A8, c8, rfl, hc8, _⟩ := own_slice hown
              have hdl := Ce.dotsOf_len (Ce.dotF W H bits i j) 6
              have CO := refOf_any A8 _ c8 (Ce.dotsOf (Ce.dotF W H bits i j) 6) wf (Reads.of_own hown) (by omega)
              rw [Ce.of_dotsOf] at CO
              dsimp only at CO
              have HCO := hide CO
              have hcv := Ce.cellOf_lt (Ce.dotF W H bits i j)
              have HNX := hide (show BV (Ce.part W H bits i (j + 1)) = BV (Ce.part W H bits i j) ++ [.int .u8 ((Ce.cellOf (Ce.dotF W H bits i j) : Nat) : Int)] by
                rw [Ce.part_next, Ce.packTo_dotF, BV_append]
                congr 1
                show [Value.int .u8 (((UInt8.ofNat (Ce.cellOf (Ce.dotF W H bits i j))).toNat : Nat) : Int)] = _
                rw [UInt8.toNat_ofNat_of_lt' (by show _ < 256; omega)])
              have hjw : j ≤ 65536 := by have := HJ.out; omega
              generalize Ce.cellOf (Ce.dotF W H bits i j) = cv at *
              generalize Ce.dotsOf (Ce.dotF W H bits i j) 6 = dd at *
              clear hown hbel hlt CO hk
              go_wp2_with (first
                | (go_at_call 8; refine (unhide HCO).mono ?_; rintro e x1 ⟨rfl, hb1⟩; have X1 := hide (HF.out.trans (hb1.mono hfs)); have hx1s := X1.out.size; have HO1 := hide (own_under HO.out X1.out); clear hb1)
                | (at_builtin; refine wpList_append_any _ rfl (.tmp 51) (.tmp 53) 23 rfl wd.heap.size 5 i1 (.int .u8 0) 1 1 Try.underlying23 HI1.out HY0.out HY1.out HY2.out rfl (by omega) _ j _ rfl (HO1.out.alloc _) _ (some ⟨x1.heap.size, 0, none⟩) 1 1 [.int .u8 (cv : Int)] rfl (reads_new x1 _ _) (by simp [Value.oneCell']) (by unfold maxLen; omega) (by omega) (by simp; omega) ?_; intro v2 w2 hown2 hgrow2 hat2; have HO2 := hide hown2; have HB2 := hide (HE.out.trans (((X1.out.mono hes).trans (below_alloc' x1 _ (Nat.le_trans hes hx1s))).trans (below_grown hgrow2 (HO1.out.alloc _) (by simp; omega)))); clear hown2 hgrow2 hat2))
              exact ⟨⟨j + 1, x + 2, by have := HX.out; omega, by have := HX.out; have := HLX.out; omega, by go_num, by rw [HNX.out]; exact HO2.out, HB2.out⟩, by have := HLX.out; simp [intOf]; omega⟩
        · have hx1 : ¬ ((x : Int) < (W : Int)) := by omega
          obtain rfl : j = (W + 1) / 2 := by omega
          obtain ⟨A6, c6, rfl, hc6, _⟩ := own_slice hown
          have HR6 := hide (show we.ownsRow V.heap.size 5 1 (.slice A6 ((W + 1) / 2) c6) (Ce.rowTo W H bits (W * H) i).length (BV (Ce.rowTo W H bits (W * H) i)) by
            rw [Ce.rowTo_len]; exact own_lower hown hds)
          have HPE := hide (HPG.out.below hbel)
          have hil : i ≤ 65536 := by have := HIL.out; omega
          have HNX := hide (Ce.lines_next W H bits i)
          have hll := Ce.lines_len W H bits i
          have hves := HVE.out.size
          generalize Ce.rowTo W H bits (W * H) i = row at *
          generalize hlls : Ce.lines W H bits i = lns at *
          have HLLS := hide hlls
          clear hown hbel hlt hx hj hlls
          go_wp2_with (at_builtin; refine wpList_append_line _ rfl (.tmp 55) (.tmp 57) 47 rfl rfl rfl V.heap.size _ lns row _ rfl (HPE.out.below (below_alloc we _)) (HR6.out.alloc _) ⟨we.heap.size, 0, none⟩ rfl (reads_new we _ _) (by omega) (by simp; omega) (by simp [Value.oneCell']) ?_; intro v2 w2 hpg2 hgrow2; have HP2 := hide hpg2; have HB2 := hide (HVE.out.trans ((below_alloc' we _ hves).trans ((HPE.out.below (below_alloc we _)).below_grown hgrow2 (by simp; omega)))); clear hpg2 hgrow2)
          exact ⟨⟨i + 1, y + 3, by have := HY.out; omega, by have := HY.out; have := HLT.out; omega, by go_num, by rw [HNX.out]; exact HP2.out, HB2.out⟩, by have := HLT.out; simp [intOf]; omega⟩
    · have hy1 : ¬ ((y : Int) < (H : Int)) := by omega
      obtain rfl : i = (H + 2) / 3 := by omega
      have hpp := hpg.pg
      rw [Ce.lines_len] at hpp
      obtain ⟨A', c', rfl, hc', hq⟩ := hpp
      have HQ := hide hq
      have HEND := hide (HV.out.trans (hbel.mono (Nat.le_of_lt hgx)))
      have HC9 := hide hc'
      clear hpg hbel hlt hy hi hq hc'
      go_wp2
      go_ret2
      exact ⟨A', c', rfl, HC9.out, HQ.out, HEND.out⟩
end Go.Proofs.Ytedgjpoejoepjab
