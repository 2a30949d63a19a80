/-
  Cells: Page of the reference, by contract: the walk.
-/
import Derived.Test.YtdjmfjmijpfijaaDoorPageC
namespace Go.Proofs.YtdjmfjmijpfijaaDoor
open Go.RowKit
set_option linter.unusedVariables false
set_option linter.unusedSimpArgs false
noncomputable def apResB (W : World) (v x : Value) : Value × World := match (Builtin.append_ #[27, 27] 27 #[v, x]).run Tryd.prog W with
  | .ok a b => (a, b)
  | _ => (undef, W)
def apOkB (W : World) (v x : Value) : Prop := (Builtin.append_ #[27, 27] 27 #[v, x]).run Tryd.prog W = .ok (apResB W v x).1 (apResB W v x).2
theorem apResB_of {W W' : World} {v x v' : Value} (h : (Builtin.append_ #[27, 27] 27 #[v, x]).run Tryd.prog W = .ok v' W') : apResB W v x = (v', W') := by
  unfold apResB
  rw [h]
theorem apOkB_of {W W' : World} {v x v' : Value} (h : (Builtin.append_ #[27, 27] 27 #[v, x]).run Tryd.prog W = .ok v' W') : apOkB W v x := by
  unfold apOkB
  rw [apResB_of h, h]
theorem wp_append_byte (o : Oper) (d : Option Tmp) (s x : Operand) (a : Act) (w : World) (K : Act → World → Prop) (Q : Exit → Act → World → Prop) (h0 : o.op = .call { callee := .builtin .append, args := #[s, x], argTypes := #[27, 27] }) (h1 : o.type = 27) (h2 : o.dst = d) (h : apOkB w (a.eval s) (a.eval x)) :
    Oper.wp Tryd.prog o a w K Q = K (a.put d (apResB w (a.eval s) (a.eval x)).1) (apResB w (a.eval s) (a.eval x)).2 := by
  unfold apOkB at h
  unfold Oper.wp execOp
  simp only [h0, h1, resolve, invoke, builtin, Sem.run_bind, Sem.run_pure, Result.andThen_ok, List.map_toArray, List.map_cons, List.map_nil, h]
  rw [← h2]
  rfl
theorem wp_append_58 (o : Oper) (a : Act) (w : World) (K : Act → World → Prop) (Q : Exit → Act → World → Prop) (h0 : o.op = .call { callee := .builtin .append, args := #[.tmp 58, .tmp 63], argTypes := #[27, 27] }) (h1 : o.type = 27) (h2 : o.dst = some 64) (h : apOkB w (a.eval (.tmp 58)) (a.eval (.tmp 63))) :
    Oper.wp Tryd.prog o a w K Q = K (a.put (some 64) (apResB w (a.eval (.tmp 58)) (a.eval (.tmp 63))).1) (apResB w (a.eval (.tmp 58)) (a.eval (.tmp 63))).2 := wp_append_byte o _ _ _ a w K Q h0 h1 h2 h
attribute [local go_sem ↓] wp_append_58
set_option maxHeartbeats 4000000 in
set_option maxRecDepth 100000 in
theorem page_any (A : Option Addr) (n c : Nat) (xs : List Int) (w : World) (hr : Reads w w.heap.size 1 A n (xs.map (Value.int .i64))) (hx : ∀ x ∈ xs, Wr.inI x) :
    Calls Tryd.prog 5 #[.slice A n c] w fun e w' => ∃ A' c' ls, e = .returned (.slice A' (List.length ls) c') ∧ ls.length ≤ 5 ∧ (∀ l ∈ ls, List.length l ≤ 1001) ∧ Pg w' w'.heap.size A' ls.length ls ∧ ls.length ≤ c' ∧ Below w.heap.size w w' := by
  obtain ⟨i0, hi, hz0, hz1, hz2⟩ := info_parts byteInfo
  have HI := hide hi
  have HZ0 := hide hz0
  have HZ1 := hide hz1
  have HZ2 := hide hz2
  have CA := hide (fun (W : World) (i m : Nat) (hb : Below w.heap.size w W) (hi : i ≤ 1099511627776) (hm : 0 < m) (hm2 : m ≤ 1099511627776) => at_any A n c xs i m W ((hr.below hb).more hb.size) hx hi hm hm2)
  have HB0 := hide (Below.refl w.heap.size w)
  have hN := Ce.atN_lt xs 0 6 (by omega)
  have C0 := hide (show Calls Tryd.prog 18 #[.slice A n c, .int .i64 0, .int .i64 6] w fun e w' => e = .returned (.int .i64 ((Ce.atN xs 0 6 : Nat) : Int)) ∧ w = w' from unhide CA w 0 6 HB0.out (by omega) (by omega) (by omega))
  generalize Ce.atN xs 0 6 = N at *
  have hNi : (N : Int) ≤ 5 := by omega
  have hP0 := hide (PgF.nil w w.heap.size)
  clear hr hx hi hz0 hz1 hz2
  go_enter Tryd.func5, Tryd.ntmps5
  go_wp2_with (go_at_call 18; refine (unhide C0).mono ?_; rintro e w1 ⟨rfl, rfl⟩)
  clear C0
  go_loopw [5, 3] (fun s5 s3 wr => ∃ (i : Nat) (ls : List (List UInt8)), i ≤ N ∧ s5 = .int .i64 (i : Int) ∧ ls.length = i ∧ Hid (∀ l ∈ ls, l.length ≤ 1000) ∧ PgF wr w.heap.size s3 ls ∧ Below w.heap.size w wr) (fun s5 _ _ => N - (intOf s5).toNat)
  case atStart => exact ⟨0, [], by omega, rfl, rfl, by simp [Hid], hP0.out, HB0.out⟩
  case round =>
    obtain ⟨i, ls, hi, rfl, hls, HLL, hpg, hbel⟩ := hrel
    obtain ⟨wd, rfl⟩ : ∃ wd, wd = wr := ⟨wr, rfl⟩
    have HPG := hide hpg
    have HB := hide hbel
    have hds := hbel.size
    have HLS := hide hls
    by_cases hlt : i < N
    · have HLT := hide hlt
      have hi0 : (0 : Int) ≤ (i : Int) := by omega
      have hi1 : (i : Int) < (N : Int) := by omega
      have hi5 : (i : Int) ≤ 5 := by omega
      have hi5n : i ≤ 5 := by omega
      have hM := Ce.atN_lt xs (1 + i) 10 (by omega)
      have C1 := hide (show Calls Tryd.prog 18 #[.slice A n c, .int .i64 (1 + (i : Int)), .int .i64 10] wd fun e w' => e = .returned (.int .i64 ((Ce.atN xs (1 + i) 10 : Nat) : Int)) ∧ wd = w' by
        rw [show 1 + (i : Int) = ((1 + i : Nat) : Int) by omega]
        exact unhide CA wd (1 + i) 10 hbel (by omega) (by omega) (by omega))
      generalize Ce.atN xs (1 + i) 10 = M at *
      have hMi : (M : Int) ≤ 9 := by omega
      have hR0 := hide (World.ownsRow_nil wd wd.heap.size 5 1)
      have HDD := hide (Below.refl wd.heap.size wd)
      clear hpg hbel hlt hls hi
      go_upto_region 9 with (go_at_call 18; refine (unhide C1).mono ?_; rintro e w1 ⟨rfl, rfl⟩)
      clear C1
      go_loopw [8, 6] (fun s8 s6 wr => ∃ (k : Nat) (l : List UInt8), k ≤ M ∧ s8 = .int .i64 (k : Int) ∧ l.length = k ∧ wr.ownsRow wd.heap.size 5 1 s6 k (BV l) ∧ Below wd.heap.size wd wr) (fun s8 _ _ => M - (intOf s8).toNat)
      case atStart => exact ⟨0, [], by omega, rfl, rfl, hR0.out, HDD.out⟩
      case round =>
        obtain ⟨k, l, hk, rfl, hl, hown, hbel⟩ := hrel
        obtain ⟨we, rfl⟩ : ∃ we, we = wr := ⟨wr, rfl⟩
        have HO := hide hown
        have HE := hide hbel
        have hes := hbel.size
        have HL := hide hl
        have HWE := hide (HB.out.trans (hbel.mono hds))
        by_cases hlt : k < M
        · have HLK := hide hlt
          have hk0 : (0 : Int) ≤ (k : Int) := by omega
          have hk1 : (k : Int) < (M : Int) := by omega
          have ha := Ce.atN_lt xs (6 + 9 * i + k) 80 (by omega)
          have C2 := hide (show Calls Tryd.prog 18 #[.slice A n c, .int .i64 (6 + 9 * (i : Int) + (k : Int)), .int .i64 80] we fun e w' => e = .returned (.int .i64 ((Ce.atN xs (6 + 9 * i + k) 80 : Nat) : Int)) ∧ we = w' by
            rw [show 6 + 9 * (i : Int) + (k : Int) = ((6 + 9 * i + k : Nat) : Int) by omega]
            exact unhide CA we (6 + 9 * i + k) 80 HWE.out (by omega) (by omega) (by omega))
          generalize Ce.atN xs (6 + 9 * i + k) 80 = a at *
          clear hown hbel hlt hl hk
          by_cases hb : a < 64
          · have h64 : ¬ ((64 : Int) ≤ (a : Int)) := by omega
            have h64' : (a : Int) < 64 := by omega
            have ha0 : (0 : Int) ≤ (a : Int) := by omega
            have h256 : (a : Int) % 256 = (a : Int) := by omega
            have HNX := hide (show BV (l ++ [UInt8.ofNat a]) = BV l ++ [.int .u8 (a : Int)] by
              rw [BV_append]
              congr 1
              show [Value.int .u8 (((UInt8.ofNat a).toNat : Nat) : Int)] = _
              rw [UInt8.toNat_ofNat_of_lt' (by show _ < 256; omega)])
            go_wp2_with (first
              | (go_at_call 18; refine (unhide C2).mono ?_; rintro e w1 ⟨rfl, rfl⟩)
              | (at_builtin; refine wpList_append_any _ rfl (.tmp 35) (.tmp 38) 27 rfl wd.heap.size 5 i0 (.int .u8 0) 1 1 Tryd.underlying27 HI.out HZ0.out HZ1.out HZ2.out rfl (by omega) _ k _ rfl (HO.out.alloc _) _ (some ⟨we.heap.size, 0, none⟩) 1 1 [.int .u8 (a : Int)] rfl (reads_new we _ _) (by simp [Value.oneCell']) (by unfold maxLen; omega) (by omega) (by simp; omega) ?_; intro v2 w2 hown2 hgrow2 hat2; have HO2 := hide hown2; have HB2 := hide (HE.out.trans ((below_alloc' we _ hes).trans (below_grown hgrow2 (HO.out.alloc _) (by simp; omega)))); clear hown2 hgrow2 hat2))
            exact ⟨⟨k + 1, l ++ [UInt8.ofNat a], HLK.out, by go_num, by rw [List.length_append, HL.out]; rfl, by rw [HNX.out]; exact HO2.out, HB2.out⟩, by have := HLK.out; simp [intOf]; omega⟩
          · have h64 : (64 : Int) ≤ (a : Int) := by omega
            have HNX := hide (show BV (l ++ [0]) = BV l ++ [.int .u8 0] by rw [BV_append]; rfl)
            go_wp2_with (first
              | (go_at_call 18; refine (unhide C2).mono ?_; rintro e w1 ⟨rfl, rfl⟩)
              | (at_builtin; refine wpList_append_any _ rfl (.tmp 35) (.tmp 38) 27 rfl wd.heap.size 5 i0 (.int .u8 0) 1 1 Tryd.underlying27 HI.out HZ0.out HZ1.out HZ2.out rfl (by omega) _ k _ rfl (HO.out.alloc _) _ (some ⟨we.heap.size, 0, none⟩) 1 1 [.int .u8 0] rfl (reads_new we _ _) (by simp [Value.oneCell']) (by unfold maxLen; omega) (by omega) (by simp; omega) ?_; intro v2 w2 hown2 hgrow2 hat2; have HO2 := hide hown2; have HB2 := hide (HE.out.trans ((below_alloc' we _ hes).trans (below_grown hgrow2 (HO.out.alloc _) (by simp; omega)))); clear hown2 hgrow2 hat2))
            exact ⟨⟨k + 1, l ++ [0], HLK.out, by go_num, by rw [List.length_append, HL.out]; rfl, by rw [HNX.out]; exact HO2.out, HB2.out⟩, by have := HLK.out; simp [intOf]; omega⟩
        · obtain rfl : k = M := by omega
          obtain ⟨A6, c6, rfl, hc6, _⟩ := own_slice hown
          have HR6 := hide (show we.ownsRow wd.heap.size 5 1 (.slice A6 k c6) l.length (BV l) by rw [hl]; exact hown)
          have hnt : ¬ ((k : Int) < (k : Int)) := by omega
          have HL2 := hide (show ∀ q ∈ ls ++ [l], List.length q ≤ 1000 from fun q hq => by
            rcases List.mem_append.1 hq with h | h
            · exact HLL.out q h
            · simp at h; subst h; omega)
          have hlsl : ls.length ≤ 1048576 := by have := HLS.out; omega
          clear hown hbel hlt hl hk
          go_wp2_with (at_builtin; refine wpList_append_lineF wd _ rfl (.tmp 40) (.tmp 42) 24 rfl rfl rfl w.heap.size _ ls l _ rfl HPG.out (HE.out.trans (below_alloc' we _ hes)) (HR6.out.alloc _) ⟨we.heap.size, 0, none⟩ rfl (reads_new we _ _) hlsl hds (by simp [Value.oneCell']) ?_; intro v2 w2 hpg2 hgrow2; have HP2 := hide hpg2; have HB2 := hide (HWE.out.trans ((below_alloc' we _ (Nat.le_trans hds hes)).trans (((HPG.out.below HE.out).below (below_alloc we _)).own.below_grown hgrow2 (by simp; omega)))); clear hpg2 hgrow2)
          exact ⟨⟨i + 1, ls ++ [l], HLT.out, by go_num, by rw [List.length_append, HLS.out]; rfl, HL2, HP2.out, HB2.out⟩, by have := HLT.out; simp [intOf]; omega⟩
    · obtain rfl : i = N := by omega
      have hnt : ¬ ((i : Int) < (i : Int)) := by omega
      have h51 := Ce.atN_lt xs 51 12 (by omega)
      have C51 := hide (show Calls Tryd.prog 18 #[.slice A n c, .int .i64 51, .int .i64 12] wd fun e w' => e = .returned (.int .i64 ((Ce.atN xs 51 12 : Nat) : Int)) ∧ wd = w' from unhide CA wd 51 12 hbel (by omega) (by omega) (by omega))
      generalize Ce.atN xs 51 12 = q51 at *
      by_cases hq : q51 = 0 ∧ 0 < i
      · obtain ⟨rfl, hpos⟩ := hq
        rw [show ((0 : Nat) : Int) = 0 from rfl] at C51
        have hpos' : (0 : Int) < (i : Int) := by omega
        obtain ⟨k, hk⟩ : ∃ k, k + 1 = i := ⟨i - 1, by omega⟩
        obtain ⟨gp, cap, hv, hglt⟩ : ∃ gp cap, _ = Value.slice (some ⟨gp, 0, none⟩) ls.length cap ∧ gp < wd.heap.size := by
          obtain ⟨vs, h1, _, _⟩ := hpg
          obtain ⟨gp, cap, hv, _, hglt⟩ := h1.form (by omega)
          exact ⟨gp, cap, hv, hglt⟩
        subst hv
        have h52 := Ce.atN_lt xs 52 192 (by omega)
        have C52 := hide (show Calls Tryd.prog 18 #[.slice A n c, .int .i64 52, .int .i64 192] wd fun e w' => e = .returned (.int .i64 ((Ce.atN xs 52 192 : Nat) : Int)) ∧ wd = w' from unhide CA wd 52 192 hbel (by omega) (by omega) (by omega))
        have C52d := hide (show Calls Tryd.prog 18 #[.slice A n c, .int .i64 52, .int .i64 192] wd.drew fun e w' => e = .returned (.int .i64 ((Ce.atN xs 52 192 : Nat) : Int)) ∧ wd.drew = w' from unhide CA wd.drew 52 192 hbel.drew (by omega) (by omega) (by omega))
        generalize Ce.atN xs 52 192 = a at *
        have hab : (((UInt8.ofNat (64 + a)).toNat : Nat) : Int) = 64 + (a : Int) := by
          rw [UInt8.toNat_ofNat_of_lt' (by show _ < 256; omega)]
          omega
        obtain ⟨u, A2, m2, c2, w2, ls2, hcu, hap, hcu2, hf2, hpg2, hl2, hll2, hb2⟩ := page_last (wd.alloc (.cells #[.int .u8 (64 + (a : Int))] 5)).drew w.heap.size gp cap k ls (by omega) (hpg.below (below_alloc wd _).drew) (UInt8.ofNat (64 + a)) ⟨wd.heap.size, 0, none⟩ (by rw [hab]; exact reads_new wd _ _) HLL.out (by show w.heap.size ≤ (wd.alloc _).heap.size; simp; omega)
        have hok := apOkB_of hap
        have hre := apResB_of hap
        have hcw : wd.cell? ⟨gp, k, none⟩ = some u := by
          rw [← World.cell?_alloc_lt wd (.cells #[.int .u8 (64 + (a : Int))] 5) ⟨gp, k, none⟩ hglt]
          exact hcu
        have hca : (wd.alloc (.cells #[.int .u8 (64 + (a : Int))] 5)).cell? ⟨gp, k, none⟩ = some u := hcu
        have e1 : IntKind.i64.wrap ((i : Int) - 1) = (k : Int) := by rw [IntWalk.i64_in _ (by omega)]; omega
        have e2 : IntKind.i64.wrap (64 + (a : Int)) = 64 + (a : Int) := by rw [IntWalk.i64_in _ (by omega)]
        have e3 : IntKind.u8.wrap (64 + (a : Int)) = 64 + (a : Int) := by rw [IntWalk.u8_in _ (by omega)]
        have k0 : (0 : Int) ≤ (k : Int) := by omega
        have k1 : (k : Int) < (ls.length : Int) := by omega
        have hpp := hpg2.pg
        rw [hl2] at hpp
        have HPP := hide hpp
        have HBB := hide (show Below w.heap.size w (w2.setCell ⟨gp, k, none⟩ (.slice A2 m2 c2)) from ((hbel.alloc hds _).drew).trans hb2)
        have HL2 := hide hl2
        have HLL2 := hide hll2
        clear hpg hbel hlt hls hi hap hpg2 hl2 hll2 hb2 hpp hab h51 h52 CA hpos hk hcu
        go_upto_region 17 with (go_at_call 18; refine (unhide C51).mono ?_; rintro e w1 ⟨rfl, rfl⟩)
        go_region_with (first
          | (go_at_call 18; (with_reducible refine (unhide C52d).mono ?_); rintro e w1 ⟨rfl, rfl⟩)
          | (go_at_call 18; (with_reducible refine (unhide C52).mono ?_); rintro e w1 ⟨rfl, rfl⟩))
        all_goals
          go_wp2
          go_ret
          obtain ⟨A9, c9, hv9, hc9, hpg9⟩ := HPP.out
          injection hv9 with hA9 _ hc9'
          subst hA9
          subst hc9'
          exact ⟨some ⟨gp, 0, none⟩, cap, ls2, by (rw [HL2.out]; rfl), by rw [HL2.out, HLS.out]; omega, HLL2.out, by rw [HL2.out]; exact hpg9, by rw [HL2.out]; exact hc9, HBB.out⟩
      · obtain ⟨A', c', hv, hc', hq'⟩ := hpg.own.pg
        subst hv
        have HPQ := hide hq'
        clear hpg hbel hlt hls hi hq' CA h51
        by_cases h0 : q51 = 0
        · subst h0
          rw [show ((0 : Nat) : Int) = 0 from rfl] at C51
          have hz : ¬ ((0 : Int) < (i : Int)) := by omega
          clear hq
          go_wp2_with (go_at_call 18; refine (unhide C51).mono ?_; rintro e w1 ⟨rfl, rfl⟩)
          go_ret
          exact ⟨A', c', ls, rfl, by have := HLS.out; omega, fun l hl => by have := HLL.out l hl; omega, HPQ.out, hc', HB.out⟩
        · have hz1 : ((q51 : Int) == 0) = false := by rw [beq_eq_false_iff_ne]; omega
          have hz2 : ¬ ((q51 : Int) = 0) := by omega
          clear hq h0
          go_wp2_with (go_at_call 18; refine (unhide C51).mono ?_; rintro e w1 ⟨rfl, rfl⟩)
          go_ret
          exact ⟨A', c', ls, rfl, by have := HLS.out; omega, fun l hl => by have := HLL.out l hl; omega, HPQ.out, hc', HB.out⟩
end Go.Proofs.YtdjmfjmijpfijaaDoor
