/-
  Cells: the law CellPacks, walked.
-/
import Derived.Test.YtedgjpoejoepjabPageD
import Derived.Test.YtedgjpoejoepjabCountD
import Derived.Test.YtedgjpoejoepjabLivesC
namespace Go.Proofs.Ytedgjpoejoepjab
open Go.RowKit
set_option linter.unusedVariables false
set_option linter.unusedSimpArgs false

theorem unRast_len (ls : List (List UInt8)) : (Ce.unRast ls).bits.length ≤ 1048576 := by
  unfold Ce.unRast
  cases h : (Ce.allValid ls && Ce.canPage ls) with
  | false => simp
  | true =>
    rw [Bool.and_eq_true] at h
    have h2 := h.2
    unfold Ce.canPage Ce.can at h2
    obtain ⟨_, _, _, _, h5⟩ := of_decide_eq_true h2
    simp only [if_true, Ce.unBits_len]
    have e : (2 * (Ce.wide ls : Int)) * (3 * (ls.length : Int)) = ((2 * Ce.wide ls * (3 * ls.length) : Nat) : Int) := by
      rw [Int.natCast_mul, Int.natCast_mul, Int.natCast_mul]; rfl
    rw [e] at h5
    omega
set_option maxHeartbeats 8000000 in
set_option maxRecDepth 100000 in
theorem packs_walk (A0 A3 : Option Addr) (n0 c0 n3 c3 : Nat) (xs0 xs3 : List Int) (how by_ : Int) (w : World) (hr0 : Reads w w.heap.size 1 A0 n0 (xs0.map (Value.int .i64))) (hn0 : n0 ≤ c0) (hx0 : ∀ x ∈ xs0, Wr.inI x)
    (hr3 : Reads w w.heap.size 1 A3 n3 (xs3.map (Value.int .i64))) (hn3 : n3 ≤ c3) (hx3 : ∀ x ∈ xs3, Wr.inI x) (hh : Wr.inI how) (hb : Wr.inI by_) :
    Calls Try.prog 5 #[.slice A0 n0 c0, .int .i64 how, .int .i64 by_, .slice A3 n3 c3] w fun e w' => e = .returned (.bool true) ∧ Below w.heap.size w w' := by
  have HLV := hide lives_any
  have HB0 := hide (Below.refl w.heap.size w)
  have CR := hide (raster_any A0 n0 c0 xs0 w hr0 hx0)
  have hgl : (Ce.genRast xs0).bits.length ≤ 182 := by
    have h1 := Ce.atN_lt xs0 0 15 (by omega)
    have h2 := Ce.atN_lt xs0 1 14 (by omega)
    have h3 := Nat.mul_le_mul (show Ce.atN xs0 0 15 ≤ 14 by omega) (show Ce.atN xs0 1 14 ≤ 13 by omega)
    simpa [Ce.genRast] using h3
  generalize Ce.genRast xs0 = r0 at *
  have CPG := hide (fun W (hb : Below w.heap.size w W) => page_any A3 n3 c3 xs3 W ((hr3.below hb).more hb.size) hx3)
  have CB := hide (fun (A : Option Addr) (n c : Nat) (x y : Int) (bits : List Bool) (W : World) (hr : Reads W W.heap.size 1 A n (bits.map Value.bool)) (hn : n ≤ 900) => bent_any A n c x y how by_ bits W hr hn hh)
  have CAR := hide (fun W => (show Calls Try.prog 29 #[.int .i64 by_, .int .i64 130] W fun e w' => e = .returned (.int .i64 ((Ce.around by_ 130 : Nat) : Int)) ∧ W = w' from around_any by_ 130 W hb (by omega) (by omega)))
  have har := Ce.around_lt by_ 130 (by omega)
  generalize Ce.around by_ 130 = ar at *
  clear hr0 hx0 hr3 hx3 hh hb
  go_enter Try.func5, Try.ntmps5
  go_upto_region 2 with (go_at_call 24; refine (unhide CR).mono ?_; rintro e w1 ⟨v1, rfl, hra, hb1⟩; have H1 := hide hb1; obtain ⟨A, n, c, rfl, hnc, hrb⟩ := hra; have HRB := hide hrb; clear hb1 hrb)
  have hn : n ≤ 182 := by have := HRB.out.1; simp at this; omega
  refine name_world fun V hV => ?_
  have HV9 := hide (show Blk V w1.heap.size 42 #[.int .i64 (r0.W : Int), .int .i64 (r0.H : Int), .slice A n c] by rw [← hV.out]; exact Blk.new w1 _ _)
  have HVB := hide (show Below w1.heap.size w1 V by rw [← hV.out]; exact below_alloc w1 _)
  have HRV := hide ((HRB.out.below HVB.out).more HVB.out.size)
  have HWV := hide (H1.out.trans (HVB.out.mono H1.out.size))
  clear hV
  have hc0 : V.cell? ⟨w1.heap.size, 0, none⟩ = some (.int .i64 (r0.W : Int)) := HV9.out.cell 0
  have hc1 : V.cell? ⟨w1.heap.size, 1, none⟩ = some (.int .i64 (r0.H : Int)) := HV9.out.cell 1
  have hc2 : V.cell? ⟨w1.heap.size, 2, none⟩ = some (.slice A n c) := HV9.out.cell 2
  have hgx := HV9.out.lt
  have CBI := hide (unhide CB A n c (r0.W : Int) (r0.H : Int) r0.bits V HRV.out (by omega))
  have CBD := hide (unhide CB A n c (r0.W : Int) (r0.H : Int) r0.bits V.drew HRV.out (by omega))
  generalize w1.heap.size = g1 at *
  go_cut [10] (fun s10 wx => ∃ (g : Nat) (a b d : Value), s10 = .slice (some ⟨g, 0, none⟩) 3 3 ∧ Blk wx g 42 #[.int .i64 (r0.W : Int), .int .i64 (r0.H : Int), .slice A n c, a, b, d, .int .i64 0, .int .i64 0, .slice none 0 0] ∧ RastAny wx (.agg #[a, b, d]) ∧ Below V.heap.size V wx)
  case first =>
    go_region_with (first
      | (go_at_call 25; (with_reducible refine (unhide CBI).mono ?_); rintro e w2 ⟨v2, rfl, hra2, hb2⟩; have H2 := hide hb2; have HRA2 := hide hra2; obtain ⟨W2, H2', A2, n2, c2, bits2, rfl, _, _⟩ := hra2; have hd0 : w2.cell? ⟨g1, 0, none⟩ = some (.int .i64 (r0.W : Int)) := (HV9.out.below hb2 hgx).cell 0; have hd1 : w2.cell? ⟨g1, 1, none⟩ = some (.int .i64 (r0.H : Int)) := (HV9.out.below hb2 hgx).cell 1; have hd2 : w2.cell? ⟨g1, 2, none⟩ = some (.slice A n c) := (HV9.out.below hb2 hgx).cell 2; clear hb2)
      | (go_at_call 25; (with_reducible refine (unhide CBD).mono ?_); rintro e w2 ⟨v2, rfl, hra2, hb2⟩; have H2 := hide ((Below.refl V.heap.size V).drew.trans (show Below V.heap.size V.drew w2 from hb2)); have HRA2 := hide hra2; obtain ⟨W2, H2', A2, n2, c2, bits2, rfl, _, _⟩ := hra2; have hd0 : w2.cell? ⟨g1, 0, none⟩ = some (.int .i64 (r0.W : Int)) := (HV9.out.below H2.out hgx).cell 0; have hd1 : w2.cell? ⟨g1, 1, none⟩ = some (.int .i64 (r0.H : Int)) := (HV9.out.below H2.out hgx).cell 1; have hd2 : w2.cell? ⟨g1, 2, none⟩ = some (.slice A n c) := (HV9.out.below H2.out hgx).cell 2; clear hb2))
    all_goals
      go_wp2
      go_meet
      first
        | exact ⟨w2.heap.size, _, _, _, rfl, Blk.new w2 _ _, HRA2.out.below (below_alloc w2 _), H2.out.trans (below_alloc' w2 _ H2.out.size)⟩
        | exact ⟨w2.heap.size, _, _, _, rfl, (Blk.new w2 _ _).drew, HRA2.out.below (below_alloc w2 _).drew, (H2.out.trans (below_alloc' w2 _ H2.out.size)).drew⟩
  case rest =>
    obtain ⟨g, a, b, d, rfl, hblk, hra, hbel⟩ := hcut
    obtain ⟨X, rfl⟩ : ∃ X, X = wc := ⟨wc, rfl⟩
    have HWX := hide (HWV.out.trans (hbel.mono HWV.out.size))
    have HRX := hide (show RastAny X (.agg #[.int .i64 (r0.W : Int), .int .i64 (r0.H : Int), .slice A n c]) from ⟨_, _, A, n, c, r0.bits, rfl, (HRV.out.below hbel).more hbel.size, by omega⟩)
    have HRB2 := hide hra
    have HBX := hide hblk
    have HXX := hide (Below.refl X.heap.size X)
    have hgX := hblk.lt
    clear hc0 hc1 hc2 CBI CBD CB hra hbel hblk
    go_wp2
    go_loopw [11] (fun s11 wr => ∃ i : Nat, i ≤ 3 ∧ s11 = .int .i64 (i : Int) ∧ Below X.heap.size X wr) (fun s11 _ => 3 - (intOf s11).toNat)
    case atStart => exact ⟨0, by omega, rfl, HXX.out⟩
    case round =>
      obtain ⟨i, hi, rfl, hbel⟩ := hrel
      obtain ⟨wd, rfl⟩ : ∃ wd, wd = wr := ⟨wr, rfl⟩
      have hblk := HBX.out.below hbel hgX
      obtain rfl | rfl | rfl | rfl : i = 0 ∨ i = 1 ∨ i = 2 ∨ i = 3 := by omega
      · rw [show ((0 : Nat) : Int) = 0 from rfl]
        obtain ⟨ls, err, hln, hll, hp1, hp2⟩ := packs_same (.agg #[.int .i64 (r0.W : Int), .int .i64 (r0.H : Int), .slice A n c]) X HRX.out
        have CP1 := hide (hp1 wd hbel)
        have CP2 := hide hp2
        have HLN := hide hln
        have HLL := hide hll
        have d0 : wd.cell? ⟨g, 0, none⟩ = some (.int .i64 (r0.W : Int)) := by rw [hblk.cell]; rfl
        have d1 : wd.cell? ⟨g, 1, none⟩ = some (.int .i64 (r0.H : Int)) := by rw [hblk.cell]; rfl
        have d2 : wd.cell? ⟨g, 2, none⟩ = some (.slice A n c) := by rw [hblk.cell]; rfl
        have HBK := hide hblk
        have HB := hide hbel
        have hgl := hblk.lt
        clear hln hll hp1 hp2 hblk hbel
        go_wp2_with (first
          | (go_at_call 26; refine (unhide CP1).mono ?_; rintro e x1 ⟨A1, k1, rfl, hpg, hb1⟩; have X1 := hide (HB.out.trans (hb1.mono HB.out.size)); have P1 := hide hpg; have x1c := HBK.out.below hb1 hgl; have f0 : x1.cell? ⟨g, 0, none⟩ = some (.int .i64 (r0.W : Int)) := (by rw [x1c.cell]; rfl); have f1 : x1.cell? ⟨g, 1, none⟩ = some (.int .i64 (r0.H : Int)) := (by rw [x1c.cell]; rfl); have f2 : x1.cell? ⟨g, 2, none⟩ = some (.slice A n c) := (by rw [x1c.cell]; rfl); clear hb1 hpg x1c)
          | (go_at_call 27; refine (unhide CP2 x1 X1.out).mono ?_; rintro e x2 ⟨A2, k2, rfl, hpg2, hb2⟩; have X2 := hide (X1.out.trans (hb2.mono X1.out.size)); have EQ := hide (equal_eq A1 A2 ls.length k1 k2 ls x2 (P1.out.same hb2) hpg2 HLN.out HLL.out); clear hb2 hpg2)
          | (go_at_call 28; refine (unhide EQ).mono ?_; rintro e x3 ⟨rfl, hb3⟩; have X3 := hide (X2.out.trans (hb3.mono X2.out.size)); clear hb3))
        exact ⟨⟨0+1, by omega, by rfl, X3.out⟩, by simp [intOf]⟩
      · rw [show ((1 : Nat) : Int) = 1 from rfl]
        obtain ⟨ls, err, hln, hll, hp1, hp2⟩ := packs_same (.agg #[a, b, d]) X HRB2.out
        have CP1 := hide (hp1 wd hbel)
        have CP2 := hide hp2
        have HLN := hide hln
        have HLL := hide hll
        have d0 : wd.cell? ⟨g, 3, none⟩ = some (a) := by rw [hblk.cell]; rfl
        have d1 : wd.cell? ⟨g, 4, none⟩ = some (b) := by rw [hblk.cell]; rfl
        have d2 : wd.cell? ⟨g, 5, none⟩ = some (d) := by rw [hblk.cell]; rfl
        have HBK := hide hblk
        have HB := hide hbel
        have hgl := hblk.lt
        clear hln hll hp1 hp2 hblk hbel
        go_wp2_with (first
          | (go_at_call 26; refine (unhide CP1).mono ?_; rintro e x1 ⟨A1, k1, rfl, hpg, hb1⟩; have X1 := hide (HB.out.trans (hb1.mono HB.out.size)); have P1 := hide hpg; have x1c := HBK.out.below hb1 hgl; have f0 : x1.cell? ⟨g, 3, none⟩ = some (a) := (by rw [x1c.cell]; rfl); have f1 : x1.cell? ⟨g, 4, none⟩ = some (b) := (by rw [x1c.cell]; rfl); have f2 : x1.cell? ⟨g, 5, none⟩ = some (d) := (by rw [x1c.cell]; rfl); clear hb1 hpg x1c)
          | (go_at_call 27; refine (unhide CP2 x1 X1.out).mono ?_; rintro e x2 ⟨A2, k2, rfl, hpg2, hb2⟩; have X2 := hide (X1.out.trans (hb2.mono X1.out.size)); have EQ := hide (equal_eq A1 A2 ls.length k1 k2 ls x2 (P1.out.same hb2) hpg2 HLN.out HLL.out); clear hb2 hpg2)
          | (go_at_call 28; refine (unhide EQ).mono ?_; rintro e x3 ⟨rfl, hb3⟩; have X3 := hide (X2.out.trans (hb3.mono X2.out.size)); clear hb3))
        exact ⟨⟨1+1, by omega, by rfl, X3.out⟩, by simp [intOf]⟩
      · rw [show ((2 : Nat) : Int) = 2 from rfl]
        obtain ⟨ls, err, hln, hll, hp1, hp2⟩ := packs_same (.agg #[.int .i64 0, .int .i64 0, .slice none 0 0]) X (RastAny.nil X)
        have CP1 := hide (hp1 wd hbel)
        have CP2 := hide hp2
        have HLN := hide hln
        have HLL := hide hll
        have d0 : wd.cell? ⟨g, 6, none⟩ = some (.int .i64 0) := by rw [hblk.cell]; rfl
        have d1 : wd.cell? ⟨g, 7, none⟩ = some (.int .i64 0) := by rw [hblk.cell]; rfl
        have d2 : wd.cell? ⟨g, 8, none⟩ = some (.slice none 0 0) := by rw [hblk.cell]; rfl
        have HBK := hide hblk
        have HB := hide hbel
        have hgl := hblk.lt
        clear hln hll hp1 hp2 hblk hbel
        go_wp2_with (first
          | (go_at_call 26; refine (unhide CP1).mono ?_; rintro e x1 ⟨A1, k1, rfl, hpg, hb1⟩; have X1 := hide (HB.out.trans (hb1.mono HB.out.size)); have P1 := hide hpg; have x1c := HBK.out.below hb1 hgl; have f0 : x1.cell? ⟨g, 6, none⟩ = some (.int .i64 0) := (by rw [x1c.cell]; rfl); have f1 : x1.cell? ⟨g, 7, none⟩ = some (.int .i64 0) := (by rw [x1c.cell]; rfl); have f2 : x1.cell? ⟨g, 8, none⟩ = some (.slice none 0 0) := (by rw [x1c.cell]; rfl); clear hb1 hpg x1c)
          | (go_at_call 27; refine (unhide CP2 x1 X1.out).mono ?_; rintro e x2 ⟨A2, k2, rfl, hpg2, hb2⟩; have X2 := hide (X1.out.trans (hb2.mono X1.out.size)); have EQ := hide (equal_eq A1 A2 ls.length k1 k2 ls x2 (P1.out.same hb2) hpg2 HLN.out HLL.out); clear hb2 hpg2)
          | (go_at_call 28; refine (unhide EQ).mono ?_; rintro e x3 ⟨rfl, hb3⟩; have X3 := hide (X2.out.trans (hb3.mono X2.out.size)); clear hb3))
        exact ⟨⟨2+1, by omega, by rfl, X3.out⟩, by simp [intOf]⟩
      · rw [show ((3 : Nat) : Int) = 3 from rfl]
        obtain ⟨q, hq⟩ : ∃ q, q = 5400 + ar := ⟨_, rfl⟩
        have har0 : (0 : Int) ≤ (ar : Int) := by omega
        have har1 : (ar : Int) < 130 := by omega
        have hmkp : ∀ W', (Instr.makeSlice 47 (.int .i64 2) (.int .i64 2)).run Try.prog W' = .ok (.slice (some ⟨W'.heap.size, 0, none⟩) 2 2) (W'.alloc (.cells #[.slice none 0 0, .slice none 0 0] 23)) := fun W' => by
          have h := run_make_row' 47 23 (.slice none 0 0) 24 Try.underlying47 lineInfo rfl .i64 .i64 2 (by omega) (by omega) W'
          rw [show madeCells #[Value.slice none 0 0] 2 = #[.slice none 0 0, .slice none 0 0] by rw [madeLine]; rfl] at h
          exact h
        have hmkl : ∀ W', (Instr.makeSlice 23 (.int .i64 (5400 + (ar : Int))) (.int .i64 (5400 + (ar : Int)))).run Try.prog W' = .ok (.slice (some ⟨W'.heap.size, 0, none⟩) q q) (W'.alloc (.cells (BV (List.replicate q 0)).toArray 5)) := fun W' => by
          rw [show 5400 + (ar : Int) = (q : Int) by omega, ← madeU8]
          exact run_make_row' 23 5 (.int .u8 0) 1 Try.underlying23 byteInfo rfl .i64 .i64 q (by omega) (by omega) W'
        have hq9 : q ≤ 5529 := by omega
        clear hq
        have HB1 := hide (HWX.out.trans (hbel.mono HWX.out.size))
        have hwz := HB1.out.size
        clear hblk hbel HXX HRX HRB2 HBX
        go_upto_region 11 with fail
        refine name_world fun Y1 hY1 => ?_
        have HP1 := hide (show Blk Y1 wd.heap.size 23 #[.slice none 0 0, .slice none 0 0] by rw [← hY1.out]; exact Blk.new wd _ _)
        have HYB1 := hide (show Below wd.heap.size wd Y1 by rw [← hY1.out]; exact below_alloc wd _)
        have hpl := HP1.out.lt
        clear hY1 hmkp
        generalize wd.heap.size = gp at *
        have hfz := HP1.out.frozen 0
        have hcz : Y1.cell? ⟨gp, 0, none⟩ = some (.slice none 0 0) := HP1.out.cell 0
        have haz : (Y1.alloc (.cells (BV (List.replicate q 0)).toArray 5)).cell? ⟨gp, 0, none⟩ = some (.slice none 0 0) := (HP1.out.alloc _).cell 0
        go_upto_region 12 with (go_at_call 29; refine (unhide CAR _).mono ?_; rintro e w1 ⟨rfl, rfl⟩)
        refine name_world fun Y hY => ?_
        have HYP := hide (show Blk Y gp 23 #[.slice (some ⟨Y1.heap.size, 0, none⟩) q q, .slice none 0 0] by rw [← hY.out]; exact (HP1.out.set_ 0 _).alloc _)
        have HYL := hide (show Blk Y Y1.heap.size 5 (BV (List.replicate q 0)).toArray by
          rw [← hY.out]
          have h := Blk.new (Y1.setCell ⟨gp, 0, none⟩ (.slice (some ⟨Y1.heap.size, 0, none⟩) q q)) 5 (BV (List.replicate q 0)).toArray
          rwa [show (Y1.setCell ⟨gp, 0, none⟩ (.slice (some ⟨Y1.heap.size, 0, none⟩) q q)).heap.size = Y1.heap.size by simp [World.setCell]] at h)
        have HYB := hide (show Below gp Y1 Y by rw [← hY.out]; exact ((Below.refl gp Y1).setCell (p := ⟨gp, 0, none⟩) (Nat.le_refl _) _).alloc (by simp [World.setCell]; omega) _)
        clear hY hmkl hfz hcz haz
        have HWY := hide (HB1.out.trans ((HYB1.out.trans HYB.out).mono hwz))
        have HPW := hide (show Pg Y Y.heap.size (some ⟨gp, 0, none⟩) 2 [List.replicate q 0, []] from by
          refine ⟨[.slice (some ⟨Y1.heap.size, 0, none⟩) q q, .slice none 0 0], ⟨rfl, fun _ => ⟨_, rfl, HYP.out.lt, fun j u hj => ?_⟩⟩, rfl, fun k hk => ?_⟩
          · have h := HYP.out.cell j
            have e : (⟨gp, 0, none⟩ : Addr).add j = ⟨gp, j, none⟩ := by (simp [Addr.add]; intro h; omega)
            rw [e, h, List.getElem?_toArray]
            exact hj
          · match k, hk with
            | 0, _ =>
              refine ⟨some ⟨Y1.heap.size, 0, none⟩, q, q, rfl, Nat.le_refl _, ⟨by simp [BV], fun _ => ⟨_, rfl, HYL.out.lt, fun j u hj => ?_⟩⟩⟩
              have e : (⟨Y1.heap.size, 0, none⟩ : Addr).add j = ⟨Y1.heap.size, j, none⟩ := by (simp [Addr.add]; intro h; omega)
              rw [e, HYL.out.cell, List.getElem?_toArray]
              exact hj
            | 1, _ => exact ⟨none, 0, 0, rfl, Nat.le_refl _, Reads.none_⟩)
        go_upto_region 13 with (go_at_call 30; refine (unhide CPG Y HWY.out).mono ?_; rintro e y2 ⟨A5, c5, l5, rfl, hl5, hll5, hpg5, _, hb5⟩; have HP5 := hide hpg5; have HY2 := hide hb5; have HLB5 := hide hll5; clear hpg5 hb5 hll5)
        refine name_world fun Z hZ => ?_
        have HZK := hide (show Blk Z y2.heap.size 47 #[.slice A5 l5.length c5, .slice (some ⟨gp, 0, none⟩) 2 2, .slice none 0 0] by rw [← hZ.out]; exact Blk.new y2 _ _)
        have HZB := hide (show Below y2.heap.size y2 Z by rw [← hZ.out]; exact below_alloc y2 _)
        clear hZ
        have HZ5 := hide (HP5.out.same HZB.out)
        have HZW := hide ((HPW.out.same HY2.out).same HZB.out)
        have HWZ := hide ((HWY.out.trans (HY2.out.mono HWY.out.size)).trans (HZB.out.mono (HWY.out.trans (HY2.out.mono HWY.out.size)).size))
        have HLB0 := hide (show l5.length ≤ 1048576 ∧ ∀ l ∈ l5, List.length l ≤ 1048576 from ⟨by omega, fun l hl => by have := HLB5.out l hl; omega⟩)
        have HLB1 := hide (show 2 ≤ 1048576 ∧ ∀ l ∈ [List.replicate q (0 : UInt8), []], List.length l ≤ 1048576 from ⟨by omega, fun l hl => by
          rcases List.mem_cons.1 hl with h | h
          · subst h; rw [List.length_replicate]; omega
          · simp at h; subst h; simp⟩)
        have HLB2 := hide (show 0 ≤ 1048576 ∧ ∀ l ∈ ([] : List (List UInt8)), List.length l ≤ 1048576 from ⟨by omega, fun l hl => by cases hl⟩)
        generalize hgz : y2.heap.size = gz at *
        have hgZ := HZK.out.lt
        have HZZ := hide (Below.refl Z.heap.size Z)
        go_wp2
        go_loopw [18] (fun s18 wr => ∃ i : Nat, i ≤ 3 ∧ s18 = .int .i64 (i : Int) ∧ Below Z.heap.size Z wr) (fun s18 _ => 3 - (intOf s18).toNat)
        case atStart => exact ⟨0, by omega, rfl, HZZ.out⟩
        case round =>
        obtain ⟨i, hi, rfl, hbel⟩ := hrel
        obtain ⟨we, rfl⟩ : ∃ we, we = wr := ⟨wr, rfl⟩
        have hblk := HZK.out.below hbel hgZ
        obtain rfl | rfl | rfl | rfl : i = 0 ∨ i = 1 ∨ i = 2 ∨ i = 3 := by omega
        · rw [show ((0 : Nat) : Int) = 0 from rfl]
          have CU1 := hide (unpack_any A5 (l5.length) (c5) (l5) we ((HZ5.out).same hbel) (HLB0.out).1 (HLB0.out).2)
          have CU2 := hide (fun W (hb : Below Z.heap.size Z W) => refUnpack_any A5 (l5.length) (c5) (l5) W ((HZ5.out).same hb) (HLB0.out).1 (HLB0.out).2)
          have HUL := hide (unRast_len (l5))
          generalize Ce.unErr (l5) = err at *
          generalize Ce.unRast (l5) = ur at *
          have d0 : we.cell? ⟨gz, 0, none⟩ = some (.slice A5 l5.length c5) := by rw [hblk.cell]; rfl
          have HBK := hide hblk
          have HB := hide hbel
          have hgl := hblk.lt
          clear hblk hbel
          go_wp2_with (first
            | (go_at_call 31; refine (unhide CU1).mono ?_; rintro e x1 ⟨v1, rfl, hr1, hb1⟩; have X1 := hide (HB.out.trans (hb1.mono HB.out.size)); have R1 := hide hr1; obtain ⟨E1, m1, k1, rfl, _, _⟩ := hr1; have x1c := HBK.out.below hb1 hgl; have f0 : ∀ o, (x1.alloc o).cell? ⟨gz, 0, none⟩ = some (.slice A5 l5.length c5) := (fun o => by rw [(x1c.alloc o).cell]; rfl); clear hb1 x1c)
            | (go_at_call 32; refine (unhide CU2 _ (X1.out.alloc X1.out.size (.cells #[.int .i64 (ur.W : Int), .int .i64 (ur.H : Int), .slice E1 m1 k1] 42))).mono ?_; rintro e x2 ⟨v2, rfl, hr2, hb2⟩; have HK1 := hide ((Blk.new x1 42 #[.int .i64 (ur.W : Int), .int .i64 (ur.H : Int), .slice E1 m1 k1]).below hb2 (by simp)); have X2 := hide ((X1.out.alloc X1.out.size (.cells #[.int .i64 (ur.W : Int), .int .i64 (ur.H : Int), .slice E1 m1 k1] 42)).trans (hb2.mono (X1.out.alloc X1.out.size (.cells #[.int .i64 (ur.W : Int), .int .i64 (ur.H : Int), .slice E1 m1 k1] 42)).size)); have R12 := hide ((R1.out.below (below_alloc x1 _)).below hb2); have R2 := hide hr2; obtain ⟨E2, m2, k2, rfl, _, _⟩ := hr2; have EQ := hide (fun o => sameRaster_eq _ _ ur (x2.alloc o) (R12.out.below (below_alloc x2 o)) (R2.out.below (below_alloc x2 o)) HUL.out); have q0 : ∀ o, (x2.alloc o).cell? ⟨x1.heap.size, 0, none⟩ = some (.int .i64 (ur.W : Int)) := (fun o => by rw [(HK1.out.alloc o).cell]; rfl); have q1 : ∀ o, (x2.alloc o).cell? ⟨x1.heap.size, 1, none⟩ = some (.int .i64 (ur.H : Int)) := (fun o => by rw [(HK1.out.alloc o).cell]; rfl); have q2 : ∀ o, (x2.alloc o).cell? ⟨x1.heap.size, 2, none⟩ = some (.slice E1 m1 k1) := (fun o => by rw [(HK1.out.alloc o).cell]; rfl); clear hb2)
            | (go_at_call 33; refine (unhide EQ _).mono ?_; rintro e x3 ⟨rfl, hb3⟩; have X3 := hide ((X2.out.alloc X2.out.size _).trans (hb3.mono (X2.out.alloc X2.out.size _).size)); clear hb3))
          exact ⟨⟨0+1, by omega, by rfl, X3.out⟩, by simp [intOf]⟩
        · rw [show ((1 : Nat) : Int) = 1 from rfl]
          have CU1 := hide (unpack_any (some ⟨gp, 0, none⟩) (2) (2) ([List.replicate q (0 : UInt8), []]) we ((HZW.out).same hbel) (HLB1.out).1 (HLB1.out).2)
          have CU2 := hide (fun W (hb : Below Z.heap.size Z W) => refUnpack_any (some ⟨gp, 0, none⟩) (2) (2) ([List.replicate q (0 : UInt8), []]) W ((HZW.out).same hb) (HLB1.out).1 (HLB1.out).2)
          have HUL := hide (unRast_len ([List.replicate q (0 : UInt8), []]))
          generalize Ce.unErr ([List.replicate q (0 : UInt8), []]) = err at *
          generalize Ce.unRast ([List.replicate q (0 : UInt8), []]) = ur at *
          have d0 : we.cell? ⟨gz, 1, none⟩ = some (.slice (some ⟨gp, 0, none⟩) 2 2) := by rw [hblk.cell]; rfl
          have HBK := hide hblk
          have HB := hide hbel
          have hgl := hblk.lt
          clear hblk hbel
          go_wp2_with (first
            | (go_at_call 31; refine (unhide CU1).mono ?_; rintro e x1 ⟨v1, rfl, hr1, hb1⟩; have X1 := hide (HB.out.trans (hb1.mono HB.out.size)); have R1 := hide hr1; obtain ⟨E1, m1, k1, rfl, _, _⟩ := hr1; have x1c := HBK.out.below hb1 hgl; have f0 : ∀ o, (x1.alloc o).cell? ⟨gz, 1, none⟩ = some (.slice (some ⟨gp, 0, none⟩) 2 2) := (fun o => by rw [(x1c.alloc o).cell]; rfl); clear hb1 x1c)
            | (go_at_call 32; refine (unhide CU2 _ (X1.out.alloc X1.out.size (.cells #[.int .i64 (ur.W : Int), .int .i64 (ur.H : Int), .slice E1 m1 k1] 42))).mono ?_; rintro e x2 ⟨v2, rfl, hr2, hb2⟩; have HK1 := hide ((Blk.new x1 42 #[.int .i64 (ur.W : Int), .int .i64 (ur.H : Int), .slice E1 m1 k1]).below hb2 (by simp)); have X2 := hide ((X1.out.alloc X1.out.size (.cells #[.int .i64 (ur.W : Int), .int .i64 (ur.H : Int), .slice E1 m1 k1] 42)).trans (hb2.mono (X1.out.alloc X1.out.size (.cells #[.int .i64 (ur.W : Int), .int .i64 (ur.H : Int), .slice E1 m1 k1] 42)).size)); have R12 := hide ((R1.out.below (below_alloc x1 _)).below hb2); have R2 := hide hr2; obtain ⟨E2, m2, k2, rfl, _, _⟩ := hr2; have EQ := hide (fun o => sameRaster_eq _ _ ur (x2.alloc o) (R12.out.below (below_alloc x2 o)) (R2.out.below (below_alloc x2 o)) HUL.out); have q0 : ∀ o, (x2.alloc o).cell? ⟨x1.heap.size, 0, none⟩ = some (.int .i64 (ur.W : Int)) := (fun o => by rw [(HK1.out.alloc o).cell]; rfl); have q1 : ∀ o, (x2.alloc o).cell? ⟨x1.heap.size, 1, none⟩ = some (.int .i64 (ur.H : Int)) := (fun o => by rw [(HK1.out.alloc o).cell]; rfl); have q2 : ∀ o, (x2.alloc o).cell? ⟨x1.heap.size, 2, none⟩ = some (.slice E1 m1 k1) := (fun o => by rw [(HK1.out.alloc o).cell]; rfl); clear hb2)
            | (go_at_call 33; refine (unhide EQ _).mono ?_; rintro e x3 ⟨rfl, hb3⟩; have X3 := hide ((X2.out.alloc X2.out.size _).trans (hb3.mono (X2.out.alloc X2.out.size _).size)); clear hb3))
          exact ⟨⟨1+1, by omega, by rfl, X3.out⟩, by simp [intOf]⟩
        · rw [show ((2 : Nat) : Int) = 2 from rfl]
          have CU1 := hide (unpack_any none (0) (0) ([]) we (((Pg.nil Z _)).same hbel) (HLB2.out).1 (HLB2.out).2)
          have CU2 := hide (fun W (hb : Below Z.heap.size Z W) => refUnpack_any none (0) (0) ([]) W (((Pg.nil Z _)).same hb) (HLB2.out).1 (HLB2.out).2)
          have HUL := hide (unRast_len ([]))
          generalize Ce.unErr ([]) = err at *
          generalize Ce.unRast ([]) = ur at *
          have d0 : we.cell? ⟨gz, 2, none⟩ = some (.slice none 0 0) := by rw [hblk.cell]; rfl
          have HBK := hide hblk
          have HB := hide hbel
          have hgl := hblk.lt
          clear hblk hbel
          go_wp2_with (first
            | (go_at_call 31; refine (unhide CU1).mono ?_; rintro e x1 ⟨v1, rfl, hr1, hb1⟩; have X1 := hide (HB.out.trans (hb1.mono HB.out.size)); have R1 := hide hr1; obtain ⟨E1, m1, k1, rfl, _, _⟩ := hr1; have x1c := HBK.out.below hb1 hgl; have f0 : ∀ o, (x1.alloc o).cell? ⟨gz, 2, none⟩ = some (.slice none 0 0) := (fun o => by rw [(x1c.alloc o).cell]; rfl); clear hb1 x1c)
            | (go_at_call 32; refine (unhide CU2 _ (X1.out.alloc X1.out.size (.cells #[.int .i64 (ur.W : Int), .int .i64 (ur.H : Int), .slice E1 m1 k1] 42))).mono ?_; rintro e x2 ⟨v2, rfl, hr2, hb2⟩; have HK1 := hide ((Blk.new x1 42 #[.int .i64 (ur.W : Int), .int .i64 (ur.H : Int), .slice E1 m1 k1]).below hb2 (by simp)); have X2 := hide ((X1.out.alloc X1.out.size (.cells #[.int .i64 (ur.W : Int), .int .i64 (ur.H : Int), .slice E1 m1 k1] 42)).trans (hb2.mono (X1.out.alloc X1.out.size (.cells #[.int .i64 (ur.W : Int), .int .i64 (ur.H : Int), .slice E1 m1 k1] 42)).size)); have R12 := hide ((R1.out.below (below_alloc x1 _)).below hb2); have R2 := hide hr2; obtain ⟨E2, m2, k2, rfl, _, _⟩ := hr2; have EQ := hide (fun o => sameRaster_eq _ _ ur (x2.alloc o) (R12.out.below (below_alloc x2 o)) (R2.out.below (below_alloc x2 o)) HUL.out); have q0 : ∀ o, (x2.alloc o).cell? ⟨x1.heap.size, 0, none⟩ = some (.int .i64 (ur.W : Int)) := (fun o => by rw [(HK1.out.alloc o).cell]; rfl); have q1 : ∀ o, (x2.alloc o).cell? ⟨x1.heap.size, 1, none⟩ = some (.int .i64 (ur.H : Int)) := (fun o => by rw [(HK1.out.alloc o).cell]; rfl); have q2 : ∀ o, (x2.alloc o).cell? ⟨x1.heap.size, 2, none⟩ = some (.slice E1 m1 k1) := (fun o => by rw [(HK1.out.alloc o).cell]; rfl); clear hb2)
            | (go_at_call 33; refine (unhide EQ _).mono ?_; rintro e x3 ⟨rfl, hb3⟩; have X3 := hide ((X2.out.alloc X2.out.size _).trans (hb3.mono (X2.out.alloc X2.out.size _).size)); clear hb3))
          exact ⟨⟨2+1, by omega, by rfl, X3.out⟩, by simp [intOf]⟩
        · rw [show ((3 : Nat) : Int) = 3 from rfl]
          have HEND := hide (HWZ.out.trans (hbel.mono HWZ.out.size))
          clear hblk hbel
          go_wp2_with (go_at_call 17; refine (unhide HLV _).mono ?_; rintro e x9 ⟨rfl, hb9⟩; have X9 := hide (HEND.out.trans (hb9.mono HEND.out.size)); clear hb9)
          go_ret
          exact ⟨rfl, X9.out⟩
end Go.Proofs.Ytedgjpoejoepjab
