/-
  Cells: the law CellPacked, walked.
-/
import Derived.Test.YtdjmfjmijpfijaaDoorPackedC
import Derived.Test.YtdjmfjmijpfijaaDoorPageD
import Derived.Test.YtdjmfjmijpfijaaDoorCountD
import Derived.Test.YtdjmfjmijpfijaaDoorLivesC
namespace Go.Proofs.YtdjmfjmijpfijaaDoor
open Go.RowKit
set_option linter.unusedVariables false
set_option linter.unusedSimpArgs false
theorem un_small (ls : List (List UInt8)) (m k : Nat) (h1 : Ce.wide ls ≤ m) (h2 : ls.length ≤ k) (h3 : 2 * m * (3 * k) ≤ 65536) (h4 : 2 * m ≤ 65536) (h5 : 3 * k ≤ 65536) : Ce.canPage ls = true := by
  unfold Ce.canPage Ce.can
  have e : (2 * (Ce.wide ls : Int)) * (3 * (ls.length : Int)) = ((2 * Ce.wide ls * (3 * ls.length) : Nat) : Int) := by
    rw [Int.natCast_mul, Int.natCast_mul, Int.natCast_mul]; rfl
  have h6 : 2 * Ce.wide ls * (3 * ls.length) ≤ 2 * m * (3 * k) := Nat.mul_le_mul (by omega) (by omega)
  rw [e]
  exact decide_eq_true ⟨by omega, by omega, by omega, by omega, by omega⟩
theorem un_ok {ls : List (List UInt8)} (hv : Ce.allValid ls = true) (hc : Ce.canPage ls = true) : Ce.unErr ls = 0 ∧ Ce.unRast ls = ⟨2 * Ce.wide ls, 3 * ls.length, Ce.unBits ls (2 * Ce.wide ls) (3 * ls.length)⟩ := by
  unfold Ce.unErr Ce.unRast
  rw [hv, hc]
  exact ⟨rfl, rfl⟩
theorem un_bad {ls : List (List UInt8)} (hv : Ce.allValid ls = false) : Ce.unErr ls = 1 := by
  unfold Ce.unErr
  rw [hv]
  rfl
theorem step_quiet_rast {ops : Array Oper} {o : Oper} {a : Act} {C : World → Prop} {K : Act → Prop} {E : Prop} (hw : Region.wanted o (yielded ops a.tmps) = true) (x : Operand) (ho : o.op = .load 37 x)
    (g : Nat) (hx : a.eval x = .pointer (some ⟨g, 0, none⟩)) (v1 v2 v3 : Value) (hc : ∀ w, C w → Blk w g 37 #[v1, v2, v3]) (h : K (a.put o.dst (.agg #[v1, v2, v3]))) :
    if Region.wanted o (yielded ops a.tmps) = true then o.quiet Tryd.prog a C K else E := by
  rw [if_pos hw]
  refine ⟨_, fun w hC => ?_, h⟩
  unfold Oper.quietAt execOp
  simp only [ho, hx, Instr.loadAt, Instr.sureAddr, Sem.run_bind, Sem.run_pure, Result.andThen_ok, load_rast (hc w hC)]
  exact ⟨rfl, rfl⟩
set_option maxHeartbeats 8000000 in
set_option maxRecDepth 100000 in
theorem packed_walk (A0 A1 : Option Addr) (n0 c0 n1 c1 : Nat) (xs0 xs1 : List Int) (w : World) (hr0 : Reads w w.heap.size 1 A0 n0 (xs0.map (Value.int .i64))) (hx0 : ∀ x ∈ xs0, Wr.inI x)
    (hr1 : Reads w w.heap.size 1 A1 n1 (xs1.map (Value.int .i64))) (hx1 : ∀ x ∈ xs1, Wr.inI x) :
    Calls Tryd.prog 4 #[.slice A0 n0 c0, .slice A1 n1 c1] w fun e w' => e = .returned (.bool true) ∧ Below w.heap.size w w' := by
  have HLV := hide lives_any
  have CR := hide (raster_any A0 n0 c0 xs0 w hr0 hx0)
  have CPG := hide (fun (W : World) (hb : Below w.heap.size w W) => page_any A1 n1 c1 xs1 W ((hr1.below hb).more hb.size) hx1)
  have hgW : (Ce.genRast xs0).W ≤ 14 := by have := Ce.atN_lt xs0 0 15 (by omega); show Ce.atN xs0 0 15 ≤ 14; omega
  have hgH : (Ce.genRast xs0).H ≤ 13 := by have := Ce.atN_lt xs0 1 14 (by omega); show Ce.atN xs0 1 14 ≤ 13; omega
  have hgl : (Ce.genRast xs0).bits.length = (Ce.genRast xs0).W * (Ce.genRast xs0).H := by simp [Ce.genRast]
  rcases hgr : Ce.genRast xs0 with ⟨W, H, bits⟩
  rw [hgr] at CR hgW hgH hgl
  simp only at hgW hgH hgl
  have hWH : W * H ≤ 182 := Nat.le_trans (Nat.mul_le_mul hgW hgH) (by decide)
  clear hr0 hx0 hr1 hx1 hgr
  go_enter Tryd.func4, Tryd.ntmps4
  go_upto_region 2 with (go_at_call 14; refine (unhide CR).mono ?_; rintro e w1 ⟨v1, rfl, hra, hb1⟩; have H1 := hide hb1; obtain ⟨A, n, c, rfl, hnc, hrb⟩ := hra; have HRB := hide hrb; clear hb1 hrb)
  have hn : n = W * H := by have := HRB.out.1; simp at this; omega
  refine name_world fun V hV => ?_
  have HV5 := hide (show Blk V w1.heap.size 37 #[.int .i64 (W : Int), .int .i64 (H : Int), .slice A n c] by rw [← hV.out]; exact Blk.new w1 _ _)
  have HVB := hide (show Below w1.heap.size w1 V by rw [← hV.out]; exact below_alloc w1 _)
  have HRV := hide ((HRB.out.below HVB.out).more HVB.out.size)
  have HWV := hide (H1.out.trans (HVB.out.mono H1.out.size))
  clear hV
  have hc0 : V.cell? ⟨w1.heap.size, 0, none⟩ = some (.int .i64 (W : Int)) := HV5.out.cell 0
  have hc1 : V.cell? ⟨w1.heap.size, 1, none⟩ = some (.int .i64 (H : Int)) := HV5.out.cell 1
  have hc2 : V.cell? ⟨w1.heap.size, 2, none⟩ = some (.slice A n c) := HV5.out.cell 2
  have hg5 := HV5.out.lt
  have CP := hide (pack_any A n c W H bits V HRV.out hn (by omega) (by omega) (by omega))
  generalize w1.heap.size = g5 at *
  -- the page
  have hpl := Ce.pack_len W H bits
  have hpw := Ce.wide_pack_le W H bits
  have hpv := Ce.pack_valid W H bits
  have hcan := un_small (Ce.pack W H bits) 7 5 (by omega) (by omega) (by decide) (by decide) (by decide)
  obtain ⟨hue, hur⟩ := un_ok hpv hcan
  have hpn := Ce.pack_lines W H bits
  have HGN := hide (Ce.grid_pack W H bits)
  have HUB := hide (Ce.unBit_pack W H bits)
  have HWP := hide (fun h0 => Ce.wide_pack W H bits h0)
  obtain ⟨ps, hps⟩ : ∃ ps, ps = Ce.pack W H bits := ⟨_, rfl⟩
  rw [← hps] at CP hpl hpw hpv hcan hue hur hpn HGN HUB HWP
  have HPN := hide hpn
  have CU := hide (fun (X : World) (gp n : Nat) (hp : Pg X X.heap.size (some ⟨gp, 0, none⟩) n ps) (hn : n = ps.length) => unpack_any (some ⟨gp, 0, none⟩) n n ps X hp (by omega) (fun l hl => by have := HPN.out l hl; omega))
  rw [hue, hur] at CU
  obtain ⟨q, hq⟩ : ∃ q, q = (H + 2) / 3 := ⟨_, rfl⟩
  rw [← hq] at CP hpl
  have HPL := hide hpl
  have HQ := hide hq
  have HN := hide hn
  have HGL := hide hgl
  have hq5 : q ≤ 5 := by omega
  clear hue hur hcan hpn hps hpl hq hn hgl
  go_upto_region 3 with (go_at_call 15; refine (unhide CP).mono ?_; rintro e w2 ⟨gp, rfl, hpg, hb2⟩; have HPG := hide hpg; have H2 := hide hb2; clear hpg hb2)
  have CU3 := hide (unhide CU w2 gp q HPG.out HPL.out.symm)
  have HV52 := hide (HV5.out.below H2.out hg5)
  have HRV2 := hide ((HRV.out.below H2.out).more H2.out.size)
  have HW2 := hide (HWV.out.trans (H2.out.mono HWV.out.size))
  have hg52 := HV52.out.lt
  clear hc0 hc1 hc2 CP CU
  go_upto_region 4 with (go_at_call 16; refine (unhide CU3).mono ?_; rintro e w3 ⟨v3, rfl, hra, hb3⟩; have H3 := hide hb3; obtain ⟨A3, n3, c3, rfl, hnc3, hrb3⟩ := hra; have HRB3 := hide hrb3; clear hb3 hrb3)
  refine name_world fun X hX => ?_
  rw [HPL.out] at hX HRB3 ⊢
  have hn3 : n3 = 2 * Ce.wide ps * (3 * q) := by have := HRB3.out.1; simp [Ce.unBits_len] at this; omega
  have hw2q : 2 * Ce.wide ps ≤ 14 := by omega
  have HUN := hide (fun x y => Ce.bitTo_un ps x y)
  rw [HPL.out] at HUN HGN
  obtain ⟨W2, hW2⟩ : ∃ W2, W2 = 2 * Ce.wide ps := ⟨_, rfl⟩
  obtain ⟨H2', hH2⟩ : ∃ H2', H2' = 3 * q := ⟨_, rfl⟩
  have HUB2 := hide (show ∀ x y, Ce.bitTo W2 H2' (Ce.unBits ps W2 H2') (W2 * H2') x y = Ce.bitTo W H bits (W * H) x y by
    intro x y
    rw [hW2, hH2, unhide HUN x y, unhide HUB x y])
  have HGN2 := hide (show Ce.grid (fun x y => Ce.bitTo W H bits (W * H) x y) W2 H2' = Ce.nds ps by
    rw [← HGN.out, hW2, hH2]
    congr 1
    funext x y
    exact (unhide HUB x y).symm)
  have hWW : 0 < H → W2 = W + W % 2 := fun h0 => by rw [hW2, unhide HWP h0]; omega
  have hHH : H2' = (H + 2) / 3 * 3 := by have := HQ.out; omega
  rw [← hW2, ← hH2] at HRB3 hn3
  have hW2i : (W2 : Int) = 2 * (Ce.wide ps : Int) := by omega
  have hH2i : (H2' : Int) = 3 * (q : Int) := by omega
  have hw2 : W2 ≤ 14 := by omega
  have hh2 : H2' ≤ 15 := by omega
  have hnb : n3 ≤ 210 := by rw [hn3]; exact Nat.le_trans (Nat.mul_le_mul hw2 hh2) (by decide)
  have HX8 := hide (show Blk X w3.heap.size 37 #[.int .i64 (W2 : Int), .int .i64 (H2' : Int), .slice A3 n3 c3] by rw [hW2i, hH2i, ← hX.out]; exact Blk.new w3 _ _)
  have HXB := hide (show Below w3.heap.size w3 X by rw [← hX.out]; exact below_alloc w3 _)
  rw [← hW2i, ← hH2i]
  have h3s := H3.out.size
  have HX5 := hide ((HV52.out.below H3.out hg52).below HXB.out (by omega))
  have HRX := hide (((HRV2.out.below H3.out).more h3s |>.below HXB.out).more HXB.out.size)
  have HR3X := hide ((HRB3.out.below HXB.out).more HXB.out.size)
  have HPX := hide ((HPG.out.same H3.out).same HXB.out)
  have HWX := hide (HW2.out.trans (((H3.out.trans (HXB.out.mono h3s))).mono HW2.out.size))
  have hc50 : X.cell? ⟨g5, 0, none⟩ = some (.int .i64 (W : Int)) := HX5.out.cell 0
  have hc51 : X.cell? ⟨g5, 1, none⟩ = some (.int .i64 (H : Int)) := HX5.out.cell 1
  have hc52 : X.cell? ⟨g5, 2, none⟩ = some (.slice A n c) := HX5.out.cell 2
  have hc80 : X.cell? ⟨w3.heap.size, 0, none⟩ = some (.int .i64 (W2 : Int)) := HX8.out.cell 0
  have hc81 : X.cell? ⟨w3.heap.size, 1, none⟩ = some (.int .i64 (H2' : Int)) := HX8.out.cell 1
  have hc82 : X.cell? ⟨w3.heap.size, 2, none⟩ = some (.slice A3 n3 c3) := HX8.out.cell 2
  have hg5X := HX5.out.lt
  have hg8X := HX8.out.lt
  generalize w3.heap.size = g8 at *
  have hmul : (W2 : Int) * (H2' : Int) = (n3 : Int) := by rw [hn3]; exact (Int.natCast_mul _ _).symm
  have hm1 : IntKind.i64.wrap ((W2 : Int) * (H2' : Int)) = (n3 : Int) := by rw [hmul, IntWalk.i64_in _ (by omega)]
  have hm2 : wrap64 ((W2 : Int) * (H2' : Int)) = (n3 : Int) := by rw [hmul]; exact wrap64_in (by omega) (by omega)
  have hnn : ((n3 : Int) != (n3 : Int)) = false := by simp
  have HN3 := hide hn3
  have HW2E := hide hWW
  have HH2E := hide hHH
  clear hmul hX hn3 hWW hHH hW2 hH2 hW2i hH2i hpw hpv hw2q HV5 HVB HRV HWV HRB HRB3 HPG HRV2 HV52 HW2
  go_upto_region 6 with fail
  obtain ⟨r2, hr2⟩ : ∃ r2, r2 = W % 2 := ⟨_, rfl⟩
  have hW0 : (0 : Int) ≤ (W : Int) := by omega
  have hW14 : (W : Int) ≤ 14 := by omega
  have hH0 : (0 : Int) ≤ (H : Int) := by omega
  have hH13 : (H : Int) ≤ 13 := by omega
  have hq0 : (0 : Int) ≤ (q : Int) := by omega
  have hq5i : (q : Int) ≤ 5 := by omega
  have hr0 : (0 : Int) ≤ (r2 : Int) := by omega
  have hr1 : (r2 : Int) ≤ 1 := by omega
  have e1 : (W : Int) % 2 = (r2 : Int) := by omega
  have e2 : ((H : Int) + 2) / 3 = (q : Int) := by have := HQ.out; omega
  have e3 : ((H2' : Int) != (q : Int) * 3) = false := by
    have h1 := HH2E.out
    have h2 := HQ.out
    rw [← h2] at h1
    rw [bne_eq_false_iff_eq]
    omega
  have E4 := hide (show 0 < H → ((W2 : Int) != (W : Int) + (r2 : Int)) = false from fun h => by
    have := unhide HW2E h
    rw [bne_eq_false_iff_eq]
    omega)
  clear hr2
  have HREF := hide (Below.refl X.heap.size X)
  go_cut [77] (fun s77 wx => s77 = .bool false ∧ X = wx)
  case first =>
    rcases Nat.eq_zero_or_pos H with hz | hz
    · have hH : ¬ ((0 : Int) < (H : Int)) := by omega
      rcases Nat.eq_zero_or_pos W with hz2 | hz2
      · have hWz : ¬ ((0 : Int) < (W : Int)) := by omega
        clear hz hz2
        go_wp2
        go_meet
        exact ⟨by first | rfl | trivial, by first | rfl | trivial⟩
      · have hWz : (0 : Int) < (W : Int) := by omega
        clear hz hz2
        go_wp2
        go_meet
        exact ⟨by first | rfl | trivial, by first | rfl | trivial⟩
    · have hH : (0 : Int) < (H : Int) := by omega
      have e4 := unhide E4 hz
      rcases Nat.eq_zero_or_pos W with hz2 | hz2
      · have hWz : ¬ ((0 : Int) < (W : Int)) := by omega
        clear hz hz2
        go_wp2
        go_meet
        exact ⟨by first | rfl | trivial, by first | rfl | trivial⟩
      · have hWz : (0 : Int) < (W : Int) := by omega
        clear hz hz2
        go_wp2
        go_meet
        exact ⟨by first | rfl | trivial, by first | rfl | trivial⟩
  case rest =>
    obtain ⟨rfl, rfl⟩ := hcut
    clear e1 e2 e3 E4 hm1 hm2 hnn hc50 hc51 hc52 hc80 hc81 hc82 hr0 hr1
    have CDQ := hide (fun (Y : World) (hb : Below X.heap.size X Y) (x y : Nat) => (show Calls Tryd.prog 17 #[.agg #[.int .i64 (W2 : Int), .int .i64 (H2' : Int), .slice A3 n3 c3], .int .i64 (x : Int), .int .i64 (y : Int)] Y fun e w' => e = .returned (.bool (Ce.bitTo W H bits (W * H) x y)) ∧ Below Y.heap.size Y w' from by
      rw [← unhide HUB2 x y]
      exact dot_any A3 n3 c3 W2 H2' _ Y ((HR3X.out.below hb).more hb.size) HN3.out (by omega) (by omega) (by omega) x y))
    have CDR := hide (fun (Y : World) (hb : Below X.heap.size X Y) (x y : Nat) => dot_any A n c W H bits Y ((HRX.out.below hb).more hb.size) HN.out (by omega) (by omega) (by have := HN.out; omega) x y)
    have HGR := hide (show ∀ y, y ≤ H2' → Ce.grid (fun x y => Ce.bitTo W H bits (W * H) x y) W2 y ≤ 300 from fun y hy => Nat.le_trans (Ce.grid_le _ W2 y) (Nat.le_trans (Nat.mul_le_mul (show y ≤ 15 by omega) hw2) (by decide)))
    have hw20 : (0 : Int) ≤ (W2 : Int) := by omega
    have hw21 : (W2 : Int) ≤ 14 := by omega
    have hh20 : (0 : Int) ≤ (H2' : Int) := by omega
    have hh21 : (H2' : Int) ≤ 15 := by omega
    obtain ⟨f, hf⟩ : ∃ f : Nat → Nat → Bool, f = fun x y => Ce.bitTo W H bits (W * H) x y := ⟨_, rfl⟩
    have hfx : ∀ x y, Ce.bitTo W H bits (W * H) x y = f x y := fun x y => by rw [hf]
    rw [← hf] at HGR HGN2
    simp only [hfx] at CDQ CDR
    clear hf hfx
    go_wp2
    go_loopw [11, 10] (fun s11 s10 wr => ∃ y : Nat, y ≤ H2' ∧ s11 = .int .i64 (y : Int) ∧ s10 = .int .i64 ((Ce.grid f W2 y : Nat) : Int) ∧ Below X.heap.size X wr) (fun s11 _ _ => H2' - (intOf s11).toNat)
    case atStart => exact ⟨0, by omega, rfl, rfl, HREF.out⟩
    case round =>
      obtain ⟨y, hy, rfl, rfl, hbel⟩ := hrel
      obtain ⟨wd, rfl⟩ : ∃ wd, wd = wr := ⟨wr, rfl⟩
      have HB := hide hbel
      have hd8 := HX8.out.below hbel hg8X
      have hc81 : wd.cell? ⟨g8, 1, none⟩ = some (.int .i64 (H2' : Int)) := hd8.cell 1
      have hy0 : (0 : Int) ≤ (y : Int) := by omega
      have hgy := unhide HGR y hy
      by_cases hlt : y < H2'
      · have hy1 : (y : Int) < (H2' : Int) := by omega
        have HLT := hide hlt
        have hgz : Ce.rowN f y 0 = 0 := rfl
        have HGS := hide (show Ce.grid f W2 (y + 1) = Ce.grid f W2 y + Ce.rowN f y W2 from rfl)
        generalize Ce.grid f W2 y = gy at *
        clear hbel hlt hd8 hgz
        go_wp2
        go_loopw [12, 10] (fun s12 s10 wr => ∃ x : Nat, x ≤ W2 ∧ s12 = .int .i64 (x : Int) ∧ s10 = .int .i64 ((gy + Ce.rowN f y x : Nat) : Int) ∧ Below X.heap.size X wr) (fun s12 _ _ => W2 - (intOf s12).toNat)
        case atStart => exact ⟨0, by omega, rfl, rfl, HB.out⟩
        case round =>
          clear hc81
          obtain ⟨x, hx, rfl, rfl, hbel⟩ := hrel
          obtain ⟨we, rfl⟩ : ∃ we, we = wr := ⟨wr, rfl⟩
          have HE := hide hbel
          have hd8 := HX8.out.below hbel hg8X
          have hc80 : we.cell? ⟨g8, 0, none⟩ = some (.int .i64 (W2 : Int)) := hd8.cell 0
          have hx0 : (0 : Int) ≤ (x : Int) := by omega
          by_cases hlt : x < W2
          · have hx1 : (x : Int) < (W2 : Int) := by omega
            have HLX := hide hlt
            have hrl := Ce.rowN_le f y x
            have HRN := hide (show Ce.rowN f y (x + 1) = Ce.rowN f y x + (if f x y then 1 else 0) from rfl)
            have HB8 := hide (fun (Y : World) (hb : Below we.heap.size we Y) => HX8.out.below (HE.out.trans (hb.mono HE.out.size)) hg8X)
            have HB5 := hide (fun (Y : World) (hb : Below we.heap.size we Y) => HX5.out.below (HE.out.trans (hb.mono HE.out.size)) hg5X)
            have CQ := hide (fun (Y : World) (hb : Below we.heap.size we Y) => unhide CDQ Y (HE.out.trans (hb.mono HE.out.size)) x y)
            have CR2 := hide (fun (Y : World) (hb : Below we.heap.size we Y) => unhide CDR Y (HE.out.trans (hb.mono HE.out.size)) x y)
            have hff : (f x y != f x y) = false := by simp
            generalize f x y = b at *
            clear hbel hlt hd8
            go_upto_region 15 with fail
            refine wp_region_below (by kernel_rfl) (by kernel_rfl) ?_
            repeat (refine wpQuiet_step (fun K hK => ?_); first
              | (refine step_quiet_rast ?_ (.tmp 8) rfl g8 rfl _ _ _ (unhide HB8) ?_; (rfl); refine hK _ ?_; clear hK K)
              | (refine step_quiet_rast ?_ (.tmp 5) rfl g5 rfl _ _ _ (unhide HB5) ?_; (rfl); refine hK _ ?_; clear hK K)
              | (go_simp; first
                | (refine hK _ ?_; clear hK K)
                | (refine ⟨_, fun wq hq => rfl, hK _ ?_⟩; clear hK K)
                | ((with_reducible refine ⟨.bool b, fun wq hq => (unhide CQ wq hq).mono fun e w' h => And.intro h.1 (hq.trans (h.2.mono hq.size)), ?_⟩); refine hK _ ?_; clear hK K)
                | ((with_reducible refine ⟨.bool b, fun wq hq => (unhide CR2 wq hq).mono fun e w' h => And.intro h.1 (hq.trans (h.2.mono hq.size)), ?_⟩); refine hK _ ?_; clear hK K)))
            refine wpQuiet_nil ?_
            intro x3 hx3
            have HX3 := hide (HE.out.trans (hx3.mono HE.out.size))
            have hk5 := HX5.out.below HX3.out hg5X
            have k50 : x3.cell? ⟨g5, 0, none⟩ = some (.int .i64 (W : Int)) := hk5.cell 0
            have k51 : x3.cell? ⟨g5, 1, none⟩ = some (.int .i64 (H : Int)) := hk5.cell 1
            have k52 : x3.cell? ⟨g5, 2, none⟩ = some (.slice A n c) := hk5.cell 2
            have C3 := hide (unhide CR2 x3 hx3)
            clear hx3 hk5 HB8 HB5 CQ CR2 hc80 hff
            generalize Ce.rowN f y x = rx at *
            have hgx0 : (0 : Int) ≤ (gy : Int) + (rx : Int) := by omega
            have hgx1 : (gy : Int) + (rx : Int) ≤ 400 := by omega
            cases b with
            | true =>
              rw [if_pos rfl] at HRN
              go_wp2_with (go_at_call 17; refine (unhide C3).mono ?_; rintro e x4 ⟨rfl, hb⟩; have HX4 := hide (HX3.out.trans (hb.mono HX3.out.size)); clear hb)
              exact ⟨⟨x + 1, HLX.out, by go_num, by have h := HRN.out; congr 1; omega, HX4.out⟩, by have := HLX.out; simp [intOf]; omega⟩
            | false =>
              rw [if_neg (by decide), Nat.add_zero] at HRN
              go_wp2_with (go_at_call 17; refine (unhide C3).mono ?_; rintro e x4 ⟨rfl, hb⟩; have HX4 := hide (HX3.out.trans (hb.mono HX3.out.size)); clear hb)
              exact ⟨⟨x + 1, HLX.out, by go_num, by have h := HRN.out; congr 1; omega, HX4.out⟩, by have := HLX.out; simp [intOf]; omega⟩
          · obtain rfl : x = W2 := by omega
            have hnt : ¬ ((x : Int) < (x : Int)) := by omega
            rw [← HGS.out]
            clear hbel hlt hd8
            go_wp2
            exact ⟨⟨y + 1, HLT.out, by go_num, rfl, HE.out⟩, by have := HLT.out; simp [intOf]; omega⟩
      · obtain rfl : y = H2' := by omega
        rw [HGN2.out] at hgy ⊢
        have hd5 := HX5.out.below hbel hg5X
        have CC := hide (count_any (some ⟨gp, 0, none⟩) q q ps wd (HPX.out.same hbel) (by omega) (fun l hl => by have := HPN.out l hl; omega))
        have CP2 := hide (unhide CPG wd (HWX.out.trans (hbel.mono HWX.out.size)))
        have hnt : ¬ ((y : Int) < (y : Int)) := by omega
        have hdd : (((Ce.nds ps : Nat) : Int) == ((Ce.nds ps : Nat) : Int)) = true := by simp
        generalize ((Ce.nds ps : Nat) : Int) = d at *
        generalize ((Ce.nzs ps : Nat) : Int) = d2 at *
        have HWD := hide (HWX.out.trans (hbel.mono HWX.out.size))
        clear hbel hlt hd8 hd5 CDQ CDR HGR HUB2 HUN HUB
        go_upto_region 21 with (first
          | (go_at_call 7; refine (unhide CC).mono ?_; rintro e y1 ⟨rfl, rfl⟩)
          | (go_at_call 5; refine (unhide CP2).mono ?_; rintro e y2 ⟨Aq, cq, ls, rfl, hl5, hl1, hpq, hcq, hb⟩; have HL5 := hide hl5; have HL1 := hide hl1; have HPQ := hide hpq; have HY2 := hide (HWD.out.trans (hb.mono HWD.out.size)); clear hl5 hl1 hpq hcq hb))
        have hl5 := HL5.out
        have CU2 := hide (unpack_any Aq ls.length cq ls y2 HPQ.out (by omega) (fun l hl => by have := HL1.out l hl; omega))
        have hwl := Ce.wide_le 1001 ls HL1.out
        have hcan := un_small ls 1001 5 hwl hl5 (by decide) (by decide) (by decide)
        cases hv : Ce.allValid ls with
        | false =>
          rw [un_bad hv] at CU2
          clear hv hcan
          go_wp2_with (first
            | (go_at_call 16; refine (unhide CU2).mono ?_; rintro e y3 ⟨v3', rfl, hra, hb⟩; obtain ⟨A6, n6, c6, rfl, -, -⟩ := hra; have HY3 := hide (HY2.out.trans (hb.mono HY2.out.size)); clear hb)
            | (go_at_call 13; refine (unhide HLV _).mono ?_; rintro e y4 ⟨rfl, hb⟩; have HY4 := hide ((HY3.out.trans (below_alloc' y3 _ HY3.out.size)).trans (hb.mono (by have := HY3.out.size; simp; omega))); clear hb))
          go_ret
          exact ⟨rfl, HY4.out⟩
        | true =>
          obtain ⟨hue, hur⟩ := un_ok hv hcan
          rw [hue, hur] at CU2
          have HSM := hide (show sameB (Ce.pack (2 * Ce.wide ls) (3 * ls.length) (Ce.unBits ls (2 * Ce.wide ls) (3 * ls.length))) ls = true by
            unfold sameB
            rw [decide_eq_true_iff, Ce.canon_iff]
            exact Ce.pack_un ls hv)
          obtain ⟨W3, hW3⟩ : ∃ W3, W3 = 2 * Ce.wide ls := ⟨_, rfl⟩
          obtain ⟨H3', hH3⟩ : ∃ H3', H3' = 3 * ls.length := ⟨_, rfl⟩
          rw [← hW3, ← hH3] at CU2 HSM
          have hw3 : W3 ≤ 2002 := by omega
          have hh3 : H3' ≤ 15 := by omega
          clear hue hur hv hcan hW3 hH3
          go_upto_region 22 with (go_at_call 16; refine (unhide CU2).mono ?_; rintro e y3 ⟨v3', rfl, hra, hb⟩; obtain ⟨A6, n6, c6, rfl, -, hr6⟩ := hra; have HR6 := hide hr6; have HY23 := hide hb; have HY3 := hide (HY2.out.trans (hb.mono HY2.out.size)); clear hb hr6)
          have hn6 : n6 = W3 * H3' := by have := HR6.out.1; simp [Ce.unBits_len] at this; omega
          have hn6b : n6 ≤ 30030 := by rw [hn6]; exact Nat.le_trans (Nat.mul_le_mul hw3 hh3) (by decide)
          refine name_world fun U hU => ?_
          have HU := hide (show Blk U y3.heap.size 37 #[.int .i64 (W3 : Int), .int .i64 (H3' : Int), .slice A6 n6 c6] by rw [← hU.out]; exact Blk.new y3 _ _)
          have HUBB := hide (show Below y3.heap.size y3 U by rw [← hU.out]; exact below_alloc y3 _)
          have HPQU := hide ((HPQ.out.same HY23.out).same HUBB.out)
          have HYU := hide (HY3.out.trans (HUBB.out.mono HY3.out.size))
          have hu0 : U.cell? ⟨y3.heap.size, 0, none⟩ = some (.int .i64 (W3 : Int)) := HU.out.cell 0
          have hu1 : U.cell? ⟨y3.heap.size, 1, none⟩ = some (.int .i64 (H3' : Int)) := HU.out.cell 1
          have hu2 : U.cell? ⟨y3.heap.size, 2, none⟩ = some (.slice A6 n6 c6) := HU.out.cell 2
          have CP3 := hide (pack_any A6 n6 c6 W3 H3' _ U ((HR6.out.below HUBB.out).more HUBB.out.size) hn6 (by omega) (by omega) (by omega))
          have hpl3 := Ce.pack_len W3 H3' (Ce.unBits ls W3 H3')
          have hpn3 := Ce.pack_lines W3 H3' (Ce.unBits ls W3 H3')
          generalize Ce.pack W3 H3' (Ce.unBits ls W3 H3') = p3 at *
          obtain ⟨q3, hq3⟩ : ∃ q3, q3 = (H3' + 2) / 3 := ⟨_, rfl⟩
          rw [← hq3] at CP3 hpl3
          have hq35 : q3 ≤ 5 := by omega
          have CSM := hide (fun (Y : World) (hb : Below U.heap.size U Y) (g : Nat) (hp : Pg Y Y.heap.size (some ⟨g, 0, none⟩) q3 p3) => same_any (some ⟨g, 0, none⟩) Aq q3 ls.length q3 cq p3 ls Y hp (HPQU.out.same hb) (by omega) (by omega) (fun l hl => by have := hpn3 l hl; omega) (fun l hl => by have := HL1.out l hl; omega))
          rw [HSM.out] at CSM
          clear hU hn6 hpl3 hpn3 hq3
          generalize y3.heap.size = g16 at *
          go_wp2_with (first
            | (go_at_call 15; refine (unhide CP3).mono ?_; rintro e y4 ⟨g9, rfl, hpg, hb⟩; have HP4 := hide hpg; have HU4 := hide hb; have HY4 := hide (HYU.out.trans (hb.mono HYU.out.size)); clear hb hpg)
            | (go_at_call 11; refine (unhide CSM y4 HU4.out g9 HP4.out).mono ?_; rintro e y5 ⟨rfl, hb⟩; have HY5 := hide (HY4.out.trans (hb.mono HY4.out.size)); clear hb)
            | (go_at_call 13; refine (unhide HLV _).mono ?_; rintro e y6 ⟨rfl, hb⟩; have HY6 := hide (HY5.out.trans (hb.mono HY5.out.size)); clear hb))
          go_ret
          exact ⟨rfl, HY6.out⟩
end Go.Proofs.YtdjmfjmijpfijaaDoor
