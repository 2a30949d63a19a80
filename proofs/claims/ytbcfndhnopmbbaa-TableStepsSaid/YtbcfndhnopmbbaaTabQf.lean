/-
  Tables: the walk of the law of Steps. (Written by tools/gen_stl.py.)
-/
import Derived.Test.YtbcfndhnopmbbaaTabQe
import Derived.Test.YtbcfndhnopmbbaaTabBn
import Derived.Test.YtbcfndhnopmbbaaSpecT
namespace Go.Proofs.Ytbcfndhnopmbbaa
open Go.RowKit
set_option linter.unusedVariables false
set_option linter.unusedSimpArgs false
def ksSA (TV ZV TX : Value) (i : Int) (gs k : Nat) (L : List Tb.Sp) : List (World → Value → Prop) := [gIs (TV), gIs (.slice (some ⟨gs, 0, none⟩) 4 4), gIs (.int .i64 (k : Int)), gIs (.pointer (some ⟨gs, k * 3, none⟩)), gIs (ZV), gIs (ZV), gIs (TX), gIs (.int .i64 i), gSps L, gSps L, gIs (TV), gIs (.slice (some ⟨gs, 0, none⟩) 4 4), gIs (.int .i64 (k : Int)), gIs (.pointer (some ⟨gs, k * 3, none⟩)), gIs (ZV), gIs (TX), gIs (.int .i64 i), gSps L, gIs (.bool true)]
theorem ksSA_stab (TV ZV TX : Value) (i : Int) (gs k : Nat) (L : List Tb.Sp) : StabL (ksSA TV ZV TX i gs k L) := stabL_cons (stab_is _) (stabL_cons (stab_is _) (stabL_cons (stab_is _) (stabL_cons (stab_is _) (stabL_cons (stab_is _) (stabL_cons (stab_is _) (stabL_cons (stab_is _) (stabL_cons (stab_is _) (stabL_cons (stab_sps _) (stabL_cons (stab_sps _) (stabL_cons (stab_is _) (stabL_cons (stab_is _) (stabL_cons (stab_is _) (stabL_cons (stab_is _) (stabL_cons (stab_is _) (stabL_cons (stab_is _) (stabL_cons (stab_is _) (stabL_cons (stab_sps _) (stabL_cons (stab_is _) (stabL_nil)))))))))))))))))))
def ksSB (TV UV ZV TX MX : Value) (pl : Nat) (xa ap : Int) (gs k : Nat) (L M : List Tb.Sp) : List (World → Value → Prop) := [gIs (UV), gIs (.slice (some ⟨gs, 0, none⟩) 4 4), gIs (.int .i64 (k : Int)), gIs (.pointer (some ⟨gs, k * 3, none⟩)), gIs (ZV), gIs (ZV), gIs (TX), gIs (.int .i64 (pl : Int)), gSps L, gSps L, gIs (UV), gIs (.slice (some ⟨gs, 0, none⟩) 4 4), gIs (.int .i64 (k : Int)), gIs (.pointer (some ⟨gs, k * 3, none⟩)), gIs (ZV), gIs (TX), gIs (.int .i64 (pl : Int)), gSps L, gIs (.bool true), gIs (.bool false), gIs (.bool false), gIs (TV), gIs (.slice (some ⟨gs, 0, none⟩) 4 4), gIs (.int .i64 (k : Int)), gIs (.pointer (some ⟨gs, k * 3, none⟩)), gIs (ZV), gIs (ZV), gIs (MX), gIs (.int .i64 xa), gIs (.int .i64 (k : Int)), gIs (.int .i64 ap), gSps M, gSps M, gIs (TV), gIs (.slice (some ⟨gs, 0, none⟩) 4 4), gIs (.int .i64 (k : Int)), gIs (.pointer (some ⟨gs, k * 3, none⟩)), gIs (ZV), gIs (MX), gIs (.int .i64 xa), gIs (.int .i64 (k : Int)), gIs (.int .i64 ap), gSps M, gIs (.bool true), gIs (.bool false)]
theorem ksSB_stab (TV UV ZV TX MX : Value) (pl : Nat) (xa ap : Int) (gs k : Nat) (L M : List Tb.Sp) : StabL (ksSB TV UV ZV TX MX pl xa ap gs k L M) := stabL_cons (stab_is _) (stabL_cons (stab_is _) (stabL_cons (stab_is _) (stabL_cons (stab_is _) (stabL_cons (stab_is _) (stabL_cons (stab_is _) (stabL_cons (stab_is _) (stabL_cons (stab_is _) (stabL_cons (stab_sps _) (stabL_cons (stab_sps _) (stabL_cons (stab_is _) (stabL_cons (stab_is _) (stabL_cons (stab_is _) (stabL_cons (stab_is _) (stabL_cons (stab_is _) (stabL_cons (stab_is _) (stabL_cons (stab_is _) (stabL_cons (stab_sps _) (stabL_cons (stab_is _) (stabL_cons (stab_is _) (stabL_cons (stab_is _) (stabL_cons (stab_is _) (stabL_cons (stab_is _) (stabL_cons (stab_is _) (stabL_cons (stab_is _) (stabL_cons (stab_is _) (stabL_cons (stab_is _) (stabL_cons (stab_is _) (stabL_cons (stab_is _) (stabL_cons (stab_is _) (stabL_cons (stab_is _) (stabL_cons (stab_sps _) (stabL_cons (stab_sps _) (stabL_cons (stab_is _) (stabL_cons (stab_is _) (stabL_cons (stab_is _) (stabL_cons (stab_is _) (stabL_cons (stab_is _) (stabL_cons (stab_is _) (stabL_cons (stab_is _) (stabL_cons (stab_is _) (stabL_cons (stab_is _) (stabL_cons (stab_sps _) (stabL_cons (stab_is _) (stabL_cons (stab_is _) (stabL_nil)))))))))))))))))))))))))))))))))))))))))))))
set_option maxHeartbeats 16000000 in
set_option maxRecDepth 100000 in
theorem stepslaw_walk (n xa y z : Int) (A : Option Addr) (c : Nat) (l : List Int) (A2 : Option Addr) (c2 : Nat) (ml : Tb.Text) (lang : Int) (num inn : Bool) (w : World) (hn : Wr.inI n) (hx : Wr.inI xa) (hy : Wr.inI y) (hz : Wr.inI z) (hr : IntsAt w w.heap.size A l) (hm : Reads w w.heap.size 2 A2 ml.length (SC ml)) (hmc : ml.length ≤ c2) (hmc2 : c2 ≤ maxLen) (hT : TablesC n) (hL : LivesC) (hB : BentC) :
    Calls Try.prog 5 #[.int .i64 n, .int .i64 xa, .int .i64 y, .int .i64 z, .slice A l.length c, .slice A2 ml.length c2, .int .i64 lang, .bool num, .bool inn] w fun e w' => e = .returned (.bool true) ∧ Below w.heap.size w w' := by
  have CT := hide (hT w)
  have CL := hide hL
  have CS := hide (fun (W : World) (hb : Below w.heap.size w W) => syms_any A c l W ⟨(hr.1.below hb).more hb.size, hr.2⟩)
  obtain ⟨hmt, hml⟩ := text_raw hm
  have HMT := hide hmt
  have CR := hide (fun (W : World) => raw_any A2 ml.length c2 W hmc hmc2)
  have HZ := hide hz
  rw [← hml] at CR
  have hmlc : (ml.take 40).length ≤ c2 := by rw [hml]; omega
  generalize ml.take 40 = mx at *
  generalize ml.length = mn at *
  generalize Tb.symsT l = tx at *
  generalize l.length = ln at *
  clear hr hT hL hmt hm hml hmc hmc2
  go_enter Try.func5, Try.ntmps5
  go_upto_region 2 with (go_at_call 8; refine (unhide CT).mono ?_; rintro e w1 ⟨v, t, rfl, hta, hte, hb1⟩; have HTA := hide hta; have HTE := hide hte; have B1 := hide hb1; obtain ⟨A0, A1, c0, c1, rfl, hta'⟩ := hta; clear hta' hb1 hte)
  refine name_world fun V hV => ?_
  have VT := hide (show Blk V w1.heap.size 28 #[.slice A0 t.r0.length c0, .slice A1 t.r1.length c1, .slice t.dig.ad t.dig.l.length t.dig.c, .slice t.cap.ad t.cap.l.length t.cap.c, .slice t.num.ad t.num.l.length t.num.c, .slice t.fin.ad t.fin.l.length t.fin.c, .slice t.sw.ad t.sw.l.length t.sw.c] by rw [← hV.out]; exact Blk.new w1 _ _)
  have HV1 := hide (show Below w1.heap.size w1 V by rw [← hV.out]; exact below_alloc w1 _)
  have HVW := hide (B1.out.trans (HV1.out.mono B1.out.size))
  have CS1 := hide (CS.out V HVW.out)
  have HTV1 := hide ((HTA.out.below HV1.out).more HV1.out.size)
  have HFT := hide (fit_tablesT HTE.out)
  have hgt := VT.out.lt
  obtain ⟨gt, hgte⟩ : ∃ gt, gt = w1.heap.size := ⟨_, rfl⟩
  rw [← hgte] at VT hgt ⊢
  clear hV CS CT HTA HV1 B1 HTE hgte
  obtain ⟨TV, hTV⟩ : ∃ TV : Value, TV = .agg #[.slice A0 t.r0.length c0, .slice A1 t.r1.length c1, .slice t.dig.ad t.dig.l.length t.dig.c, .slice t.cap.ad t.cap.l.length t.cap.c, .slice t.num.ad t.num.l.length t.num.c, .slice t.fin.ad t.fin.l.length t.fin.c, .slice t.sw.ad t.sw.l.length t.sw.c] := ⟨_, rfl⟩
  have HTV := hide hTV.symm
  rw [← hTV] at HTV1
  clear hTV
  generalize t.r0.length = n0 at *
  generalize t.r1.length = n1 at *
  generalize t.dig.l.length = n2 at *
  generalize t.cap.l.length = n3 at *
  generalize t.num.l.length = n4 at *
  generalize t.fin.l.length = n5 at *
  generalize t.sw.l.length = n6 at *
  go_upto_region 3 with (go_at_call 15; refine (unhide CS1).mono ?_; rintro e w2 ⟨A', c', rfl, hc', htx, hb2⟩; have HTX := hide htx; have B2 := hide hb2; have hc2' := hc'; clear hb2 htx hc')
  clear CS1
  go_upto_region 4 with fail
  refine name_world fun B hBw => ?_
  have BS := hide (show Blk B w2.heap.size 53 #[.int .i64 0, .bool false, .bool false, .int .i64 0, .bool true, .bool false, .int .i64 1, .bool false, .bool false, .int .i64 lang, .bool num, .bool inn] by rw [← hBw.out]; exact Blk.new w2 _ _)
  have H2B := hide (show Below w2.heap.size w2 B by rw [← hBw.out]; exact below_alloc w2 _)
  clear hBw
  have HVB := hide (B2.out.trans (H2B.out.mono B2.out.size))
  have HWB := hide (HVW.out.trans (HVB.out.mono HVW.out.size))
  have BT := hide (VT.out.below HVB.out hgt)
  have HTB := hide ((HTV1.out.below HVB.out).more HVB.out.size)
  have HXB := hide (HTX.out.same H2B.out)
  have HMB := hide (HMT.out.same HWB.out)
  obtain ⟨gs, hgs⟩ : ∃ gs, gs = w2.heap.size := ⟨_, rfl⟩
  rw [← hgs] at BS ⊢
  clear hgs HTX B2 H2B VT HVB HVW HTV1 HMT hgt
  obtain ⟨m, hme⟩ : ∃ m, m = tx.length := ⟨_, rfl⟩
  have HM := hide hme
  have hmb : m ≤ 1048576 := by rw [hme]; exact HXB.out.2
  obtain ⟨mk, hmk⟩ : ∃ mk, mk = mx.length := ⟨_, rfl⟩
  have HMK := hide hmk
  rw [← hme]
  rw [← hmk] at CR
  have HCC := hide (show tx.length ≤ c' from hc2')
  have HCM := hide (show mx.length ≤ c2 from hmlc)
  have HBB := hide (Below.refl B.heap.size B)
  clear hme hmk hc2' hmlc
  have HSTS := hide (fun (k : Nat) (hk : k < 4) => (show ∃ s : Tb.St, ∀ W, Below B.heap.size B W → W.cell? ⟨gs, k * 3, none⟩ = some (.int .i64 s.lang) ∧ W.cell? ⟨gs, k * 3 + 1, none⟩ = some (.bool s.num) ∧ W.cell? ⟨gs, k * 3 + 2, none⟩ = some (.bool s.inn) from by
    have h4 : k = 0 ∨ k = 1 ∨ k = 2 ∨ k = 3 := by omega
    rcases h4 with rfl | rfl | rfl | rfl
    · exact ⟨⟨0, false, false⟩, fun W hb => by have Q := BS.out.below hb BS.out.lt; exact ⟨Q.cell 0, Q.cell 1, Q.cell 2⟩⟩
    · exact ⟨⟨0, true, false⟩, fun W hb => by have Q := BS.out.below hb BS.out.lt; exact ⟨Q.cell 3, Q.cell 4, Q.cell 5⟩⟩
    · exact ⟨⟨1, false, false⟩, fun W hb => by have Q := BS.out.below hb BS.out.lt; exact ⟨Q.cell 6, Q.cell 7, Q.cell 8⟩⟩
    · exact ⟨⟨lang, num, inn⟩, fun W hb => by have Q := BS.out.below hb BS.out.lt; exact ⟨Q.cell 9, Q.cell 10, Q.cell 11⟩⟩))
  have HTC := hide (fun (W : World) (hb : Below B.heap.size B W) => (show W.cell? ⟨gt, 0, none⟩ = some (.slice A0 n0 c0) ∧ W.cell? ⟨gt, 1, none⟩ = some (.slice A1 n1 c1) ∧ W.cell? ⟨gt, 2, none⟩ = some (.slice t.dig.ad n2 t.dig.c) ∧ W.cell? ⟨gt, 3, none⟩ = some (.slice t.cap.ad n3 t.cap.c) ∧ W.cell? ⟨gt, 4, none⟩ = some (.slice t.num.ad n4 t.num.c) ∧ W.cell? ⟨gt, 5, none⟩ = some (.slice t.fin.ad n5 t.fin.c) ∧ W.cell? ⟨gt, 6, none⟩ = some (.slice t.sw.ad n6 t.sw.c) from by
    have Q := BT.out.below hb BT.out.lt
    exact ⟨Q.cell 0, Q.cell 1, Q.cell 2, Q.cell 3, Q.cell 4, Q.cell 5, Q.cell 6⟩))
  clear BS BT
  have hmi : (m : Int) ≤ 1048576 := by omega
  go_wp2
  go_loopw [22] (fun q wr => ∃ i : Int, -1 ≤ i ∧ i ≤ (m : Int) + 1 ∧ q = .int .i64 i ∧ Below B.heap.size B wr) (fun q _ => ((m : Int) + 1 - intOf q).toNat)
  case atStart => exact ⟨-1, by omega, by omega, rfl, HBB.out⟩
  case round =>
    obtain ⟨i, hi0, hi1, rfl, hbel⟩ := hrel
    obtain ⟨wd, rfl⟩ : ∃ wd, wd = wr := ⟨wr, rfl⟩
    have HBD := hide hbel
    by_cases hle : i ≤ (m : Int)
    · have HLE := hide hle
      go_wp2
      go_loopw [23] (fun q wr => ∃ k : Nat, k ≤ 4 ∧ q = .int .i64 (k : Int) ∧ Below B.heap.size B wr) (fun q _ => 4 - (intOf q).toNat)
      case atStart => exact ⟨0, by omega, rfl, HBD.out⟩
      case round =>
        obtain ⟨k, hk, rfl, hbel⟩ := hrel
        obtain ⟨wk, rfl⟩ : ∃ wk, wk = wr := ⟨wr, rfl⟩
        have HBK := hide hbel
        by_cases hk4 : (k : Int) < 4
        · obtain ⟨s, HZC0⟩ := HSTS.out k (by omega)
          have HZC := hide HZC0
          obtain ⟨ZV, hZV⟩ : ∃ ZV : Value, ZV = stV s := ⟨_, rfl⟩
          have HZV := hide (show Value.agg #[.int .i64 s.lang, .bool s.num, .bool s.inn] = ZV from hZV.symm)
          obtain ⟨L, hL⟩ : ∃ L, L = Tb.steps t s tx i := ⟨_, rfl⟩
          have CSA := hide (fun (W : World) (hb : Below B.heap.size B W) => (show Calls Try.prog 27 #[TV, ZV, .slice A' m c', .int .i64 i] W fun e w' => ∃ v, e = .returned v ∧ gSps L w' v ∧ Below W.heap.size W w' from by
            rw [HM.out]
            exact steps_call TV t s ZV hZV A' c' tx i B W HTB.out HXB.out HCC.out hb L hL.symm))
          have CSB := hide (fun (W : World) (hb : Below B.heap.size B W) => (show Calls Try.prog 29 #[TV, ZV, .slice A' m c', .int .i64 i] W fun e w' => ∃ v, e = .returned v ∧ gSps L w' v ∧ Below W.heap.size W w' from by
            rw [HM.out]
            exact refsteps_call TV t s ZV hZV A' c' tx i B W HTB.out HXB.out hb L hL.symm))
          have CO := hide (fun (W : World) => (show Calls Try.prog 28 #[ZV] W fun e w' => e = .returned ZV ∧ Below W.heap.size W w' from by rw [hZV]; exact own_any s W))
          have hk0 : (0 : Int) ≤ (k : Int) := by omega
          clear HZC0 hZV hL hbel
          go_upto_region 10 with fail
          refine wp_region_threeT 0 19 [some 50, some 51, some 52, some 53, some 54, some 55, some 56, some 57, some 58, some 59, some 60, some 61, some 62, some 63, some 64, some 65, some 66, some 67, some 68] (gAll (ksSA TV ZV (.slice A' m c') i gs k L))
            (fun _ W => Below B.heap.size B W) (by decide) (by kernel_rfl) (by kernel_rfl) (by kernel_rfl) (by rfl) (by decide) (by rfl) (HBK.out.drew) ?_ ?_ ?_
          · intro j hj hjm b A x W hC hd hr
            have stay : ∀ W', Below W.heap.size W W' → Below B.heap.size B W' := fun W' hb => hC.trans (hb.mono hC.size)
            have KSS := ksSA_stab TV ZV (.slice A' m c') i gs k L
            have hj' : j = 1 ∨ j = 2 ∨ j = 3 ∨ j = 4 ∨ j = 5 ∨ j = 6 ∨ j = 7 ∨ j = 8 ∨ j = 9 ∨ j = 10 ∨ j = 11 ∨ j = 12 ∨ j = 13 ∨ j = 14 ∨ j = 15 ∨ j = 16 ∨ j = 17 ∨ j = 18 := by omega
            rcases hj' with rfl | rfl | rfl | rfl | rfl | rfl | rfl | rfl | rfl | rfl | rfl | rfl | rfl | rfl | rfl | rfl | rfl | rfl
            · have e21 : A.tmps[21]?.getD undef = .slice (some ⟨gs, 0, none⟩) 4 4 := hr 21 (by decide)
              refine wpOp_step rfl (fun K' hK => ?_)
              go_simp
              exact hK _ _ ⟨_, rfl, rfl, fun _ _ _ h => h, hC⟩
            · have e23 : A.tmps[23]?.getD undef = .int .i64 (k : Int) := hr 23 (by decide)
              refine wpOp_step rfl (fun K' hK => ?_)
              go_simp
              exact hK _ _ ⟨_, rfl, rfl, fun _ _ _ h => h, hC⟩
            · have d1 : A.tmps[51]?.getD undef = .slice (some ⟨gs, 0, none⟩) 4 4 := ((hd 1 (by decide)).1 51 rfl).trans (hd 1 (by decide)).2
              have d2 : A.tmps[52]?.getD undef = .int .i64 (k : Int) := ((hd 2 (by decide)).1 52 rfl).trans (hd 2 (by decide)).2
              refine wpOp_step rfl (fun K' hK => ?_)
              go_simp
              exact hK _ _ ⟨_, rfl, rfl, fun _ _ _ h => h, hC⟩
            · have d3 : A.tmps[53]?.getD undef = .pointer (some ⟨gs, k * 3, none⟩) := ((hd 3 (by decide)).1 53 rfl).trans (hd 3 (by decide)).2
              refine wpOp_step rfl (fun K' hK => ?_)
              obtain ⟨z0, z1, z2⟩ := HZC.out W hC
              go_simp
              exact hK _ _ ⟨_, rfl, HZV.out, fun _ _ _ h => h, hC⟩
            · have d4 : A.tmps[54]?.getD undef = ZV := ((hd 4 (by decide)).1 54 rfl).trans (hd 4 (by decide)).2
              refine wpOp_step rfl (fun K' hK => ?_)
              go_simp
              go_at_call 28
              refine (CO.out W).mono ?_
              rintro e W' ⟨rfl, hb⟩
              exact hK _ _ ⟨_, rfl, rfl, fun k' _ u h => gAll_below KSS hb k' u h, stay _ hb⟩
            · have e20 : A.tmps[20]?.getD undef = .slice A' m c' := hr 20 (by decide)
              refine wpOp_step rfl (fun K' hK => ?_)
              go_simp
              exact hK _ _ ⟨_, rfl, rfl, fun _ _ _ h => h, hC⟩
            · have e22 : A.tmps[22]?.getD undef = .int .i64 i := hr 22 (by decide)
              refine wpOp_step rfl (fun K' hK => ?_)
              go_simp
              exact hK _ _ ⟨_, rfl, rfl, fun _ _ _ h => h, hC⟩
            · have d0 : A.tmps[50]?.getD undef = TV := ((hd 0 (by decide)).1 50 rfl).trans (hd 0 (by decide)).2
              have d5 : A.tmps[55]?.getD undef = ZV := ((hd 5 (by decide)).1 55 rfl).trans (hd 5 (by decide)).2
              have d6 : A.tmps[56]?.getD undef = .slice A' m c' := ((hd 6 (by decide)).1 56 rfl).trans (hd 6 (by decide)).2
              have d7 : A.tmps[57]?.getD undef = .int .i64 i := ((hd 7 (by decide)).1 57 rfl).trans (hd 7 (by decide)).2
              refine wpOp_step rfl (fun K' hK => ?_)
              go_simp
              go_at_call 27
              refine (CSA.out W hC).mono ?_
              rintro e W' ⟨v, rfl, hv, hb⟩
              exact hK _ _ ⟨_, rfl, hv, fun k' _ u h => gAll_below KSS hb k' u h, stay _ hb⟩
            · have d8 : A.tmps[58]?.getD undef = x 8 := (hd 8 (by decide)).1 58 rfl
              have r8 : gSps L W (x 8) := (hd 8 (by decide)).2
              refine wpOp_step rfl (fun K' hK => ?_)
              go_simp
              go_at_call 26
              refine (plain_call (x 8) L W r8).mono ?_
              rintro e W' ⟨v, rfl, hv, hb⟩
              exact hK _ _ ⟨_, rfl, hv, fun k' _ u h => gAll_below KSS hb k' u h, stay _ hb⟩
            · have e19 : A.tmps[19]?.getD undef = .pointer (some ⟨gt, 0, none⟩) := hr 19 (by decide)
              refine wpOp_step rfl (fun K' hK => ?_)
              obtain ⟨t0, t1, t2, t3, t4, t5, t6⟩ := HTC.out W hC
              go_simp
              exact hK _ _ ⟨_, rfl, HTV.out, fun _ _ _ h => h, hC⟩
            · have e21 : A.tmps[21]?.getD undef = .slice (some ⟨gs, 0, none⟩) 4 4 := hr 21 (by decide)
              refine wpOp_step rfl (fun K' hK => ?_)
              go_simp
              exact hK _ _ ⟨_, rfl, rfl, fun _ _ _ h => h, hC⟩
            · have e23 : A.tmps[23]?.getD undef = .int .i64 (k : Int) := hr 23 (by decide)
              refine wpOp_step rfl (fun K' hK => ?_)
              go_simp
              exact hK _ _ ⟨_, rfl, rfl, fun _ _ _ h => h, hC⟩
            · have d11 : A.tmps[61]?.getD undef = .slice (some ⟨gs, 0, none⟩) 4 4 := ((hd 11 (by decide)).1 61 rfl).trans (hd 11 (by decide)).2
              have d12 : A.tmps[62]?.getD undef = .int .i64 (k : Int) := ((hd 12 (by decide)).1 62 rfl).trans (hd 12 (by decide)).2
              refine wpOp_step rfl (fun K' hK => ?_)
              go_simp
              exact hK _ _ ⟨_, rfl, rfl, fun _ _ _ h => h, hC⟩
            · have d13 : A.tmps[63]?.getD undef = .pointer (some ⟨gs, k * 3, none⟩) := ((hd 13 (by decide)).1 63 rfl).trans (hd 13 (by decide)).2
              refine wpOp_step rfl (fun K' hK => ?_)
              obtain ⟨z0, z1, z2⟩ := HZC.out W hC
              go_simp
              exact hK _ _ ⟨_, rfl, HZV.out, fun _ _ _ h => h, hC⟩
            · have e20 : A.tmps[20]?.getD undef = .slice A' m c' := hr 20 (by decide)
              refine wpOp_step rfl (fun K' hK => ?_)
              go_simp
              exact hK _ _ ⟨_, rfl, rfl, fun _ _ _ h => h, hC⟩
            · have e22 : A.tmps[22]?.getD undef = .int .i64 i := hr 22 (by decide)
              refine wpOp_step rfl (fun K' hK => ?_)
              go_simp
              exact hK _ _ ⟨_, rfl, rfl, fun _ _ _ h => h, hC⟩
            · have d10 : A.tmps[60]?.getD undef = TV := ((hd 10 (by decide)).1 60 rfl).trans (hd 10 (by decide)).2
              have d14 : A.tmps[64]?.getD undef = ZV := ((hd 14 (by decide)).1 64 rfl).trans (hd 14 (by decide)).2
              have d15 : A.tmps[65]?.getD undef = .slice A' m c' := ((hd 15 (by decide)).1 65 rfl).trans (hd 15 (by decide)).2
              have d16 : A.tmps[66]?.getD undef = .int .i64 i := ((hd 16 (by decide)).1 66 rfl).trans (hd 16 (by decide)).2
              refine wpOp_step rfl (fun K' hK => ?_)
              go_simp
              go_at_call 29
              refine (CSB.out W hC).mono ?_
              rintro e W' ⟨v, rfl, hv, hb⟩
              exact hK _ _ ⟨_, rfl, hv, fun k' _ u h => gAll_below KSS hb k' u h, stay _ hb⟩
            · have d9 : A.tmps[59]?.getD undef = x 9 := (hd 9 (by decide)).1 59 rfl
              have r9 : gSps L W (x 9) := (hd 9 (by decide)).2
              have d17 : A.tmps[67]?.getD undef = x 17 := (hd 17 (by decide)).1 67 rfl
              have r17 : gSps L W (x 17) := (hd 17 (by decide)).2
              refine wpOp_step rfl (fun K' hK => ?_)
              go_simp
              go_at_call 25
              refine (same_call (x 9) (x 17) L W r9 r17).mono ?_
              rintro e W' ⟨rfl, hb⟩
              exact hK _ _ ⟨_, rfl, rfl, fun k' _ u h => gAll_below KSS hb k' u h, stay _ hb⟩
          · intro A x W hC hd hr
            have stay : ∀ W', Below W.heap.size W W' → Below B.heap.size B W' := fun W' hb => hC.trans (hb.mono hC.size)
            have KSS := ksSA_stab TV ZV (.slice A' m c') i gs k L
            have e19 : A.tmps[19]?.getD undef = .pointer (some ⟨gt, 0, none⟩) := hr 19 (by decide)
            refine wpOp_step rfl (fun K' hK => ?_)
            obtain ⟨t0, t1, t2, t3, t4, t5, t6⟩ := HTC.out W hC
            go_simp
            exact hK _ _ ⟨_, rfl, HTV.out, fun _ _ _ h => h, hC⟩
          · intro x W hC hR
            have hxp : x 18 = .bool true := hR 18 (by decide)
            refine wpOp_step rfl (fun K' hK => ?_)
            simp only [putL, Act.put, Nat.zero_add, Nat.reduceAdd, List.setIfInBounds_toArray, List.set_cons_succ, List.set_cons_zero]
            rw [hxp]
            generalize x 0 = y0
            generalize x 1 = y1
            generalize x 2 = y2
            generalize x 3 = y3
            generalize x 4 = y4
            generalize x 5 = y5
            generalize x 6 = y6
            generalize x 7 = y7
            generalize x 8 = y8
            generalize x 9 = y9
            generalize x 10 = y10
            generalize x 11 = y11
            generalize x 12 = y12
            generalize x 13 = y13
            generalize x 14 = y14
            generalize x 15 = y15
            generalize x 16 = y16
            generalize x 17 = y17
            go_simp
            refine hK _ _ ?_
            clear hK K' hxp hR
            go_wp2
            exact ⟨⟨k + 1, by omega, by go_num, hC⟩, by simp [intOf]; omega⟩
        · obtain rfl : k = 4 := by omega
          have hle2 := HLE.out
          go_wp2
          exact ⟨⟨i + 1, by omega, by omega, by go_num, hbel⟩, by simp [intOf]; omega⟩
    · obtain ⟨q0, q1, q2, q3, q4, q5, q6⟩ := HTC.out wd HBD.out
      have CB1 := hide (show Calls Try.prog 9 #[.agg #[.slice A0 n0 c0, .slice A1 n1 c1, .slice t.dig.ad n2 t.dig.c, .slice t.cap.ad n3 t.cap.c, .slice t.num.ad n4 t.num.c, .slice t.fin.ad n5 t.fin.c, .slice t.sw.ad n6 t.sw.c], .int .i64 xa, .int .i64 y, .int .i64 z] wd fun e w' => ∃ v', e = .returned v' ∧ gTab 140 w' v' ∧ Below wd.heap.size wd w' from by
        rw [HTV.out]
        exact hB 40 (by omega) TV xa y z wd ⟨t, (HTB.out.below HBD.out).more HBD.out.size, HFT.out⟩ hx hy hz)
      clear hbel hi0 hi1
      have HXX := hide hx
      clear hx hy hz hn
      go_upto_region 13 with (go_at_call 9; refine (unhide CB1).mono ?_; rintro e w3 ⟨v3, rfl, hg3, hb3⟩; obtain ⟨u, hu, hfu⟩ := hg3; have HU3 := hide hu; have B3 := hide hb3; obtain ⟨D0, D1, d0, d1, rfl, hu'⟩ := hu; clear hu' hb3 hfu)
      refine name_world fun U hUw => ?_
      have UB := hide (show Blk U w3.heap.size 28 #[.slice D0 u.r0.length d0, .slice D1 u.r1.length d1, .slice u.dig.ad u.dig.l.length u.dig.c, .slice u.cap.ad u.cap.l.length u.cap.c, .slice u.num.ad u.num.l.length u.num.c, .slice u.fin.ad u.fin.l.length u.fin.c, .slice u.sw.ad u.sw.l.length u.sw.c] by rw [← hUw.out]; exact Blk.new w3 _ _)
      have H3U := hide (show Below w3.heap.size w3 U by rw [← hUw.out]; exact below_alloc w3 _)
      obtain ⟨gu, hgu⟩ : ∃ gu, gu = w3.heap.size := ⟨_, rfl⟩
      rw [← hgu] at UB ⊢
      clear hUw hgu q0 q1 q2 q3 q4 q5 q6 CB1
      have HBU := hide (HBD.out.trans ((B3.out.trans (H3U.out.mono B3.out.size)).mono HBD.out.size))
      have HWU := hide (HWB.out.trans (HBU.out.mono HWB.out.size))
      have HUA := hide ((HU3.out.below H3U.out).more H3U.out.size)
      obtain ⟨UV, hUV⟩ : ∃ UV : Value, UV = .agg #[.slice D0 u.r0.length d0, .slice D1 u.r1.length d1, .slice u.dig.ad u.dig.l.length u.dig.c, .slice u.cap.ad u.cap.l.length u.cap.c, .slice u.num.ad u.num.l.length u.num.c, .slice u.fin.ad u.fin.l.length u.fin.c, .slice u.sw.ad u.sw.l.length u.sw.c] := ⟨_, rfl⟩
      have HUV := hide hUV.symm
      rw [← hUV] at HUA
      clear hUV HU3 B3 H3U
      have HTC2 := hide (fun (W : World) (hb : Below U.heap.size U W) => HTC.out W (HBU.out.trans (hb.mono HBU.out.size)))
      clear HTC
      have HTC := HTC2
      clear HTC2
      have HUC := hide (fun (W : World) (hb : Below U.heap.size U W) => (show W.cell? ⟨gu, 0, none⟩ = some (.slice D0 u.r0.length d0) ∧ W.cell? ⟨gu, 1, none⟩ = some (.slice D1 u.r1.length d1) ∧ W.cell? ⟨gu, 2, none⟩ = some (.slice u.dig.ad u.dig.l.length u.dig.c) ∧ W.cell? ⟨gu, 3, none⟩ = some (.slice u.cap.ad u.cap.l.length u.cap.c) ∧ W.cell? ⟨gu, 4, none⟩ = some (.slice u.num.ad u.num.l.length u.num.c) ∧ W.cell? ⟨gu, 5, none⟩ = some (.slice u.fin.ad u.fin.l.length u.fin.c) ∧ W.cell? ⟨gu, 6, none⟩ = some (.slice u.sw.ad u.sw.l.length u.sw.c) from by
        have Q := UB.out.below hb UB.out.lt
        exact ⟨Q.cell 0, Q.cell 1, Q.cell 2, Q.cell 3, Q.cell 4, Q.cell 5, Q.cell 6⟩))
      have HTU := hide ((HTB.out.below HBU.out).more HBU.out.size)
      have HXU := hide (HXB.out.same HBU.out)
      have HMU := hide (HMB.out.same HBU.out)
      have HUU := hide (Below.refl U.heap.size U)
      clear HTB HXB HMB UB HBB HBD
      go_upto_region 14 with (go_at_call 21; refine (unhide CR _).mono ?_; rintro e w5 ⟨rfl, rfl⟩)
      clear CR hle
      go_wp2
      go_loopw [26] (fun q wr => ∃ k : Nat, k ≤ 3 ∧ q = .int .i64 (k : Int) ∧ Below U.heap.size U wr) (fun q _ => 3 - (intOf q).toNat)
      case atStart => exact ⟨0, by omega, rfl, HUU.out⟩
      case round =>
        obtain ⟨k, hk, rfl, hbel⟩ := hrel
        obtain ⟨wk, rfl⟩ : ∃ wk, wk = wr := ⟨wr, rfl⟩
        have HBK := hide hbel
        by_cases hk3 : (k : Int) < 3
        · have CA := hide (fun (W : World) => around_lit (wrap64 (z + (k : Int))) (m + 1) ((m : Int) + 1) (by omega) W (by unfold Wr.inI wrap64; omega) (by omega) (by omega))
          obtain ⟨pl, hpl⟩ : ∃ pl, pl = Ce.around (wrap64 (z + (k : Int))) (m + 1) := ⟨_, rfl⟩
          rw [← hpl] at CA
          clear hpl
          obtain ⟨s, HZC0⟩ := HSTS.out k (by omega)
          have HZC := hide (fun (W : World) (hb : Below U.heap.size U W) => HZC0 W (HBU.out.trans (hb.mono HBU.out.size)))
          obtain ⟨ZV, hZV⟩ : ∃ ZV : Value, ZV = stV s := ⟨_, rfl⟩
          have HZV := hide (show Value.agg #[.int .i64 s.lang, .bool s.num, .bool s.inn] = ZV from hZV.symm)
          obtain ⟨ap, hap⟩ : ∃ ap, IntKind.i64.wrap (xa + (k : Int)) = ap := ⟨_, rfl⟩
          obtain ⟨L, hL⟩ : ∃ L, L = Tb.steps u s tx (pl : Int) := ⟨_, rfl⟩
          obtain ⟨M, hM⟩ : ∃ M, M = Tb.steps t s mx ap := ⟨_, rfl⟩
          have CSA := hide (fun (W : World) (hb : Below U.heap.size U W) => (show Calls Try.prog 27 #[UV, ZV, .slice A' m c', .int .i64 (pl : Int)] W fun e w' => ∃ v, e = .returned v ∧ gSps L w' v ∧ Below W.heap.size W w' from by
            rw [HM.out]
            exact steps_call UV u s ZV hZV A' c' tx pl U W HUA.out HXU.out HCC.out hb L hL.symm))
          have CSB := hide (fun (W : World) (hb : Below U.heap.size U W) => (show Calls Try.prog 29 #[UV, ZV, .slice A' m c', .int .i64 (pl : Int)] W fun e w' => ∃ v, e = .returned v ∧ gSps L w' v ∧ Below W.heap.size W w' from by
            rw [HM.out]
            exact refsteps_call UV u s ZV hZV A' c' tx pl U W HUA.out HXU.out hb L hL.symm))
          have CMA := hide (fun (W : World) (hb : Below U.heap.size U W) => (show Calls Try.prog 27 #[TV, ZV, .slice A2 mk c2, .int .i64 ap] W fun e w' => ∃ v, e = .returned v ∧ gSps M w' v ∧ Below W.heap.size W w' from by
            rw [HMK.out]
            exact steps_call TV t s ZV hZV A2 c2 mx ap U W HTU.out HMU.out HCM.out hb M hM.symm))
          have CMB := hide (fun (W : World) (hb : Below U.heap.size U W) => (show Calls Try.prog 29 #[TV, ZV, .slice A2 mk c2, .int .i64 ap] W fun e w' => ∃ v, e = .returned v ∧ gSps M w' v ∧ Below W.heap.size W w' from by
            rw [HMK.out]
            exact refsteps_call TV t s ZV hZV A2 c2 mx ap U W HTU.out HMU.out hb M hM.symm))
          have CO := hide (fun (W : World) => (show Calls Try.prog 28 #[ZV] W fun e w' => e = .returned ZV ∧ Below W.heap.size W w' from by rw [hZV]; exact own_any s W))
          have hk0 : (0 : Int) ≤ (k : Int) := by omega
          have hk4 : (k : Int) < 4 := by omega
          clear HZC0 hZV hL hM hbel
          go_upto_region 18 with (go_at_call 30; refine (unhide CA _).mono ?_; rintro e w6 ⟨rfl, rfl⟩)
          refine wp_region_threeT 0 45 [some 88, some 89, some 90, some 91, some 92, some 93, some 94, some 95, some 96, some 97, some 98, some 99, some 100, some 101, some 102, some 103, some 104, some 105, some 106, some 107, some 108, some 109, some 110, some 111, some 112, some 113, some 114, some 115, some 116, some 117, some 118, some 119, some 120, some 121, some 122, some 123, some 124, some 125, some 126, some 127, some 128, some 129, some 130, some 131, some 132] (gAll (ksSB TV UV ZV (.slice A' m c') (.slice A2 mk c2) pl xa ap gs k L M))
            (fun _ W => Below U.heap.size U W) (by decide) (by kernel_rfl) (by kernel_rfl) (by kernel_rfl) (by rfl) (by decide) (by rfl) (HBK.out.drew) ?_ ?_ ?_
          · intro j hj hjm b A x W hC hd hr
            have stay : ∀ W', Below W.heap.size W W' → Below U.heap.size U W' := fun W' hb => hC.trans (hb.mono hC.size)
            have KSS := ksSB_stab TV UV ZV (.slice A' m c') (.slice A2 mk c2) pl xa ap gs k L M
            have hj' : j = 1 ∨ j = 2 ∨ j = 3 ∨ j = 4 ∨ j = 5 ∨ j = 6 ∨ j = 7 ∨ j = 8 ∨ j = 9 ∨ j = 10 ∨ j = 11 ∨ j = 12 ∨ j = 13 ∨ j = 14 ∨ j = 15 ∨ j = 16 ∨ j = 17 ∨ j = 18 ∨ j = 19 ∨ j = 20 ∨ j = 21 ∨ j = 22 ∨ j = 23 ∨ j = 24 ∨ j = 25 ∨ j = 26 ∨ j = 27 ∨ j = 28 ∨ j = 29 ∨ j = 30 ∨ j = 31 ∨ j = 32 ∨ j = 33 ∨ j = 34 ∨ j = 35 ∨ j = 36 ∨ j = 37 ∨ j = 38 ∨ j = 39 ∨ j = 40 ∨ j = 41 ∨ j = 42 ∨ j = 43 ∨ j = 44 := by omega
            rcases hj' with rfl | rfl | rfl | rfl | rfl | rfl | rfl | rfl | rfl | rfl | rfl | rfl | rfl | rfl | rfl | rfl | rfl | rfl | rfl | rfl | rfl | rfl | rfl | rfl | rfl | rfl | rfl | rfl | rfl | rfl | rfl | rfl | rfl | rfl | rfl | rfl | rfl | rfl | rfl | rfl | rfl | rfl | rfl | rfl
            · have e21 : A.tmps[21]?.getD undef = .slice (some ⟨gs, 0, none⟩) 4 4 := hr 21 (by decide)
              refine wpOp_step rfl (fun K' hK => ?_)
              go_simp
              exact hK _ _ ⟨_, rfl, rfl, fun _ _ _ h => h, hC⟩
            · have e26 : A.tmps[26]?.getD undef = .int .i64 (k : Int) := hr 26 (by decide)
              refine wpOp_step rfl (fun K' hK => ?_)
              go_simp
              exact hK _ _ ⟨_, rfl, rfl, fun _ _ _ h => h, hC⟩
            · have d1 : A.tmps[89]?.getD undef = .slice (some ⟨gs, 0, none⟩) 4 4 := ((hd 1 (by decide)).1 89 rfl).trans (hd 1 (by decide)).2
              have d2 : A.tmps[90]?.getD undef = .int .i64 (k : Int) := ((hd 2 (by decide)).1 90 rfl).trans (hd 2 (by decide)).2
              refine wpOp_step rfl (fun K' hK => ?_)
              go_simp
              exact hK _ _ ⟨_, rfl, rfl, fun _ _ _ h => h, hC⟩
            · have d3 : A.tmps[91]?.getD undef = .pointer (some ⟨gs, k * 3, none⟩) := ((hd 3 (by decide)).1 91 rfl).trans (hd 3 (by decide)).2
              refine wpOp_step rfl (fun K' hK => ?_)
              obtain ⟨z0, z1, z2⟩ := HZC.out W hC
              go_simp
              exact hK _ _ ⟨_, rfl, HZV.out, fun _ _ _ h => h, hC⟩
            · have d4 : A.tmps[92]?.getD undef = ZV := ((hd 4 (by decide)).1 92 rfl).trans (hd 4 (by decide)).2
              refine wpOp_step rfl (fun K' hK => ?_)
              go_simp
              go_at_call 28
              refine (CO.out W).mono ?_
              rintro e W' ⟨rfl, hb⟩
              exact hK _ _ ⟨_, rfl, rfl, fun k' _ u h => gAll_below KSS hb k' u h, stay _ hb⟩
            · have e20 : A.tmps[20]?.getD undef = .slice A' m c' := hr 20 (by decide)
              refine wpOp_step rfl (fun K' hK => ?_)
              go_simp
              exact hK _ _ ⟨_, rfl, rfl, fun _ _ _ h => h, hC⟩
            · have e27 : A.tmps[27]?.getD undef = .int .i64 (pl : Int) := hr 27 (by decide)
              refine wpOp_step rfl (fun K' hK => ?_)
              go_simp
              exact hK _ _ ⟨_, rfl, rfl, fun _ _ _ h => h, hC⟩
            · have d0 : A.tmps[88]?.getD undef = UV := ((hd 0 (by decide)).1 88 rfl).trans (hd 0 (by decide)).2
              have d5 : A.tmps[93]?.getD undef = ZV := ((hd 5 (by decide)).1 93 rfl).trans (hd 5 (by decide)).2
              have d6 : A.tmps[94]?.getD undef = .slice A' m c' := ((hd 6 (by decide)).1 94 rfl).trans (hd 6 (by decide)).2
              have d7 : A.tmps[95]?.getD undef = .int .i64 (pl : Int) := ((hd 7 (by decide)).1 95 rfl).trans (hd 7 (by decide)).2
              refine wpOp_step rfl (fun K' hK => ?_)
              go_simp
              go_at_call 27
              refine (CSA.out W hC).mono ?_
              rintro e W' ⟨v, rfl, hv, hb⟩
              exact hK _ _ ⟨_, rfl, hv, fun k' _ u h => gAll_below KSS hb k' u h, stay _ hb⟩
            · have d8 : A.tmps[96]?.getD undef = x 8 := (hd 8 (by decide)).1 96 rfl
              have r8 : gSps L W (x 8) := (hd 8 (by decide)).2
              refine wpOp_step rfl (fun K' hK => ?_)
              go_simp
              go_at_call 26
              refine (plain_call (x 8) L W r8).mono ?_
              rintro e W' ⟨v, rfl, hv, hb⟩
              exact hK _ _ ⟨_, rfl, hv, fun k' _ u h => gAll_below KSS hb k' u h, stay _ hb⟩
            · have e24 : A.tmps[24]?.getD undef = .pointer (some ⟨gu, 0, none⟩) := hr 24 (by decide)
              refine wpOp_step rfl (fun K' hK => ?_)
              obtain ⟨t0, t1, t2, t3, t4, t5, t6⟩ := HUC.out W hC
              go_simp
              exact hK _ _ ⟨_, rfl, HUV.out, fun _ _ _ h => h, hC⟩
            · have e21 : A.tmps[21]?.getD undef = .slice (some ⟨gs, 0, none⟩) 4 4 := hr 21 (by decide)
              refine wpOp_step rfl (fun K' hK => ?_)
              go_simp
              exact hK _ _ ⟨_, rfl, rfl, fun _ _ _ h => h, hC⟩
            · have e26 : A.tmps[26]?.getD undef = .int .i64 (k : Int) := hr 26 (by decide)
              refine wpOp_step rfl (fun K' hK => ?_)
              go_simp
              exact hK _ _ ⟨_, rfl, rfl, fun _ _ _ h => h, hC⟩
            · have d11 : A.tmps[99]?.getD undef = .slice (some ⟨gs, 0, none⟩) 4 4 := ((hd 11 (by decide)).1 99 rfl).trans (hd 11 (by decide)).2
              have d12 : A.tmps[100]?.getD undef = .int .i64 (k : Int) := ((hd 12 (by decide)).1 100 rfl).trans (hd 12 (by decide)).2
              refine wpOp_step rfl (fun K' hK => ?_)
              go_simp
              exact hK _ _ ⟨_, rfl, rfl, fun _ _ _ h => h, hC⟩
            · have d13 : A.tmps[101]?.getD undef = .pointer (some ⟨gs, k * 3, none⟩) := ((hd 13 (by decide)).1 101 rfl).trans (hd 13 (by decide)).2
              refine wpOp_step rfl (fun K' hK => ?_)
              obtain ⟨z0, z1, z2⟩ := HZC.out W hC
              go_simp
              exact hK _ _ ⟨_, rfl, HZV.out, fun _ _ _ h => h, hC⟩
            · have e20 : A.tmps[20]?.getD undef = .slice A' m c' := hr 20 (by decide)
              refine wpOp_step rfl (fun K' hK => ?_)
              go_simp
              exact hK _ _ ⟨_, rfl, rfl, fun _ _ _ h => h, hC⟩
            · have e27 : A.tmps[27]?.getD undef = .int .i64 (pl : Int) := hr 27 (by decide)
              refine wpOp_step rfl (fun K' hK => ?_)
              go_simp
              exact hK _ _ ⟨_, rfl, rfl, fun _ _ _ h => h, hC⟩
            · have d10 : A.tmps[98]?.getD undef = UV := ((hd 10 (by decide)).1 98 rfl).trans (hd 10 (by decide)).2
              have d14 : A.tmps[102]?.getD undef = ZV := ((hd 14 (by decide)).1 102 rfl).trans (hd 14 (by decide)).2
              have d15 : A.tmps[103]?.getD undef = .slice A' m c' := ((hd 15 (by decide)).1 103 rfl).trans (hd 15 (by decide)).2
              have d16 : A.tmps[104]?.getD undef = .int .i64 (pl : Int) := ((hd 16 (by decide)).1 104 rfl).trans (hd 16 (by decide)).2
              refine wpOp_step rfl (fun K' hK => ?_)
              go_simp
              go_at_call 29
              refine (CSB.out W hC).mono ?_
              rintro e W' ⟨v, rfl, hv, hb⟩
              exact hK _ _ ⟨_, rfl, hv, fun k' _ u h => gAll_below KSS hb k' u h, stay _ hb⟩
            · have d9 : A.tmps[97]?.getD undef = x 9 := (hd 9 (by decide)).1 97 rfl
              have r9 : gSps L W (x 9) := (hd 9 (by decide)).2
              have d17 : A.tmps[105]?.getD undef = x 17 := (hd 17 (by decide)).1 105 rfl
              have r17 : gSps L W (x 17) := (hd 17 (by decide)).2
              refine wpOp_step rfl (fun K' hK => ?_)
              go_simp
              go_at_call 25
              refine (same_call (x 9) (x 17) L W r9 r17).mono ?_
              rintro e W' ⟨rfl, hb⟩
              exact hK _ _ ⟨_, rfl, rfl, fun k' _ u h => gAll_below KSS hb k' u h, stay _ hb⟩
            · have d18 : A.tmps[106]?.getD undef = .bool true := ((hd 18 (by decide)).1 106 rfl).trans (hd 18 (by decide)).2
              refine wpOp_step rfl (fun K' hK => ?_)
              go_simp
              exact hK _ _ ⟨_, rfl, rfl, fun _ _ _ h => h, hC⟩
            · have d19 : A.tmps[107]?.getD undef = .bool false := ((hd 19 (by decide)).1 107 rfl).trans (hd 19 (by decide)).2
              refine wpOp_step rfl (fun K' hK => ?_)
              go_simp
              exact hK _ _ ⟨_, rfl, rfl, fun _ _ _ h => h, hC⟩
            · have e19 : A.tmps[19]?.getD undef = .pointer (some ⟨gt, 0, none⟩) := hr 19 (by decide)
              have d20 : A.tmps[108]?.getD undef = .bool false := ((hd 20 (by decide)).1 108 rfl).trans (hd 20 (by decide)).2
              refine wpOp_step rfl (fun K' hK => ?_)
              rw [if_pos (wanted_of 20 108 false rfl rfl d20)]
              obtain ⟨t0, t1, t2, t3, t4, t5, t6⟩ := HTC.out W hC
              go_simp
              exact hK _ _ ⟨_, rfl, HTV.out, fun _ _ _ h => h, hC⟩
            · have e21 : A.tmps[21]?.getD undef = .slice (some ⟨gs, 0, none⟩) 4 4 := hr 21 (by decide)
              have d20 : A.tmps[108]?.getD undef = .bool false := ((hd 20 (by decide)).1 108 rfl).trans (hd 20 (by decide)).2
              refine wpOp_step rfl (fun K' hK => ?_)
              rw [if_pos (wanted_of 20 108 false rfl rfl d20)]
              go_simp
              exact hK _ _ ⟨_, rfl, rfl, fun _ _ _ h => h, hC⟩
            · have e26 : A.tmps[26]?.getD undef = .int .i64 (k : Int) := hr 26 (by decide)
              have d20 : A.tmps[108]?.getD undef = .bool false := ((hd 20 (by decide)).1 108 rfl).trans (hd 20 (by decide)).2
              refine wpOp_step rfl (fun K' hK => ?_)
              rw [if_pos (wanted_of 20 108 false rfl rfl d20)]
              go_simp
              exact hK _ _ ⟨_, rfl, rfl, fun _ _ _ h => h, hC⟩
            · have d22 : A.tmps[110]?.getD undef = .slice (some ⟨gs, 0, none⟩) 4 4 := ((hd 22 (by decide)).1 110 rfl).trans (hd 22 (by decide)).2
              have d23 : A.tmps[111]?.getD undef = .int .i64 (k : Int) := ((hd 23 (by decide)).1 111 rfl).trans (hd 23 (by decide)).2
              have d20 : A.tmps[108]?.getD undef = .bool false := ((hd 20 (by decide)).1 108 rfl).trans (hd 20 (by decide)).2
              refine wpOp_step rfl (fun K' hK => ?_)
              rw [if_pos (wanted_of 20 108 false rfl rfl d20)]
              go_simp
              exact hK _ _ ⟨_, rfl, rfl, fun _ _ _ h => h, hC⟩
            · have d24 : A.tmps[112]?.getD undef = .pointer (some ⟨gs, k * 3, none⟩) := ((hd 24 (by decide)).1 112 rfl).trans (hd 24 (by decide)).2
              have d20 : A.tmps[108]?.getD undef = .bool false := ((hd 20 (by decide)).1 108 rfl).trans (hd 20 (by decide)).2
              refine wpOp_step rfl (fun K' hK => ?_)
              rw [if_pos (wanted_of 20 108 false rfl rfl d20)]
              obtain ⟨z0, z1, z2⟩ := HZC.out W hC
              go_simp
              exact hK _ _ ⟨_, rfl, HZV.out, fun _ _ _ h => h, hC⟩
            · have d25 : A.tmps[113]?.getD undef = ZV := ((hd 25 (by decide)).1 113 rfl).trans (hd 25 (by decide)).2
              have d20 : A.tmps[108]?.getD undef = .bool false := ((hd 20 (by decide)).1 108 rfl).trans (hd 20 (by decide)).2
              refine wpOp_step rfl (fun K' hK => ?_)
              rw [if_pos (wanted_of 20 108 false rfl rfl d20)]
              go_simp
              go_at_call 28
              refine (CO.out W).mono ?_
              rintro e W' ⟨rfl, hb⟩
              exact hK _ _ ⟨_, rfl, rfl, fun k' _ u h => gAll_below KSS hb k' u h, stay _ hb⟩
            · have e25 : A.tmps[25]?.getD undef = .slice A2 mk c2 := hr 25 (by decide)
              have d20 : A.tmps[108]?.getD undef = .bool false := ((hd 20 (by decide)).1 108 rfl).trans (hd 20 (by decide)).2
              refine wpOp_step rfl (fun K' hK => ?_)
              rw [if_pos (wanted_of 20 108 false rfl rfl d20)]
              go_simp
              exact hK _ _ ⟨_, rfl, rfl, fun _ _ _ h => h, hC⟩
            · have e1 : A.tmps[1]?.getD undef = .int .i64 xa := hr 1 (by decide)
              have d20 : A.tmps[108]?.getD undef = .bool false := ((hd 20 (by decide)).1 108 rfl).trans (hd 20 (by decide)).2
              refine wpOp_step rfl (fun K' hK => ?_)
              rw [if_pos (wanted_of 20 108 false rfl rfl d20)]
              go_simp
              exact hK _ _ ⟨_, rfl, rfl, fun _ _ _ h => h, hC⟩
            · have e26 : A.tmps[26]?.getD undef = .int .i64 (k : Int) := hr 26 (by decide)
              have d20 : A.tmps[108]?.getD undef = .bool false := ((hd 20 (by decide)).1 108 rfl).trans (hd 20 (by decide)).2
              refine wpOp_step rfl (fun K' hK => ?_)
              rw [if_pos (wanted_of 20 108 false rfl rfl d20)]
              go_simp
              exact hK _ _ ⟨_, rfl, rfl, fun _ _ _ h => h, hC⟩
            · have d28 : A.tmps[116]?.getD undef = .int .i64 xa := ((hd 28 (by decide)).1 116 rfl).trans (hd 28 (by decide)).2
              have d29 : A.tmps[117]?.getD undef = .int .i64 (k : Int) := ((hd 29 (by decide)).1 117 rfl).trans (hd 29 (by decide)).2
              have d20 : A.tmps[108]?.getD undef = .bool false := ((hd 20 (by decide)).1 108 rfl).trans (hd 20 (by decide)).2
              refine wpOp_step rfl (fun K' hK => ?_)
              rw [if_pos (wanted_of 20 108 false rfl rfl d20)]
              go_simp
              exact hK _ _ ⟨_, rfl, rfl, fun _ _ _ h => h, hC⟩
            · have d21 : A.tmps[109]?.getD undef = TV := ((hd 21 (by decide)).1 109 rfl).trans (hd 21 (by decide)).2
              have d26 : A.tmps[114]?.getD undef = ZV := ((hd 26 (by decide)).1 114 rfl).trans (hd 26 (by decide)).2
              have d27 : A.tmps[115]?.getD undef = .slice A2 mk c2 := ((hd 27 (by decide)).1 115 rfl).trans (hd 27 (by decide)).2
              have d30 : A.tmps[118]?.getD undef = .int .i64 ap := ((hd 30 (by decide)).1 118 rfl).trans (hd 30 (by decide)).2
              have d20 : A.tmps[108]?.getD undef = .bool false := ((hd 20 (by decide)).1 108 rfl).trans (hd 20 (by decide)).2
              refine wpOp_step rfl (fun K' hK => ?_)
              rw [if_pos (wanted_of 20 108 false rfl rfl d20)]
              go_simp
              go_at_call 27
              refine (CMA.out W hC).mono ?_
              rintro e W' ⟨v, rfl, hv, hb⟩
              exact hK _ _ ⟨_, rfl, hv, fun k' _ u h => gAll_below KSS hb k' u h, stay _ hb⟩
            · have d31 : A.tmps[119]?.getD undef = x 31 := (hd 31 (by decide)).1 119 rfl
              have r31 : gSps M W (x 31) := (hd 31 (by decide)).2
              have d20 : A.tmps[108]?.getD undef = .bool false := ((hd 20 (by decide)).1 108 rfl).trans (hd 20 (by decide)).2
              refine wpOp_step rfl (fun K' hK => ?_)
              rw [if_pos (wanted_of 20 108 false rfl rfl d20)]
              go_simp
              go_at_call 26
              refine (plain_call (x 31) M W r31).mono ?_
              rintro e W' ⟨v, rfl, hv, hb⟩
              exact hK _ _ ⟨_, rfl, hv, fun k' _ u h => gAll_below KSS hb k' u h, stay _ hb⟩
            · have e19 : A.tmps[19]?.getD undef = .pointer (some ⟨gt, 0, none⟩) := hr 19 (by decide)
              have d20 : A.tmps[108]?.getD undef = .bool false := ((hd 20 (by decide)).1 108 rfl).trans (hd 20 (by decide)).2
              refine wpOp_step rfl (fun K' hK => ?_)
              rw [if_pos (wanted_of 20 108 false rfl rfl d20)]
              obtain ⟨t0, t1, t2, t3, t4, t5, t6⟩ := HTC.out W hC
              go_simp
              exact hK _ _ ⟨_, rfl, HTV.out, fun _ _ _ h => h, hC⟩
            · have e21 : A.tmps[21]?.getD undef = .slice (some ⟨gs, 0, none⟩) 4 4 := hr 21 (by decide)
              have d20 : A.tmps[108]?.getD undef = .bool false := ((hd 20 (by decide)).1 108 rfl).trans (hd 20 (by decide)).2
              refine wpOp_step rfl (fun K' hK => ?_)
              rw [if_pos (wanted_of 20 108 false rfl rfl d20)]
              go_simp
              exact hK _ _ ⟨_, rfl, rfl, fun _ _ _ h => h, hC⟩
            · have e26 : A.tmps[26]?.getD undef = .int .i64 (k : Int) := hr 26 (by decide)
              have d20 : A.tmps[108]?.getD undef = .bool false := ((hd 20 (by decide)).1 108 rfl).trans (hd 20 (by decide)).2
              refine wpOp_step rfl (fun K' hK => ?_)
              rw [if_pos (wanted_of 20 108 false rfl rfl d20)]
              go_simp
              exact hK _ _ ⟨_, rfl, rfl, fun _ _ _ h => h, hC⟩
            · have d34 : A.tmps[122]?.getD undef = .slice (some ⟨gs, 0, none⟩) 4 4 := ((hd 34 (by decide)).1 122 rfl).trans (hd 34 (by decide)).2
              have d35 : A.tmps[123]?.getD undef = .int .i64 (k : Int) := ((hd 35 (by decide)).1 123 rfl).trans (hd 35 (by decide)).2
              have d20 : A.tmps[108]?.getD undef = .bool false := ((hd 20 (by decide)).1 108 rfl).trans (hd 20 (by decide)).2
              refine wpOp_step rfl (fun K' hK => ?_)
              rw [if_pos (wanted_of 20 108 false rfl rfl d20)]
              go_simp
              exact hK _ _ ⟨_, rfl, rfl, fun _ _ _ h => h, hC⟩
            · have d36 : A.tmps[124]?.getD undef = .pointer (some ⟨gs, k * 3, none⟩) := ((hd 36 (by decide)).1 124 rfl).trans (hd 36 (by decide)).2
              have d20 : A.tmps[108]?.getD undef = .bool false := ((hd 20 (by decide)).1 108 rfl).trans (hd 20 (by decide)).2
              refine wpOp_step rfl (fun K' hK => ?_)
              rw [if_pos (wanted_of 20 108 false rfl rfl d20)]
              obtain ⟨z0, z1, z2⟩ := HZC.out W hC
              go_simp
              exact hK _ _ ⟨_, rfl, HZV.out, fun _ _ _ h => h, hC⟩
            · have e25 : A.tmps[25]?.getD undef = .slice A2 mk c2 := hr 25 (by decide)
              have d20 : A.tmps[108]?.getD undef = .bool false := ((hd 20 (by decide)).1 108 rfl).trans (hd 20 (by decide)).2
              refine wpOp_step rfl (fun K' hK => ?_)
              rw [if_pos (wanted_of 20 108 false rfl rfl d20)]
              go_simp
              exact hK _ _ ⟨_, rfl, rfl, fun _ _ _ h => h, hC⟩
            · have e1 : A.tmps[1]?.getD undef = .int .i64 xa := hr 1 (by decide)
              have d20 : A.tmps[108]?.getD undef = .bool false := ((hd 20 (by decide)).1 108 rfl).trans (hd 20 (by decide)).2
              refine wpOp_step rfl (fun K' hK => ?_)
              rw [if_pos (wanted_of 20 108 false rfl rfl d20)]
              go_simp
              exact hK _ _ ⟨_, rfl, rfl, fun _ _ _ h => h, hC⟩
            · have e26 : A.tmps[26]?.getD undef = .int .i64 (k : Int) := hr 26 (by decide)
              have d20 : A.tmps[108]?.getD undef = .bool false := ((hd 20 (by decide)).1 108 rfl).trans (hd 20 (by decide)).2
              refine wpOp_step rfl (fun K' hK => ?_)
              rw [if_pos (wanted_of 20 108 false rfl rfl d20)]
              go_simp
              exact hK _ _ ⟨_, rfl, rfl, fun _ _ _ h => h, hC⟩
            · have d39 : A.tmps[127]?.getD undef = .int .i64 xa := ((hd 39 (by decide)).1 127 rfl).trans (hd 39 (by decide)).2
              have d40 : A.tmps[128]?.getD undef = .int .i64 (k : Int) := ((hd 40 (by decide)).1 128 rfl).trans (hd 40 (by decide)).2
              have d20 : A.tmps[108]?.getD undef = .bool false := ((hd 20 (by decide)).1 108 rfl).trans (hd 20 (by decide)).2
              refine wpOp_step rfl (fun K' hK => ?_)
              rw [if_pos (wanted_of 20 108 false rfl rfl d20)]
              go_simp
              exact hK _ _ ⟨_, rfl, rfl, fun _ _ _ h => h, hC⟩
            · have d33 : A.tmps[121]?.getD undef = TV := ((hd 33 (by decide)).1 121 rfl).trans (hd 33 (by decide)).2
              have d37 : A.tmps[125]?.getD undef = ZV := ((hd 37 (by decide)).1 125 rfl).trans (hd 37 (by decide)).2
              have d38 : A.tmps[126]?.getD undef = .slice A2 mk c2 := ((hd 38 (by decide)).1 126 rfl).trans (hd 38 (by decide)).2
              have d41 : A.tmps[129]?.getD undef = .int .i64 ap := ((hd 41 (by decide)).1 129 rfl).trans (hd 41 (by decide)).2
              have d20 : A.tmps[108]?.getD undef = .bool false := ((hd 20 (by decide)).1 108 rfl).trans (hd 20 (by decide)).2
              refine wpOp_step rfl (fun K' hK => ?_)
              rw [if_pos (wanted_of 20 108 false rfl rfl d20)]
              go_simp
              go_at_call 29
              refine (CMB.out W hC).mono ?_
              rintro e W' ⟨v, rfl, hv, hb⟩
              exact hK _ _ ⟨_, rfl, hv, fun k' _ u h => gAll_below KSS hb k' u h, stay _ hb⟩
            · have d32 : A.tmps[120]?.getD undef = x 32 := (hd 32 (by decide)).1 120 rfl
              have r32 : gSps M W (x 32) := (hd 32 (by decide)).2
              have d42 : A.tmps[130]?.getD undef = x 42 := (hd 42 (by decide)).1 130 rfl
              have r42 : gSps M W (x 42) := (hd 42 (by decide)).2
              have d20 : A.tmps[108]?.getD undef = .bool false := ((hd 20 (by decide)).1 108 rfl).trans (hd 20 (by decide)).2
              refine wpOp_step rfl (fun K' hK => ?_)
              rw [if_pos (wanted_of 20 108 false rfl rfl d20)]
              go_simp
              go_at_call 25
              refine (same_call (x 32) (x 42) M W r32 r42).mono ?_
              rintro e W' ⟨rfl, hb⟩
              exact hK _ _ ⟨_, rfl, rfl, fun k' _ u h => gAll_below KSS hb k' u h, stay _ hb⟩
            · have d43 : A.tmps[131]?.getD undef = .bool true := ((hd 43 (by decide)).1 131 rfl).trans (hd 43 (by decide)).2
              have d20 : A.tmps[108]?.getD undef = .bool false := ((hd 20 (by decide)).1 108 rfl).trans (hd 20 (by decide)).2
              refine wpOp_step rfl (fun K' hK => ?_)
              rw [if_pos (wanted_of 20 108 false rfl rfl d20)]
              go_simp
              exact hK _ _ ⟨_, rfl, rfl, fun _ _ _ h => h, hC⟩
          · intro A x W hC hd hr
            have stay : ∀ W', Below W.heap.size W W' → Below U.heap.size U W' := fun W' hb => hC.trans (hb.mono hC.size)
            have KSS := ksSB_stab TV UV ZV (.slice A' m c') (.slice A2 mk c2) pl xa ap gs k L M
            have e24 : A.tmps[24]?.getD undef = .pointer (some ⟨gu, 0, none⟩) := hr 24 (by decide)
            refine wpOp_step rfl (fun K' hK => ?_)
            obtain ⟨t0, t1, t2, t3, t4, t5, t6⟩ := HUC.out W hC
            go_simp
            exact hK _ _ ⟨_, rfl, HUV.out, fun _ _ _ h => h, hC⟩
          · intro x W hC hR
            have hxp : x 44 = .bool false := hR 44 (by decide)
            refine wpOp_step rfl (fun K' hK => ?_)
            simp only [putL, Act.put, Nat.zero_add, Nat.reduceAdd, List.setIfInBounds_toArray, List.set_cons_succ, List.set_cons_zero]
            have hxq : x 20 = .bool false := hR 20 (by decide)
            rw [hxp, hxq]
            generalize x 0 = y0
            generalize x 1 = y1
            generalize x 2 = y2
            generalize x 3 = y3
            generalize x 4 = y4
            generalize x 5 = y5
            generalize x 6 = y6
            generalize x 7 = y7
            generalize x 8 = y8
            generalize x 9 = y9
            generalize x 10 = y10
            generalize x 11 = y11
            generalize x 12 = y12
            generalize x 13 = y13
            generalize x 14 = y14
            generalize x 15 = y15
            generalize x 16 = y16
            generalize x 17 = y17
            generalize x 18 = y18
            generalize x 19 = y19
            generalize x 21 = y21
            generalize x 22 = y22
            generalize x 23 = y23
            generalize x 24 = y24
            generalize x 25 = y25
            generalize x 26 = y26
            generalize x 27 = y27
            generalize x 28 = y28
            generalize x 29 = y29
            generalize x 30 = y30
            generalize x 31 = y31
            generalize x 32 = y32
            generalize x 33 = y33
            generalize x 34 = y34
            generalize x 35 = y35
            generalize x 36 = y36
            generalize x 37 = y37
            generalize x 38 = y38
            generalize x 39 = y39
            generalize x 40 = y40
            generalize x 41 = y41
            generalize x 42 = y42
            generalize x 43 = y43
            go_simp
            refine hK _ _ ?_
            clear hK K' hxp hxq hR
            go_wp2
            exact ⟨⟨k + 1, by omega, by go_num, hC⟩, by simp [intOf]; omega⟩
        · obtain rfl : k = 3 := by omega
          have HWK := hide (HWU.out.trans (hbel.mono HWU.out.size))
          clear hbel
          go_wp2_with (go_at_call 12; refine (unhide CL _).mono ?_; rintro e w4 ⟨rfl, hb4⟩; have B4 := hide (HWK.out.trans (hb4.mono HWK.out.size)); clear hb4)
          go_ret
          exact ⟨rfl, B4.out⟩
end Go.Proofs.Ytbcfndhnopmbbaa
