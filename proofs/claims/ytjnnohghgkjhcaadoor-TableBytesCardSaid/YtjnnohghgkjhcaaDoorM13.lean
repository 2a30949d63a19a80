/-
  Tables as bytes: Decode of the reference, by contract.
-/
import Derived.Test.YtjnnohghgkjhcaaDoorM11
import Derived.Test.YtjnnohghgkjhcaaDoorM12
namespace Go.Proofs.YtjnnohghgkjhcaaDoor
open Go.RowKit
set_option linter.unusedVariables false
set_option linter.unusedSimpArgs false
set_option maxHeartbeats 4000000 in
set_option maxRecDepth 100000 in
theorem refDecodeT_any (ad : Addr) (n c : Nat) (l : List UInt8) (w : World) (hr : Reads w w.heap.size 1 (some ad) n (BV l)) (hm : n ≤ 1099511627776) (hnc : n ≤ c) :
  Calls Tryd.prog 15 #[.slice (some ad) n c] w fun e w' => ∃ v t, e = .returned (.tuple #[v, .int .i64 ((Wr.decT l).2.1 : Nat), .int .i64 (Wr.decT l).2.2]) ∧ TabX w' w'.heap.size v t ∧ ((Wr.decT l).2.2 = 0 → taOf t = (Wr.decT l).1) ∧ ((Wr.decT l).2.2 ≠ 0 → t = nilTab) ∧ Below w.heap.size w w' := by
 have hn : n = l.length := by have := hr.1; simp [BV] at this; omega
 have HRD := hide hr
 have HN := hide hn
 obtain ⟨RES, hRES⟩ : ∃ RES, RES = Wr.decT l := ⟨_, rfl⟩
 have HRES := hide hRES
 rw [← hRES]
 clear hr hn hRES
 go_enter Tryd.func15, Tryd.ntmps15
 go_upto_region 2 with fail
 refine name_world fun V hV => ?_
 have V2 := hide (show Blk V w.heap.size 29 #[.slice none 0 0, .slice none 0 0, .slice none 0 0, .slice none 0 0, .slice none 0 0, .slice none 0 0, .slice none 0 0] by rw [← hV.out]; exact (Blk.new w _ _).alloc _)
 have V5 := hide (show Blk V (w.heap.size + 1) 29 #[.slice none 0 0, .slice none 0 0, .slice none 0 0, .slice none 0 0, .slice none 0 0, .slice none 0 0, .slice none 0 0] by rw [← hV.out]; exact Blk.new2 w _ _ _)
 have HV := hide (show Below w.heap.size w V by rw [← hV.out]; exact ((Below.refl _ _).alloc (Nat.le_refl _) _).alloc (by simp) _)
 have hvs : V.heap.size = w.heap.size + 1 + 1 := by rw [← hV.out]; simp
 clear hV
 obtain ⟨g2, hg2⟩ : ∃ g2, g2 = w.heap.size := ⟨_, rfl⟩
 obtain ⟨g5, hg5⟩ : ∃ g5, g5 = w.heap.size + 1 := ⟨_, rfl⟩
 rw [← hg5] at V5 hvs ⊢
 rw [← hg2] at V2 ⊢
 have HG := hide (show g2 = w.heap.size ∧ g5 = w.heap.size + 1 ∧ V.heap.size = g5 + 1 from ⟨hg2, hg5, hvs⟩)
 clear hg2 hg5 hvs
 have HVV := hide (Below.refl g5 V)
 have HST := hide (show decSt l 0 0 [] [] from .inl ⟨rfl, rfl, rfl, rfl⟩)
 have HL0 := hide (LangX.nil V (g5 + 1))
 go_wp2
 go_loopw [6, 7] (fun s6 s wr => ∃ (i us : Nat) (m0 m1 : Value) (R0 R1 : List Wr.Ru), i ≤ 2 ∧ s = .int .i64 (i : Int) ∧ s6 = .int .i64 (us : Int) ∧ us ≤ n ∧ Blk wr g5 29 #[m0, m1, .slice none 0 0, .slice none 0 0, .slice none 0 0, .slice none 0 0, .slice none 0 0] ∧ LangX wr (g5 + 1) m0 R0 ∧ LangX wr (g5 + 1) m1 R1 ∧ Hid (decSt l i us R0 R1) ∧ Below g5 V wr ∧ g5 + 1 ≤ wr.heap.size ∧ (i = 0 → m0 = .slice none 0 0) ∧ (i ≤ 1 → m1 = .slice none 0 0)) (fun _ s _ => 2 - (intOf s).toNat)
 case atStart => exact ⟨0, 0, _, _, [], [], by omega, rfl, rfl, by omega, V5.out, HL0.out, HL0.out, HST.out, HVV.out, by have := HG.out.2.2; omega, fun _ => rfl, fun _ => rfl⟩
 case round =>
  obtain ⟨i, us, m0, m1, R0, R1, hi, rfl, rfl, hus, h5, hl0, hl1, HS, hbel, hsz, hm0, hm1⟩ := hrel
  obtain ⟨wd, rfl⟩ : ∃ wd, wd = wr := ⟨wr, rfl⟩
  have H5 := hide h5
  have HL0 := hide hl0
  have HL1 := hide hl1
  have HB := hide hbel
  have HM := hide (And.intro hm0 hm1)
  have hi0 : (0 : Int) ≤ (i : Int) := by omega
  have HWD := hide (show Below w.heap.size w wd from HV.out.trans (hbel.mono (by have := HG.out; omega)))
  have H2 := hide (show Blk wd g2 29 #[.slice none 0 0, .slice none 0 0, .slice none 0 0, .slice none 0 0, .slice none 0 0, .slice none 0 0, .slice none 0 0] from V2.out.below hbel (by have := HG.out; omega))
  clear h5 hl0 hl1 hbel hm0 hm1
  by_cases hlt : (i : Int) < 2
  ·have HSE := hide (fun he => decSt_err HS.out (by omega) he)
   by_cases hcu : c = us
   ·obtain rfl : n = c := by omega
    subst hcu
    have hd : l.drop n = [] := List.drop_eq_nil_of_le (by have := HN.out; omega)
    rw [hd] at HSE
    have hI : Wr.decN Wr.decR [] = ([], 0, 3) := rfl
    have hI2 : Wr.decI [] = (0, 0, 3) := rfl
    have C2 := hide (fun (W : World) (hb : Below w.heap.size w W) => refGetInt_any (some ad) 0 0 [] W (reads_zero _ _ _) (by unfold maxLen; omega) (by omega))
    rw [hI2] at C2
    rw [hI] at HSE
    have HD := hide (show RES = ((([], []), []), 0, 3) from HRES.out.trans (HSE.out (by decide)))
    clear hd hI hI2 HSE HS
    go_wp2_with (go_at_call 35; (with_reducible refine (unhide C2 wd HWD.out).mono ?_); rintro e w2 ⟨rfl, hb⟩; have H22 := hide (H2.out.below hb H2.out.lt); have HWE := hide (HWD.out.trans (hb.mono HWD.out.size)); obtain ⟨k0, k1, k2, k3, k4, k5, k6, z0, z1, z2, z3, z4, z5, z6⟩ := nil7 H22.out; clear hb)
    have hload := tab_stored H22.out (.slice none 0 0) (.slice none 0 0) (.slice none 0 0) (.slice none 0 0) (.slice none 0 0) (.slice none 0 0) (.slice none 0 0)
    rw [HD.out]
    exact bodyPost_ret (v := .tuple #[.agg #[.slice none 0 0, .slice none 0 0, .slice none 0 0, .slice none 0 0, .slice none 0 0, .slice none 0 0, .slice none 0 0], .int .i64 0, .int .i64 3]) (results_cell3 Tryd.results15 _ _ ⟨g2, 0, none⟩ _ rfl hload) rfl ⟨_, nilTab, rfl, (nil_tab _).x, fun h => absurd h (show ¬ ((3 : Int) = 0) by decide), fun _ => rfl, tab_below HWE.out (by have := HG.out; omega) _ _ _ _ _ _ _⟩
   ·have hcut := reads_rest HRD.out us hus
    have C2 := hide (fun (W : World) (hb : Below w.heap.size w W) => refGetInt_any (some (ad.add us)) (n - us) (c - us) (l.drop us) W ((hcut.below hb).more hb.size) (by unfold maxLen; omega) (by omega))
    have hud := Wr.decI_used (l.drop us)
    rw [List.length_drop] at hud
    have HNR := hide (show Wr.decN Wr.decR (l.drop us) = if (Wr.decI (l.drop us)).2.2 ≠ 0 then ([], 0, (Wr.decI (l.drop us)).2.2) else if (Wr.decI (l.drop us)).1 < 0 then ([], 0, 2) else Wr.comb [] (Wr.decI (l.drop us)).2.1 (Wr.decLoop Wr.decR (Wr.decI (l.drop us)).1.toNat ((l.drop us).drop (Wr.decI (l.drop us)).2.1)) from rfl)
    obtain ⟨R2, hR2⟩ : ∃ R2, R2 = Wr.decI (l.drop us) := ⟨_, rfl⟩
    have HR2 := hide hR2
    rw [← hR2] at C2 HNR hud
    obtain ⟨z, ur, er⟩ := R2
    simp only at C2 HNR hud
    have hul2 : us + ur ≤ n := by have := HN.out; omega
    clear hR2 hcut
    by_cases her : er ≠ 0
    ·have hber : (er != 0) = true := by rw [bne_iff_ne]; exact her
     have HER := hide her
     have h5 : Wr.decN Wr.decR (l.drop us) = ([], 0, er) := by rw [HNR.out, if_pos her]
     rw [h5] at HSE
     have HD := hide (show RES = ((([], []), []), 0, er) from HRES.out.trans (HSE.out her))
     clear HSE HS her HR2 h5 HNR
     go_wp2_with (go_at_call 35; (with_reducible refine (unhide C2 wd HWD.out).mono ?_); rintro e w2 ⟨rfl, hb⟩; have H22 := hide (H2.out.below hb H2.out.lt); have HWE := hide (HWD.out.trans (hb.mono HWD.out.size)); obtain ⟨k0, k1, k2, k3, k4, k5, k6, z0, z1, z2, z3, z4, z5, z6⟩ := nil7 H22.out; clear hb)
     have hload := tab_stored H22.out (.slice none 0 0) (.slice none 0 0) (.slice none 0 0) (.slice none 0 0) (.slice none 0 0) (.slice none 0 0) (.slice none 0 0)
     rw [HD.out]
     exact bodyPost_ret (v := .tuple #[.agg #[.slice none 0 0, .slice none 0 0, .slice none 0 0, .slice none 0 0, .slice none 0 0, .slice none 0 0, .slice none 0 0], .int .i64 0, .int .i64 er]) (results_cell3 Tryd.results15 _ _ ⟨g2, 0, none⟩ _ rfl hload) rfl ⟨_, nilTab, rfl, (nil_tab _).x, fun h => absurd h (HER.out), fun _ => rfl, tab_below HWE.out (by have := HG.out; omega) _ _ _ _ _ _ _⟩
    ·obtain rfl : er = 0 := by simpa using her
     by_cases hz : z < 0
     ·have h5 : Wr.decN Wr.decR (l.drop us) = ([], 0, 2) := by rw [HNR.out, if_neg her, if_pos hz]
      rw [h5] at HSE
      have HD := hide (show RES = ((([], []), []), 0, 2) from HRES.out.trans (HSE.out (show ¬ ((2 : Int) = 0) by decide)))
      clear HSE HS her HR2 h5 HNR
      go_wp2_with (go_at_call 35; (with_reducible refine (unhide C2 wd HWD.out).mono ?_); rintro e w2 ⟨rfl, hb⟩; have H22 := hide (H2.out.below hb H2.out.lt); have HWE := hide (HWD.out.trans (hb.mono HWD.out.size)); obtain ⟨k0, k1, k2, k3, k4, k5, k6, z0, z1, z2, z3, z4, z5, z6⟩ := nil7 H22.out; clear hb)
      have hload := tab_stored H22.out (.slice none 0 0) (.slice none 0 0) (.slice none 0 0) (.slice none 0 0) (.slice none 0 0) (.slice none 0 0) (.slice none 0 0)
      rw [HD.out]
      exact bodyPost_ret (v := .tuple #[.agg #[.slice none 0 0, .slice none 0 0, .slice none 0 0, .slice none 0 0, .slice none 0 0, .slice none 0 0, .slice none 0 0], .int .i64 0, .int .i64 2]) (results_cell3 Tryd.results15 _ _ ⟨g2, 0, none⟩ _ rfl hload) rfl ⟨_, nilTab, rfl, (nil_tab _).x, fun h => absurd h (show ¬ ((2 : Int) = 0) by decide), fun _ => rfl, tab_below HWE.out (by have := HG.out; omega) _ _ _ _ _ _ _⟩
     ·obtain ⟨m, rfl⟩ : ∃ m : Nat, z = (m : Int) := ⟨z.toNat, by omega⟩
      have hmi : (m : Int) ≤ 9223372036854775807 := by
       have h := HR2.out
       exact ((Wr.enc_dec (l := l.drop us) (n := (m : Int)) (u := ur) h.symm).1).2
      have HC0 := hide (show Wr.decN Wr.decR (l.drop us) = Wr.comb [] ur (Wr.decLoop Wr.decR m ((l.drop us).drop ur)) from by rw [HNR.out, if_neg her, if_neg hz]; rfl)
      clear her hz HNR HR2
      obtain rfl | rfl : i = 0 ∨ i = 1 := by omega
      ·rw [show ((0 : Nat) : Int) = 0 from rfl]
       obtain rfl : m0 = .slice none 0 0 := HM.out.1 rfl
       have HM1 := hide (HM.out.2 (by omega))
       have OO0 := hide (OwnX.nil wd (g5 + 1))
       have GG0 := hide H2.out
       have FF0 := hide H5.out
       have MM0 := hide HL1.out
       have BB0 := hide HB.out
       have SZ0 := hide hsz
       have WW0 := hide HWD.out
       clear H2 H5 HL0 HL1 HB HM hsz
       go_wp2_with (go_at_call 35; (with_reducible refine (unhide C2 wd WW0.out).mono ?_); rintro e w2 ⟨rfl, hb⟩; have GG1 := hide (GG0.out.below hb GG0.out.lt); have FF1 := hide (FF0.out.below hb FF0.out.lt); have OO1 := hide (OO0.out.below hb); have MM1 := hide (MM0.out.below hb); have BB1 := hide (BB0.out.trans (hb.mono (by have := GG0.out.lt; have := SZ0.out; omega))); have SZ1 := hide (Nat.le_trans SZ0.out hb.size); have WW1 := hide (WW0.out.trans (hb.mono WW0.out.size)); clear hb)
       obtain ⟨bq, hbq⟩ : ∃ bq, bq = w2.heap.size := ⟨_, rfl⟩
       have hbq5 : g5 + 1 ≤ bq := by have := SZ1.out; omega
       have OOS := hide (OwnX.nil w2 bq)
       have MMS := hide (show LangU w2 (g5 + 1) bq m1 R1 from by rw [hbq]; exact MM1.out.up)
       have SZS := hide (show bq ≤ w2.heap.size from Nat.le_of_eq hbq)
       clear hbq
       go_loopw [6, 11] (fun s6 s wr => ∃ (j ua : Nat) (rs : List Tb.Rl) (y : Value), j ≤ m ∧ s = .int .i64 (j : Int) ∧ s6 = .int .i64 ((us + ua : Nat) : Int) ∧ us + ua ≤ n ∧ rs.length ≤ ua ∧ Blk wr g5 29 #[y, m1, .slice none 0 0, .slice none 0 0, .slice none 0 0, .slice none 0 0, .slice none 0 0] ∧ OwnX wr bq y rs ∧ LangU wr (g5 + 1) bq m1 R1 ∧ Hid (Wr.comb (rs.map ru) ua (Wr.decLoop Wr.decR (m - j) ((l.drop us).drop ua)) = Wr.decN Wr.decR (l.drop us)) ∧ Below g5 V wr ∧ bq ≤ wr.heap.size ∧ Blk wr g2 29 #[.slice none 0 0, .slice none 0 0, .slice none 0 0, .slice none 0 0, .slice none 0 0, .slice none 0 0, .slice none 0 0] ∧ Below w.heap.size w wr) (fun _ s _ => m - (intOf s).toNat)
       case atStart => exact ⟨0, ur, [], .slice none 0 0, by omega, rfl, by go_num, hul2, by simp, FF1.out, OOS.out, MMS.out, HC0.out.symm, BB1.out, SZS.out, GG1.out, WW1.out⟩
       case round =>
        obtain ⟨j, ua, rs, y, hj, rfl, rfl, hup, hrl, hf, ho, hmo, HC, hbl, hsz, hg, hww⟩ := hrel
        obtain ⟨wq, rfl⟩ : ∃ wq, wq = wr := ⟨wr, rfl⟩
        clear OO0 GG0 FF0 MM0 BB0 SZ0 WW0 OO1 GG1 FF1 MM1 BB1 SZ1 WW1 OOS MMS SZS
        have OO2 := hide ho
        have GG2 := hide hg
        have FF2 := hide hf
        have MM2 := hide hmo
        have BB2 := hide hbl
        have SZ2 := hide hsz
        have WW2 := hide hww
        have hj0 : (0 : Int) ≤ (j : Int) := by omega
        clear ho hg hf hmo hbl hsz hww
        by_cases hlt2 : (j : Int) < (m : Int)
        ·obtain ⟨p, hp⟩ : ∃ p, p = us + ua := ⟨_, rfl⟩
         have HP := hide hp
         have hL : (l.drop us).drop ua = l.drop p := by rw [List.drop_drop, hp]
         have hst := HC.out
         rw [show m - j = m - j - 1 + 1 by omega, hL] at hst
         have HER := hide (fun (e : Int) (he : e ≠ 0) (hx : Wr.decR (l.drop p) = (([], 0, []), 0, e)) => (show RES = ((([], []), []), 0, e) from by
          have h1 := Wr.comb_err Wr.decR (rs.map ru) ua (m - j - 1) (l.drop p) (by rw [hx]; exact he)
          rw [hst, hx] at h1
          have h2 := HSE.out (by rw [h1]; exact he)
          rw [h1] at h2
          exact HRES.out.trans h2))
         rw [← hp] at hup ⊢
         have HK := hide (Wr.comb_ok Wr.decR (rs.map ru) ua (m - j - 1) (l.drop p))
         have HSTT := hide hst
         clear hst hL hp HC HSE
         by_cases hcA : c = p
         ·obtain rfl : n = c := by omega
          subst hcA
          have hd : l.drop n = [] := List.drop_eq_nil_of_le (by have := HN.out; omega)
          have HD := hide (HER.out 3 (by decide) (by rw [hd]; rfl))
          have hI : Wr.decB [] = ([], 0, 3) := rfl
          have C3 := hide (fun (W : World) (hb : Below w.heap.size w W) => refGetBytes_any (some ad) 0 0 [] W (reads_zero _ _ _) (by omega) (by omega))
          rw [hI] at C3
          clear hd hI HER HK HSTT
          go_wp2_with (first | (go_at_call 36; (with_reducible refine (unhide C3 wq WW2.out).mono ?_); rintro e w3 ⟨rfl, hb⟩; have GG3 := hide (GG2.out.below hb GG2.out.lt); have FF3 := hide (FF2.out.below hb FF2.out.lt); have OO3 := hide (OO2.out.below hb); have MM3 := hide (MM2.out.below hb); have BB3 := hide (BB2.out.trans (hb.mono (by have := GG2.out.lt; have := SZ2.out; omega))); have SZ3 := hide (Nat.le_trans SZ2.out hb.size); have WW3 := hide (WW2.out.trans (hb.mono WW2.out.size)); obtain ⟨k0, k1, k2, k3, k4, k5, k6, z0, z1, z2, z3, z4, z5, z6⟩ := nil7 GG3.out; clear hb))
          have hload := tab_stored GG3.out (.slice none 0 0) (.slice none 0 0) (.slice none 0 0) (.slice none 0 0) (.slice none 0 0) (.slice none 0 0) (.slice none 0 0)
          rw [HD.out]
          exact bodyPost_ret (v := .tuple #[.agg #[.slice none 0 0, .slice none 0 0, .slice none 0 0, .slice none 0 0, .slice none 0 0, .slice none 0 0, .slice none 0 0], .int .i64 0, .int .i64 3]) (results_cell3 Tryd.results15 _ _ ⟨g2, 0, none⟩ _ rfl hload) rfl ⟨_, nilTab, rfl, (nil_tab _).x, fun h => absurd h (show ¬ ((3 : Int) = 0) by decide), fun _ => rfl, tab_below WW3.out (by have := HG.out; omega) _ _ _ _ _ _ _⟩
         ·have hcut := reads_rest HRD.out p hup
          have C3 := hide (fun (W : World) (hb : Below w.heap.size w W) => refGetBytes_any (some (ad.add p)) (n - p) (c - p) (l.drop p) W ((hcut.below hb).more hb.size) (by omega) (by omega))
          have hu1 := Wr.decB_used (l.drop p)
          rw [List.length_drop] at hu1
          have D1 := hide (@Wr.decR_err1 (l.drop p))
          have D2 := hide (@Wr.decR_err2 (l.drop p))
          have D3 := hide (@Wr.decR_err3 (l.drop p))
          have D4 := hide (@Wr.decR_ok (l.drop p))
          obtain ⟨x1, hx1⟩ : ∃ x1, x1 = (Wr.decB (l.drop p)).1 := ⟨_, rfl⟩
          obtain ⟨u1, hu1'⟩ : ∃ u1, u1 = (Wr.decB (l.drop p)).2.1 := ⟨_, rfl⟩
          obtain ⟨e1, he1⟩ : ∃ e1, e1 = (Wr.decB (l.drop p)).2.2 := ⟨_, rfl⟩
          rw [← hx1, ← hu1', ← he1] at C3
          rw [← hu1'] at hu1
          rw [← he1] at D1
          rw [← hu1', ← he1] at D2 D3
          rw [← hx1, ← hu1', ← he1] at D4
          have hul : p + u1 ≤ n := by have := HN.out; omega
          clear hx1 hu1' he1 hcut
          by_cases h1 : e1 ≠ 0
          ·have HD := hide (HER.out e1 h1 (D1.out h1))
           have HNE := hide h1
           have hb1 : (e1 != 0) = true := by rw [bne_iff_ne]; exact h1
           clear h1 D1 D2 D3 D4 HER HK HSTT
           go_wp2_with (first | (go_at_call 36; (with_reducible refine (unhide C3 wq WW2.out).mono ?_); rintro e w3 ⟨rfl, hb⟩; have GG3 := hide (GG2.out.below hb GG2.out.lt); have FF3 := hide (FF2.out.below hb FF2.out.lt); have OO3 := hide (OO2.out.below hb); have MM3 := hide (MM2.out.below hb); have BB3 := hide (BB2.out.trans (hb.mono (by have := GG2.out.lt; have := SZ2.out; omega))); have SZ3 := hide (Nat.le_trans SZ2.out hb.size); have WW3 := hide (WW2.out.trans (hb.mono WW2.out.size)); obtain ⟨k0, k1, k2, k3, k4, k5, k6, z0, z1, z2, z3, z4, z5, z6⟩ := nil7 GG3.out; clear hb))
           have hload := tab_stored GG3.out (.slice none 0 0) (.slice none 0 0) (.slice none 0 0) (.slice none 0 0) (.slice none 0 0) (.slice none 0 0) (.slice none 0 0)
           rw [HD.out]
           exact bodyPost_ret (v := .tuple #[.agg #[.slice none 0 0, .slice none 0 0, .slice none 0 0, .slice none 0 0, .slice none 0 0, .slice none 0 0, .slice none 0 0], .int .i64 0, .int .i64 e1]) (results_cell3 Tryd.results15 _ _ ⟨g2, 0, none⟩ _ rfl hload) rfl ⟨_, nilTab, rfl, (nil_tab _).x, fun h => absurd h (HNE.out), fun _ => rfl, tab_below WW3.out (by have := HG.out; omega) _ _ _ _ _ _ _⟩
          ·obtain rfl : e1 = 0 := by simpa using h1
           have D2 := hide (D2.out rfl)
           have D3 := hide (D3.out rfl)
           have D4 := hide (D4.out rfl)
           rw [List.drop_drop] at D2 D3 D4
           clear h1 D1
           by_cases hcB : p + u1 = c
           ·obtain rfl : n = c := by omega
            have hd : l.drop (p + u1) = [] := List.drop_eq_nil_of_le (by have := HN.out; omega)
            rw [hd] at D2
            have hI : Wr.decI [] = (0, 0, 3) := rfl
            have C4 := hide (fun (W : World) (hb : Below w.heap.size w W) => refGetInt_any (some ad) 0 0 [] W (reads_zero _ _ _) (by unfold maxLen; omega) (by omega))
            rw [hI] at D2 C4
            have HD := hide (HER.out 3 (by decide) (D2.out (by decide)))
            clear hd hI HER HK HSTT D2 D3 D4
            go_wp2_with (first | (go_at_call 36; (with_reducible refine (unhide C3 wq WW2.out).mono ?_); rintro e w3 ⟨rfl, hb⟩; have GG3 := hide (GG2.out.below hb GG2.out.lt); have FF3 := hide (FF2.out.below hb FF2.out.lt); have OO3 := hide (OO2.out.below hb); have MM3 := hide (MM2.out.below hb); have BB3 := hide (BB2.out.trans (hb.mono (by have := GG2.out.lt; have := SZ2.out; omega))); have SZ3 := hide (Nat.le_trans SZ2.out hb.size); have WW3 := hide (WW2.out.trans (hb.mono WW2.out.size)); clear hb) | (go_at_call 35; (with_reducible refine (unhide C4 w3 WW3.out).mono ?_); rintro e w4 ⟨rfl, hb⟩; have GG4 := hide (GG3.out.below hb GG3.out.lt); have FF4 := hide (FF3.out.below hb FF3.out.lt); have OO4 := hide (OO3.out.below hb); have MM4 := hide (MM3.out.below hb); have BB4 := hide (BB3.out.trans (hb.mono (by have := GG3.out.lt; have := SZ3.out; omega))); have SZ4 := hide (Nat.le_trans SZ3.out hb.size); have WW4 := hide (WW3.out.trans (hb.mono WW3.out.size)); obtain ⟨k0, k1, k2, k3, k4, k5, k6, z0, z1, z2, z3, z4, z5, z6⟩ := nil7 GG4.out; clear hb))
            have hload := tab_stored GG4.out (.slice none 0 0) (.slice none 0 0) (.slice none 0 0) (.slice none 0 0) (.slice none 0 0) (.slice none 0 0) (.slice none 0 0)
            rw [HD.out]
            exact bodyPost_ret (v := .tuple #[.agg #[.slice none 0 0, .slice none 0 0, .slice none 0 0, .slice none 0 0, .slice none 0 0, .slice none 0 0, .slice none 0 0], .int .i64 0, .int .i64 3]) (results_cell3 Tryd.results15 _ _ ⟨g2, 0, none⟩ _ rfl hload) rfl ⟨_, nilTab, rfl, (nil_tab _).x, fun h => absurd h (show ¬ ((3 : Int) = 0) by decide), fun _ => rfl, tab_below WW4.out (by have := HG.out; omega) _ _ _ _ _ _ _⟩
           ·have hcut := reads_rest HRD.out (p + u1) hul
            have hcB' : ¬ c = p + u1 := fun h => hcB h.symm
            have C4 := hide (fun (W : World) (hb : Below w.heap.size w W) => refGetInt_any (some (ad.add (p + u1))) (n - (p + u1)) (c - (p + u1)) (l.drop (p + u1)) W ((hcut.below hb).more hb.size) (by unfold maxLen; omega) (by omega))
            have hu2 := Wr.decI_used (l.drop (p + u1))
            rw [List.length_drop] at hu2
            have HX2 := hide (show (Wr.decI (l.drop (p + u1))).2.2 = 0 → Wr.inI (Wr.decI (l.drop (p + u1))).1 from fun h => (Wr.enc_dec (l := l.drop (p + u1)) (n := (Wr.decI (l.drop (p + u1))).1) (u := (Wr.decI (l.drop (p + u1))).2.1) (by rw [← h])).1)
            obtain ⟨x2, hx2⟩ : ∃ x2, x2 = (Wr.decI (l.drop (p + u1))).1 := ⟨_, rfl⟩
            obtain ⟨u2, hu2'⟩ : ∃ u2, u2 = (Wr.decI (l.drop (p + u1))).2.1 := ⟨_, rfl⟩
            obtain ⟨e2, he2⟩ : ∃ e2, e2 = (Wr.decI (l.drop (p + u1))).2.2 := ⟨_, rfl⟩
            rw [← hx2, ← hu2', ← he2] at C4
            rw [← hx2, ← he2] at HX2
            rw [← hu2'] at hu2
            rw [← he2] at D2
            rw [← hu2', ← he2] at D3
            rw [← hx2, ← hu2', ← he2] at D4
            have hul3 : p + u1 + u2 ≤ n := by have := HN.out; omega
            clear hx2 hu2' he2 hcut hcB
            by_cases h2 : e2 ≠ 0
            ·have HD := hide (HER.out e2 h2 (D2.out h2))
             have HNE := hide h2
             have hb2 : (e2 != 0) = true := by rw [bne_iff_ne]; exact h2
             clear h2 D2 D3 D4 HER HK HSTT
             go_wp2_with (first | (go_at_call 36; (with_reducible refine (unhide C3 wq WW2.out).mono ?_); rintro e w3 ⟨rfl, hb⟩; have GG3 := hide (GG2.out.below hb GG2.out.lt); have FF3 := hide (FF2.out.below hb FF2.out.lt); have OO3 := hide (OO2.out.below hb); have MM3 := hide (MM2.out.below hb); have BB3 := hide (BB2.out.trans (hb.mono (by have := GG2.out.lt; have := SZ2.out; omega))); have SZ3 := hide (Nat.le_trans SZ2.out hb.size); have WW3 := hide (WW2.out.trans (hb.mono WW2.out.size)); clear hb) | (go_at_call 35; (with_reducible refine (unhide C4 w3 WW3.out).mono ?_); rintro e w4 ⟨rfl, hb⟩; have GG4 := hide (GG3.out.below hb GG3.out.lt); have FF4 := hide (FF3.out.below hb FF3.out.lt); have OO4 := hide (OO3.out.below hb); have MM4 := hide (MM3.out.below hb); have BB4 := hide (BB3.out.trans (hb.mono (by have := GG3.out.lt; have := SZ3.out; omega))); have SZ4 := hide (Nat.le_trans SZ3.out hb.size); have WW4 := hide (WW3.out.trans (hb.mono WW3.out.size)); obtain ⟨k0, k1, k2, k3, k4, k5, k6, z0, z1, z2, z3, z4, z5, z6⟩ := nil7 GG4.out; clear hb))
             have hload := tab_stored GG4.out (.slice none 0 0) (.slice none 0 0) (.slice none 0 0) (.slice none 0 0) (.slice none 0 0) (.slice none 0 0) (.slice none 0 0)
             rw [HD.out]
             exact bodyPost_ret (v := .tuple #[.agg #[.slice none 0 0, .slice none 0 0, .slice none 0 0, .slice none 0 0, .slice none 0 0, .slice none 0 0, .slice none 0 0], .int .i64 0, .int .i64 e2]) (results_cell3 Tryd.results15 _ _ ⟨g2, 0, none⟩ _ rfl hload) rfl ⟨_, nilTab, rfl, (nil_tab _).x, fun h => absurd h (HNE.out), fun _ => rfl, tab_below WW4.out (by have := HG.out; omega) _ _ _ _ _ _ _⟩
            ·obtain rfl : e2 = 0 := by simpa using h2
             have D3 := hide (D3.out rfl)
             have D4 := hide (D4.out rfl)
             rw [List.drop_drop] at D3 D4
             clear h2 D2
             by_cases hcC : p + u1 + u2 = c
             ·obtain rfl : n = c := by omega
              have hd : l.drop (p + u1 + u2) = [] := List.drop_eq_nil_of_le (by have := HN.out; omega)
              rw [hd] at D3
              have hI : Wr.decB [] = ([], 0, 3) := rfl
              have C5 := hide (fun (W : World) (hb : Below w.heap.size w W) => refGetBytes_any (some ad) 0 0 [] W (reads_zero _ _ _) (by omega) (by omega))
              rw [hI] at D3 C5
              have HD := hide (HER.out 3 (by decide) (D3.out (by decide)))
              clear hd hI HER HK HSTT D3 D4
              go_wp2_with (first | (go_at_call 36; (with_reducible refine (unhide C3 wq WW2.out).mono ?_); rintro e w3 ⟨rfl, hb⟩; have GG3 := hide (GG2.out.below hb GG2.out.lt); have FF3 := hide (FF2.out.below hb FF2.out.lt); have OO3 := hide (OO2.out.below hb); have MM3 := hide (MM2.out.below hb); have BB3 := hide (BB2.out.trans (hb.mono (by have := GG2.out.lt; have := SZ2.out; omega))); have SZ3 := hide (Nat.le_trans SZ2.out hb.size); have WW3 := hide (WW2.out.trans (hb.mono WW2.out.size)); clear hb) | (go_at_call 35; (with_reducible refine (unhide C4 w3 WW3.out).mono ?_); rintro e w4 ⟨rfl, hb⟩; have GG4 := hide (GG3.out.below hb GG3.out.lt); have FF4 := hide (FF3.out.below hb FF3.out.lt); have OO4 := hide (OO3.out.below hb); have MM4 := hide (MM3.out.below hb); have BB4 := hide (BB3.out.trans (hb.mono (by have := GG3.out.lt; have := SZ3.out; omega))); have SZ4 := hide (Nat.le_trans SZ3.out hb.size); have WW4 := hide (WW3.out.trans (hb.mono WW3.out.size)); clear hb) | (go_at_call 36; (with_reducible refine (unhide C5 w4 WW4.out).mono ?_); rintro e w5 ⟨rfl, hb⟩; have GG5 := hide (GG4.out.below hb GG4.out.lt); have FF5 := hide (FF4.out.below hb FF4.out.lt); have OO5 := hide (OO4.out.below hb); have MM5 := hide (MM4.out.below hb); have BB5 := hide (BB4.out.trans (hb.mono (by have := GG4.out.lt; have := SZ4.out; omega))); have SZ5 := hide (Nat.le_trans SZ4.out hb.size); have WW5 := hide (WW4.out.trans (hb.mono WW4.out.size)); obtain ⟨k0, k1, k2, k3, k4, k5, k6, z0, z1, z2, z3, z4, z5, z6⟩ := nil7 GG5.out; clear hb))
              have hload := tab_stored GG5.out (.slice none 0 0) (.slice none 0 0) (.slice none 0 0) (.slice none 0 0) (.slice none 0 0) (.slice none 0 0) (.slice none 0 0)
              rw [HD.out]
              exact bodyPost_ret (v := .tuple #[.agg #[.slice none 0 0, .slice none 0 0, .slice none 0 0, .slice none 0 0, .slice none 0 0, .slice none 0 0, .slice none 0 0], .int .i64 0, .int .i64 3]) (results_cell3 Tryd.results15 _ _ ⟨g2, 0, none⟩ _ rfl hload) rfl ⟨_, nilTab, rfl, (nil_tab _).x, fun h => absurd h (show ¬ ((3 : Int) = 0) by decide), fun _ => rfl, tab_below WW5.out (by have := HG.out; omega) _ _ _ _ _ _ _⟩
             ·have hcut := reads_rest HRD.out (p + u1 + u2) hul3
              have hcC' : ¬ c = p + u1 + u2 := fun h => hcC h.symm
              have C5 := hide (fun (W : World) (hb : Below w.heap.size w W) => refGetBytes_any (some (ad.add (p + u1 + u2))) (n - (p + u1 + u2)) (c - (p + u1 + u2)) (l.drop (p + u1 + u2)) W ((hcut.below hb).more hb.size) (by omega) (by omega))
              have hu3 := Wr.decB_used (l.drop (p + u1 + u2))
              rw [List.length_drop] at hu3
              obtain ⟨x3, hx3⟩ : ∃ x3, x3 = (Wr.decB (l.drop (p + u1 + u2))).1 := ⟨_, rfl⟩
              obtain ⟨u3, hu3'⟩ : ∃ u3, u3 = (Wr.decB (l.drop (p + u1 + u2))).2.1 := ⟨_, rfl⟩
              obtain ⟨e3, he3⟩ : ∃ e3, e3 = (Wr.decB (l.drop (p + u1 + u2))).2.2 := ⟨_, rfl⟩
              rw [← hx3, ← hu3', ← he3] at C5
              rw [← hu3'] at hu3
              rw [← he3] at D3
              rw [← hx3, ← hu3', ← he3] at D4
              have hul4 : p + u1 + u2 + u3 ≤ n := by have := HN.out; omega
              clear hx3 hu3' he3 hcut hcC
              by_cases h3 : e3 ≠ 0
              ·have HD := hide (HER.out e3 h3 (D3.out h3))
               have HNE := hide h3
               have hb3 : (e3 != 0) = true := by rw [bne_iff_ne]; exact h3
               clear h3 D3 D4 HER HK HSTT
               go_wp2_with (first | (go_at_call 36; (with_reducible refine (unhide C3 wq WW2.out).mono ?_); rintro e w3 ⟨rfl, hb⟩; have GG3 := hide (GG2.out.below hb GG2.out.lt); have FF3 := hide (FF2.out.below hb FF2.out.lt); have OO3 := hide (OO2.out.below hb); have MM3 := hide (MM2.out.below hb); have BB3 := hide (BB2.out.trans (hb.mono (by have := GG2.out.lt; have := SZ2.out; omega))); have SZ3 := hide (Nat.le_trans SZ2.out hb.size); have WW3 := hide (WW2.out.trans (hb.mono WW2.out.size)); clear hb) | (go_at_call 35; (with_reducible refine (unhide C4 w3 WW3.out).mono ?_); rintro e w4 ⟨rfl, hb⟩; have GG4 := hide (GG3.out.below hb GG3.out.lt); have FF4 := hide (FF3.out.below hb FF3.out.lt); have OO4 := hide (OO3.out.below hb); have MM4 := hide (MM3.out.below hb); have BB4 := hide (BB3.out.trans (hb.mono (by have := GG3.out.lt; have := SZ3.out; omega))); have SZ4 := hide (Nat.le_trans SZ3.out hb.size); have WW4 := hide (WW3.out.trans (hb.mono WW3.out.size)); clear hb) | (go_at_call 36; (with_reducible refine (unhide C5 w4 WW4.out).mono ?_); rintro e w5 ⟨rfl, hb⟩; have GG5 := hide (GG4.out.below hb GG4.out.lt); have FF5 := hide (FF4.out.below hb FF4.out.lt); have OO5 := hide (OO4.out.below hb); have MM5 := hide (MM4.out.below hb); have BB5 := hide (BB4.out.trans (hb.mono (by have := GG4.out.lt; have := SZ4.out; omega))); have SZ5 := hide (Nat.le_trans SZ4.out hb.size); have WW5 := hide (WW4.out.trans (hb.mono WW4.out.size)); obtain ⟨k0, k1, k2, k3, k4, k5, k6, z0, z1, z2, z3, z4, z5, z6⟩ := nil7 GG5.out; clear hb))
               have hload := tab_stored GG5.out (.slice none 0 0) (.slice none 0 0) (.slice none 0 0) (.slice none 0 0) (.slice none 0 0) (.slice none 0 0) (.slice none 0 0)
               rw [HD.out]
               exact bodyPost_ret (v := .tuple #[.agg #[.slice none 0 0, .slice none 0 0, .slice none 0 0, .slice none 0 0, .slice none 0 0, .slice none 0 0, .slice none 0 0], .int .i64 0, .int .i64 e3]) (results_cell3 Tryd.results15 _ _ ⟨g2, 0, none⟩ _ rfl hload) rfl ⟨_, nilTab, rfl, (nil_tab _).x, fun h => absurd h (HNE.out), fun _ => rfl, tab_below WW5.out (by have := HG.out; omega) _ _ _ _ _ _ _⟩
              ·obtain rfl : e3 = 0 := by simpa using h3
               have HDR := hide (D4.out rfl)
               have HIN := hide (HX2.out rfl)
               have HUS := hide (decR_used (l.drop p))
               clear h3 D3 D4 HER HX2
               obtain ⟨Ay, cy, hy, _, _⟩ := own_slice OO2.out.1
               subst hy
               go_upto_region 24 with (first | (go_at_call 36; (with_reducible refine (unhide C3 wq WW2.out).mono ?_); rintro e w3 ⟨rfl, hb⟩; have GG3 := hide (GG2.out.below hb GG2.out.lt); have FF3 := hide (FF2.out.below hb FF2.out.lt); have OO3 := hide (OO2.out.below hb); have MM3 := hide (MM2.out.below hb); have BB3 := hide (BB2.out.trans (hb.mono (by have := GG2.out.lt; have := SZ2.out; omega))); have SZ3 := hide (Nat.le_trans SZ2.out hb.size); have WW3 := hide (WW2.out.trans (hb.mono WW2.out.size)); clear hb) | (go_at_call 35; (with_reducible refine (unhide C4 w3 WW3.out).mono ?_); rintro e w4 ⟨rfl, hb⟩; have GG4 := hide (GG3.out.below hb GG3.out.lt); have FF4 := hide (FF3.out.below hb FF3.out.lt); have OO4 := hide (OO3.out.below hb); have MM4 := hide (MM3.out.below hb); have BB4 := hide (BB3.out.trans (hb.mono (by have := GG3.out.lt; have := SZ3.out; omega))); have SZ4 := hide (Nat.le_trans SZ3.out hb.size); have WW4 := hide (WW3.out.trans (hb.mono WW3.out.size)); clear hb) | (go_at_call 36; (with_reducible refine (unhide C5 w4 WW4.out).mono ?_); rintro e w5 ⟨rfl, hb⟩; have GG5 := hide (GG4.out.below hb GG4.out.lt); have FF5 := hide (FF4.out.below hb FF4.out.lt); have OO5 := hide (OO4.out.below hb); have MM5 := hide (MM4.out.below hb); have BB5 := hide (BB4.out.trans (hb.mono (by have := GG4.out.lt; have := SZ4.out; omega))); have SZ5 := hide (Nat.le_trans SZ4.out hb.size); have WW5 := hide (WW4.out.trans (hb.mono WW4.out.size)); clear hb))
               have kk : w5.cell? ⟨g5, 0, none⟩ = some (.slice Ay rs.length cy) := FF5.out.cell 0
               obtain ⟨c6, w6, hconv, hc6, hrd6, hb6, hs6⟩ := conv_bytesY x3 w5
               have HC6 := hide hc6
               have HR6 := hide hrd6
               have FF6 := hide (FF5.out.below hb6 FF5.out.lt)
               have GG6 := hide (GG5.out.below hb6 GG5.out.lt)
               have OO6 := hide (OO5.out.below hb6)
               have MM6 := hide (MM5.out.below hb6)
               have BB6 := hide (BB5.out.trans (hb6.mono (by have := SZ5.out; omega)))
               have SZ6 := hide (Nat.le_trans SZ5.out hb6.size)
               have WW6 := hide (WW5.out.trans (hb6.mono WW5.out.size))
               have HS6 := hide hs6
               obtain ⟨gc, hgc⟩ : ∃ gc, gc = w5.heap.size := ⟨_, rfl⟩
               have HGC := hide hgc
               obtain ⟨l3, hl3⟩ : ∃ l3, l3 = x3.length := ⟨_, rfl⟩
               have HL3 := hide hl3
               rw [← hl3, ← hgc] at hconv
               clear hc6 hrd6 hb6 hs6 hgc hl3
               have HAL := hide (below_alloc w6 (.cells #[.string (S x1), .int .i64 x2, .slice (some ⟨gc, 0, none⟩) l3 c6] 45))
               obtain ⟨i0, hi, hz0, hz1, hz2⟩ := info_parts ruleInfo3''
               have HI := hide hi
               have HZ0 := hide hz0
               have HZ1 := hide hz1
               have HZ2 := hide hz2
               have hrl3 : rs.length ≤ 1099511627776 := by have := HP.out; omega
               clear hi hz0 hz1 hz2
               go_wp2_with (at_builtin; refine wpList_append_any _ rfl (.tmp 98) (.tmp 104) 24 rfl bq 45 i0 (.agg #[.string { data := #[] }, .int .i64 0, .slice none 0 0]) 3 48 Tryd.underlying24 HI.out HZ0.out HZ1.out HZ2.out rfl (by omega) (.slice Ay rs.length cy) rs.length (RC rs) rfl (own_below OO6.out.1 HAL.out) _ (some ⟨w6.heap.size, 0, none⟩) 1 1 [.string (S x1), .int .i64 x2, .slice (some ⟨gc, 0, none⟩) l3 c6] rfl (reads_rule1 w6 _ _ _) (by simp [Value.oneCell']) (by unfold maxLen; omega) (by omega) (by have := SZ6.out; simp; omega) ?_; intro v7 w7 hown7 hgrow7 hat7; obtain ⟨A7, c7, rfl, _, _⟩ := own_slice hown7; have HO7 := hide hown7; have HG7 := hide hgrow7; have HA7 := hide hat7; have HB7 := hide (below_grown hgrow7 (own_below OO6.out.1 HAL.out) (by have := SZ6.out; simp; omega)); have FF7 := hide ((FF6.out.below HAL.out FF6.out.lt).below HB7.out (by omega)); have kw : w7.cell? ⟨g5, 0, none⟩ = some (.slice Ay rs.length cy) := FF7.out.cell 0; have zw := FF7.out.frozen 0; clear hown7 hgrow7 hat7)
               have HOA := hide (OO6.out.below HAL.out)
               have HGX := hide (show gc = w5.heap.size ∧ bq ≤ w5.heap.size from ⟨HGC.out, SZ5.out⟩)
               have HSN := hide (show OwnX w7 bq (.slice A7 (rs.length + 1) c7) (rs ++ [⟨x1, x2, ⟨x3, some ⟨gc, 0, none⟩, c6⟩⟩]) from HOA.out.snoc ⟨x1, x2, ⟨x3, some ⟨gc, 0, none⟩, c6⟩⟩ ⟨((show BsX w6 w6.heap.size ⟨x3, some ⟨gc, 0, none⟩, c6⟩ from ⟨by rw [HGC.out]; exact HR6.out, HC6.out⟩).below HAL.out).more HAL.out.size, HIN.out, fun _ a ha => by
                injection ha with ha
                subst ha
                refine ⟨fun he => ?_, by have := HGX.out; show bq ≤ gc; omega⟩
                have h1 := (OO5.out.1.lt gc he.symm).2
                have := HGX.out
                omega⟩ (by rw [RC_of]; have h := HO7.out; rw [HL3.out] at h; exact h) HG7.out HA7.out)
               have HB67 := hide (show Below bq w6 w7 from (HAL.out.mono SZ6.out).trans HB7.out)
               have GG7 := hide (GG6.out.below HB67.out (by have := HG.out; omega))
               have MM7 := hide ((MM6.out.below HAL.out).over HG7.out (fun g hg => (HOA.out.1.lt g hg).1))
               have BB7 := hide (BB6.out.trans (HB67.out.mono (by omega)))
               have SZ7 := hide (Nat.le_trans SZ6.out HB67.out.size)
               have WW7 := hide (WW6.out.trans (HB67.out.mono (by have := HG.out; omega)))
               clear HOA HGX HAL HO7 HG7 HA7 HB7 OO6 MM6
               go_wp2
               refine ⟨⟨j + 1, ua + (u1 + (u2 + u3)), rs ++ [⟨x1, x2, ⟨x3, some ⟨gc, 0, none⟩, c6⟩⟩], .slice A7 (rs.length + 1) c7, by omega, by go_num, ?_, by have := HP.out; omega, ?_, FF7.out.set_ 0 _, HSN.out.set (by omega) _, MM7.out.set (by omega) _, ?_, BB7.out.setCell (p := ⟨g5, 0, none⟩) (Nat.le_refl _) _, ?_, GG7.out.grown (only_setCell (p := ⟨g5, 0, none⟩) (World.grownBy.refl w7 (some g5)) (.inl rfl) _) (fun h => by injection h with h; have := HG.out; omega), WW7.out.setCell (p := ⟨g5, 0, none⟩) (by have := HG.out; show w.heap.size ≤ g5; omega) _⟩, by simp only [intOf]; omega⟩
               ·have := HP.out
                congr 1
                omega
               ·have h := (HUS.out (by rw [HDR.out])).1
                rw [HDR.out] at h
                rw [List.length_append, List.length_singleton]
                have h : 3 ≤ u1 + (u2 + u3) := h
                omega
               ·have h := HK.out (by rw [HDR.out])
                rw [HSTT.out, HDR.out] at h
                rw [List.map_append, show m - (j + 1) = m - j - 1 by omega, ← List.drop_drop, show (l.drop us).drop ua = l.drop p by rw [List.drop_drop, HP.out]]
                exact h.symm
               ·have := SZ7.out
                simp
                omega
        ·obtain rfl : j = m := by omega
         have hend := HC.out
         rw [Nat.sub_self, Wr.comb_end] at hend
         have HEND := hide hend
         clear hend HC
         go_wp2
         refine ⟨⟨1, us + ua, y, m1, rs.map ru, R1, by omega, by go_num, rfl, hup, FF2.out, LangX.lower ⟨rs, OO2.out, rfl⟩ hbq5, MM2.out.x, ?_, BB2.out, by have := SZ2.out; omega, fun h => absurd h (by omega), fun _ => HM1.out⟩, by simp [intOf]⟩
         rcases HS.out with ⟨_, h2, _, h4⟩ | ⟨h1, _⟩ | ⟨h1, _⟩
         ·have h5 := HEND.out
          subst h2
          exact .inr (.inl ⟨rfl, by rw [Nat.zero_add]; exact h5.symm, h4⟩)
         ·omega
         ·omega
      ·rw [show ((1 : Nat) : Int) = 1 from rfl]
       obtain rfl : m1 = .slice none 0 0 := HM.out.2 (by omega)
       have OO0 := hide (OwnX.nil wd (g5 + 1))
       have GG0 := hide H2.out
       have FF0 := hide H5.out
       have MM0 := hide HL0.out
       have BB0 := hide HB.out
       have SZ0 := hide hsz
       have WW0 := hide HWD.out
       clear H2 H5 HL0 HL1 HB HM hsz
       go_wp2_with (go_at_call 35; (with_reducible refine (unhide C2 wd WW0.out).mono ?_); rintro e w2 ⟨rfl, hb⟩; have GG1 := hide (GG0.out.below hb GG0.out.lt); have FF1 := hide (FF0.out.below hb FF0.out.lt); have OO1 := hide (OO0.out.below hb); have MM1 := hide (MM0.out.below hb); have BB1 := hide (BB0.out.trans (hb.mono (by have := GG0.out.lt; have := SZ0.out; omega))); have SZ1 := hide (Nat.le_trans SZ0.out hb.size); have WW1 := hide (WW0.out.trans (hb.mono WW0.out.size)); clear hb)
       obtain ⟨bq, hbq⟩ : ∃ bq, bq = w2.heap.size := ⟨_, rfl⟩
       have hbq5 : g5 + 1 ≤ bq := by have := SZ1.out; omega
       have OOS := hide (OwnX.nil w2 bq)
       have MMS := hide (show LangU w2 (g5 + 1) bq m0 R0 from by rw [hbq]; exact MM1.out.up)
       have SZS := hide (show bq ≤ w2.heap.size from Nat.le_of_eq hbq)
       clear hbq
       go_loopw [6, 11] (fun s6 s wr => ∃ (j ua : Nat) (rs : List Tb.Rl) (y : Value), j ≤ m ∧ s = .int .i64 (j : Int) ∧ s6 = .int .i64 ((us + ua : Nat) : Int) ∧ us + ua ≤ n ∧ rs.length ≤ ua ∧ Blk wr g5 29 #[m0, y, .slice none 0 0, .slice none 0 0, .slice none 0 0, .slice none 0 0, .slice none 0 0] ∧ OwnX wr bq y rs ∧ LangU wr (g5 + 1) bq m0 R0 ∧ Hid (Wr.comb (rs.map ru) ua (Wr.decLoop Wr.decR (m - j) ((l.drop us).drop ua)) = Wr.decN Wr.decR (l.drop us)) ∧ Below g5 V wr ∧ bq ≤ wr.heap.size ∧ Blk wr g2 29 #[.slice none 0 0, .slice none 0 0, .slice none 0 0, .slice none 0 0, .slice none 0 0, .slice none 0 0, .slice none 0 0] ∧ Below w.heap.size w wr) (fun _ s _ => m - (intOf s).toNat)
       case atStart => exact ⟨0, ur, [], .slice none 0 0, by omega, rfl, by go_num, hul2, by simp, FF1.out, OOS.out, MMS.out, HC0.out.symm, BB1.out, SZS.out, GG1.out, WW1.out⟩
       case round =>
        obtain ⟨j, ua, rs, y, hj, rfl, rfl, hup, hrl, hf, ho, hmo, HC, hbl, hsz, hg, hww⟩ := hrel
        obtain ⟨wq, rfl⟩ : ∃ wq, wq = wr := ⟨wr, rfl⟩
        clear OO0 GG0 FF0 MM0 BB0 SZ0 WW0 OO1 GG1 FF1 MM1 BB1 SZ1 WW1 OOS MMS SZS
        have OO2 := hide ho
        have GG2 := hide hg
        have FF2 := hide hf
        have MM2 := hide hmo
        have BB2 := hide hbl
        have SZ2 := hide hsz
        have WW2 := hide hww
        have hj0 : (0 : Int) ≤ (j : Int) := by omega
        clear ho hg hf hmo hbl hsz hww
        by_cases hlt2 : (j : Int) < (m : Int)
        ·obtain ⟨p, hp⟩ : ∃ p, p = us + ua := ⟨_, rfl⟩
         have HP := hide hp
         have hL : (l.drop us).drop ua = l.drop p := by rw [List.drop_drop, hp]
         have hst := HC.out
         rw [show m - j = m - j - 1 + 1 by omega, hL] at hst
         have HER := hide (fun (e : Int) (he : e ≠ 0) (hx : Wr.decR (l.drop p) = (([], 0, []), 0, e)) => (show RES = ((([], []), []), 0, e) from by
          have h1 := Wr.comb_err Wr.decR (rs.map ru) ua (m - j - 1) (l.drop p) (by rw [hx]; exact he)
          rw [hst, hx] at h1
          have h2 := HSE.out (by rw [h1]; exact he)
          rw [h1] at h2
          exact HRES.out.trans h2))
         rw [← hp] at hup ⊢
         have HK := hide (Wr.comb_ok Wr.decR (rs.map ru) ua (m - j - 1) (l.drop p))
         have HSTT := hide hst
         clear hst hL hp HC HSE
         by_cases hcA : c = p
         ·obtain rfl : n = c := by omega
          subst hcA
          have hd : l.drop n = [] := List.drop_eq_nil_of_le (by have := HN.out; omega)
          have HD := hide (HER.out 3 (by decide) (by rw [hd]; rfl))
          have hI : Wr.decB [] = ([], 0, 3) := rfl
          have C3 := hide (fun (W : World) (hb : Below w.heap.size w W) => refGetBytes_any (some ad) 0 0 [] W (reads_zero _ _ _) (by omega) (by omega))
          rw [hI] at C3
          clear hd hI HER HK HSTT
          go_wp2_with (first | (go_at_call 36; (with_reducible refine (unhide C3 wq WW2.out).mono ?_); rintro e w3 ⟨rfl, hb⟩; have GG3 := hide (GG2.out.below hb GG2.out.lt); have FF3 := hide (FF2.out.below hb FF2.out.lt); have OO3 := hide (OO2.out.below hb); have MM3 := hide (MM2.out.below hb); have BB3 := hide (BB2.out.trans (hb.mono (by have := GG2.out.lt; have := SZ2.out; omega))); have SZ3 := hide (Nat.le_trans SZ2.out hb.size); have WW3 := hide (WW2.out.trans (hb.mono WW2.out.size)); obtain ⟨k0, k1, k2, k3, k4, k5, k6, z0, z1, z2, z3, z4, z5, z6⟩ := nil7 GG3.out; clear hb))
          have hload := tab_stored GG3.out (.slice none 0 0) (.slice none 0 0) (.slice none 0 0) (.slice none 0 0) (.slice none 0 0) (.slice none 0 0) (.slice none 0 0)
          rw [HD.out]
          exact bodyPost_ret (v := .tuple #[.agg #[.slice none 0 0, .slice none 0 0, .slice none 0 0, .slice none 0 0, .slice none 0 0, .slice none 0 0, .slice none 0 0], .int .i64 0, .int .i64 3]) (results_cell3 Tryd.results15 _ _ ⟨g2, 0, none⟩ _ rfl hload) rfl ⟨_, nilTab, rfl, (nil_tab _).x, fun h => absurd h (show ¬ ((3 : Int) = 0) by decide), fun _ => rfl, tab_below WW3.out (by have := HG.out; omega) _ _ _ _ _ _ _⟩
         ·have hcut := reads_rest HRD.out p hup
          have C3 := hide (fun (W : World) (hb : Below w.heap.size w W) => refGetBytes_any (some (ad.add p)) (n - p) (c - p) (l.drop p) W ((hcut.below hb).more hb.size) (by omega) (by omega))
          have hu1 := Wr.decB_used (l.drop p)
          rw [List.length_drop] at hu1
          have D1 := hide (@Wr.decR_err1 (l.drop p))
          have D2 := hide (@Wr.decR_err2 (l.drop p))
          have D3 := hide (@Wr.decR_err3 (l.drop p))
          have D4 := hide (@Wr.decR_ok (l.drop p))
          obtain ⟨x1, hx1⟩ : ∃ x1, x1 = (Wr.decB (l.drop p)).1 := ⟨_, rfl⟩
          obtain ⟨u1, hu1'⟩ : ∃ u1, u1 = (Wr.decB (l.drop p)).2.1 := ⟨_, rfl⟩
          obtain ⟨e1, he1⟩ : ∃ e1, e1 = (Wr.decB (l.drop p)).2.2 := ⟨_, rfl⟩
          rw [← hx1, ← hu1', ← he1] at C3
          rw [← hu1'] at hu1
          rw [← he1] at D1
          rw [← hu1', ← he1] at D2 D3
          rw [← hx1, ← hu1', ← he1] at D4
          have hul : p + u1 ≤ n := by have := HN.out; omega
          clear hx1 hu1' he1 hcut
          by_cases h1 : e1 ≠ 0
          ·have HD := hide (HER.out e1 h1 (D1.out h1))
           have HNE := hide h1
           have hb1 : (e1 != 0) = true := by rw [bne_iff_ne]; exact h1
           clear h1 D1 D2 D3 D4 HER HK HSTT
           go_wp2_with (first | (go_at_call 36; (with_reducible refine (unhide C3 wq WW2.out).mono ?_); rintro e w3 ⟨rfl, hb⟩; have GG3 := hide (GG2.out.below hb GG2.out.lt); have FF3 := hide (FF2.out.below hb FF2.out.lt); have OO3 := hide (OO2.out.below hb); have MM3 := hide (MM2.out.below hb); have BB3 := hide (BB2.out.trans (hb.mono (by have := GG2.out.lt; have := SZ2.out; omega))); have SZ3 := hide (Nat.le_trans SZ2.out hb.size); have WW3 := hide (WW2.out.trans (hb.mono WW2.out.size)); obtain ⟨k0, k1, k2, k3, k4, k5, k6, z0, z1, z2, z3, z4, z5, z6⟩ := nil7 GG3.out; clear hb))
           have hload := tab_stored GG3.out (.slice none 0 0) (.slice none 0 0) (.slice none 0 0) (.slice none 0 0) (.slice none 0 0) (.slice none 0 0) (.slice none 0 0)
           rw [HD.out]
           exact bodyPost_ret (v := .tuple #[.agg #[.slice none 0 0, .slice none 0 0, .slice none 0 0, .slice none 0 0, .slice none 0 0, .slice none 0 0, .slice none 0 0], .int .i64 0, .int .i64 e1]) (results_cell3 Tryd.results15 _ _ ⟨g2, 0, none⟩ _ rfl hload) rfl ⟨_, nilTab, rfl, (nil_tab _).x, fun h => absurd h (HNE.out), fun _ => rfl, tab_below WW3.out (by have := HG.out; omega) _ _ _ _ _ _ _⟩
          ·obtain rfl : e1 = 0 := by simpa using h1
           have D2 := hide (D2.out rfl)
           have D3 := hide (D3.out rfl)
           have D4 := hide (D4.out rfl)
           rw [List.drop_drop] at D2 D3 D4
           clear h1 D1
           by_cases hcB : p + u1 = c
           ·obtain rfl : n = c := by omega
            have hd : l.drop (p + u1) = [] := List.drop_eq_nil_of_le (by have := HN.out; omega)
            rw [hd] at D2
            have hI : Wr.decI [] = (0, 0, 3) := rfl
            have C4 := hide (fun (W : World) (hb : Below w.heap.size w W) => refGetInt_any (some ad) 0 0 [] W (reads_zero _ _ _) (by unfold maxLen; omega) (by omega))
            rw [hI] at D2 C4
            have HD := hide (HER.out 3 (by decide) (D2.out (by decide)))
            clear hd hI HER HK HSTT D2 D3 D4
            go_wp2_with (first | (go_at_call 36; (with_reducible refine (unhide C3 wq WW2.out).mono ?_); rintro e w3 ⟨rfl, hb⟩; have GG3 := hide (GG2.out.below hb GG2.out.lt); have FF3 := hide (FF2.out.below hb FF2.out.lt); have OO3 := hide (OO2.out.below hb); have MM3 := hide (MM2.out.below hb); have BB3 := hide (BB2.out.trans (hb.mono (by have := GG2.out.lt; have := SZ2.out; omega))); have SZ3 := hide (Nat.le_trans SZ2.out hb.size); have WW3 := hide (WW2.out.trans (hb.mono WW2.out.size)); clear hb) | (go_at_call 35; (with_reducible refine (unhide C4 w3 WW3.out).mono ?_); rintro e w4 ⟨rfl, hb⟩; have GG4 := hide (GG3.out.below hb GG3.out.lt); have FF4 := hide (FF3.out.below hb FF3.out.lt); have OO4 := hide (OO3.out.below hb); have MM4 := hide (MM3.out.below hb); have BB4 := hide (BB3.out.trans (hb.mono (by have := GG3.out.lt; have := SZ3.out; omega))); have SZ4 := hide (Nat.le_trans SZ3.out hb.size); have WW4 := hide (WW3.out.trans (hb.mono WW3.out.size)); obtain ⟨k0, k1, k2, k3, k4, k5, k6, z0, z1, z2, z3, z4, z5, z6⟩ := nil7 GG4.out; clear hb))
            have hload := tab_stored GG4.out (.slice none 0 0) (.slice none 0 0) (.slice none 0 0) (.slice none 0 0) (.slice none 0 0) (.slice none 0 0) (.slice none 0 0)
            rw [HD.out]
            exact bodyPost_ret (v := .tuple #[.agg #[.slice none 0 0, .slice none 0 0, .slice none 0 0, .slice none 0 0, .slice none 0 0, .slice none 0 0, .slice none 0 0], .int .i64 0, .int .i64 3]) (results_cell3 Tryd.results15 _ _ ⟨g2, 0, none⟩ _ rfl hload) rfl ⟨_, nilTab, rfl, (nil_tab _).x, fun h => absurd h (show ¬ ((3 : Int) = 0) by decide), fun _ => rfl, tab_below WW4.out (by have := HG.out; omega) _ _ _ _ _ _ _⟩
           ·have hcut := reads_rest HRD.out (p + u1) hul
            have hcB' : ¬ c = p + u1 := fun h => hcB h.symm
            have C4 := hide (fun (W : World) (hb : Below w.heap.size w W) => refGetInt_any (some (ad.add (p + u1))) (n - (p + u1)) (c - (p + u1)) (l.drop (p + u1)) W ((hcut.below hb).more hb.size) (by unfold maxLen; omega) (by omega))
            have hu2 := Wr.decI_used (l.drop (p + u1))
            rw [List.length_drop] at hu2
            have HX2 := hide (show (Wr.decI (l.drop (p + u1))).2.2 = 0 → Wr.inI (Wr.decI (l.drop (p + u1))).1 from fun h => (Wr.enc_dec (l := l.drop (p + u1)) (n := (Wr.decI (l.drop (p + u1))).1) (u := (Wr.decI (l.drop (p + u1))).2.1) (by rw [← h])).1)
            obtain ⟨x2, hx2⟩ : ∃ x2, x2 = (Wr.decI (l.drop (p + u1))).1 := ⟨_, rfl⟩
            obtain ⟨u2, hu2'⟩ : ∃ u2, u2 = (Wr.decI (l.drop (p + u1))).2.1 := ⟨_, rfl⟩
            obtain ⟨e2, he2⟩ : ∃ e2, e2 = (Wr.decI (l.drop (p + u1))).2.2 := ⟨_, rfl⟩
            rw [← hx2, ← hu2', ← he2] at C4
            rw [← hx2, ← he2] at HX2
            rw [← hu2'] at hu2
            rw [← he2] at D2
            rw [← hu2', ← he2] at D3
            rw [← hx2, ← hu2', ← he2] at D4
            have hul3 : p + u1 + u2 ≤ n := by have := HN.out; omega
            clear hx2 hu2' he2 hcut hcB
            by_cases h2 : e2 ≠ 0
            ·have HD := hide (HER.out e2 h2 (D2.out h2))
             have HNE := hide h2
             have hb2 : (e2 != 0) = true := by rw [bne_iff_ne]; exact h2
             clear h2 D2 D3 D4 HER HK HSTT
             go_wp2_with (first | (go_at_call 36; (with_reducible refine (unhide C3 wq WW2.out).mono ?_); rintro e w3 ⟨rfl, hb⟩; have GG3 := hide (GG2.out.below hb GG2.out.lt); have FF3 := hide (FF2.out.below hb FF2.out.lt); have OO3 := hide (OO2.out.below hb); have MM3 := hide (MM2.out.below hb); have BB3 := hide (BB2.out.trans (hb.mono (by have := GG2.out.lt; have := SZ2.out; omega))); have SZ3 := hide (Nat.le_trans SZ2.out hb.size); have WW3 := hide (WW2.out.trans (hb.mono WW2.out.size)); clear hb) | (go_at_call 35; (with_reducible refine (unhide C4 w3 WW3.out).mono ?_); rintro e w4 ⟨rfl, hb⟩; have GG4 := hide (GG3.out.below hb GG3.out.lt); have FF4 := hide (FF3.out.below hb FF3.out.lt); have OO4 := hide (OO3.out.below hb); have MM4 := hide (MM3.out.below hb); have BB4 := hide (BB3.out.trans (hb.mono (by have := GG3.out.lt; have := SZ3.out; omega))); have SZ4 := hide (Nat.le_trans SZ3.out hb.size); have WW4 := hide (WW3.out.trans (hb.mono WW3.out.size)); obtain ⟨k0, k1, k2, k3, k4, k5, k6, z0, z1, z2, z3, z4, z5, z6⟩ := nil7 GG4.out; clear hb))
             have hload := tab_stored GG4.out (.slice none 0 0) (.slice none 0 0) (.slice none 0 0) (.slice none 0 0) (.slice none 0 0) (.slice none 0 0) (.slice none 0 0)
             rw [HD.out]
             exact bodyPost_ret (v := .tuple #[.agg #[.slice none 0 0, .slice none 0 0, .slice none 0 0, .slice none 0 0, .slice none 0 0, .slice none 0 0, .slice none 0 0], .int .i64 0, .int .i64 e2]) (results_cell3 Tryd.results15 _ _ ⟨g2, 0, none⟩ _ rfl hload) rfl ⟨_, nilTab, rfl, (nil_tab _).x, fun h => absurd h (HNE.out), fun _ => rfl, tab_below WW4.out (by have := HG.out; omega) _ _ _ _ _ _ _⟩
            ·obtain rfl : e2 = 0 := by simpa using h2
             have D3 := hide (D3.out rfl)
             have D4 := hide (D4.out rfl)
             rw [List.drop_drop] at D3 D4
             clear h2 D2
             by_cases hcC : p + u1 + u2 = c
             ·obtain rfl : n = c := by omega
              have hd : l.drop (p + u1 + u2) = [] := List.drop_eq_nil_of_le (by have := HN.out; omega)
              rw [hd] at D3
              have hI : Wr.decB [] = ([], 0, 3) := rfl
              have C5 := hide (fun (W : World) (hb : Below w.heap.size w W) => refGetBytes_any (some ad) 0 0 [] W (reads_zero _ _ _) (by omega) (by omega))
              rw [hI] at D3 C5
              have HD := hide (HER.out 3 (by decide) (D3.out (by decide)))
              clear hd hI HER HK HSTT D3 D4
              go_wp2_with (first | (go_at_call 36; (with_reducible refine (unhide C3 wq WW2.out).mono ?_); rintro e w3 ⟨rfl, hb⟩; have GG3 := hide (GG2.out.below hb GG2.out.lt); have FF3 := hide (FF2.out.below hb FF2.out.lt); have OO3 := hide (OO2.out.below hb); have MM3 := hide (MM2.out.below hb); have BB3 := hide (BB2.out.trans (hb.mono (by have := GG2.out.lt; have := SZ2.out; omega))); have SZ3 := hide (Nat.le_trans SZ2.out hb.size); have WW3 := hide (WW2.out.trans (hb.mono WW2.out.size)); clear hb) | (go_at_call 35; (with_reducible refine (unhide C4 w3 WW3.out).mono ?_); rintro e w4 ⟨rfl, hb⟩; have GG4 := hide (GG3.out.below hb GG3.out.lt); have FF4 := hide (FF3.out.below hb FF3.out.lt); have OO4 := hide (OO3.out.below hb); have MM4 := hide (MM3.out.below hb); have BB4 := hide (BB3.out.trans (hb.mono (by have := GG3.out.lt; have := SZ3.out; omega))); have SZ4 := hide (Nat.le_trans SZ3.out hb.size); have WW4 := hide (WW3.out.trans (hb.mono WW3.out.size)); clear hb) | (go_at_call 36; (with_reducible refine (unhide C5 w4 WW4.out).mono ?_); rintro e w5 ⟨rfl, hb⟩; have GG5 := hide (GG4.out.below hb GG4.out.lt); have FF5 := hide (FF4.out.below hb FF4.out.lt); have OO5 := hide (OO4.out.below hb); have MM5 := hide (MM4.out.below hb); have BB5 := hide (BB4.out.trans (hb.mono (by have := GG4.out.lt; have := SZ4.out; omega))); have SZ5 := hide (Nat.le_trans SZ4.out hb.size); have WW5 := hide (WW4.out.trans (hb.mono WW4.out.size)); obtain ⟨k0, k1, k2, k3, k4, k5, k6, z0, z1, z2, z3, z4, z5, z6⟩ := nil7 GG5.out; clear hb))
              have hload := tab_stored GG5.out (.slice none 0 0) (.slice none 0 0) (.slice none 0 0) (.slice none 0 0) (.slice none 0 0) (.slice none 0 0) (.slice none 0 0)
              rw [HD.out]
              exact bodyPost_ret (v := .tuple #[.agg #[.slice none 0 0, .slice none 0 0, .slice none 0 0, .slice none 0 0, .slice none 0 0, .slice none 0 0, .slice none 0 0], .int .i64 0, .int .i64 3]) (results_cell3 Tryd.results15 _ _ ⟨g2, 0, none⟩ _ rfl hload) rfl ⟨_, nilTab, rfl, (nil_tab _).x, fun h => absurd h (show ¬ ((3 : Int) = 0) by decide), fun _ => rfl, tab_below WW5.out (by have := HG.out; omega) _ _ _ _ _ _ _⟩
             ·have hcut := reads_rest HRD.out (p + u1 + u2) hul3
              have hcC' : ¬ c = p + u1 + u2 := fun h => hcC h.symm
              have C5 := hide (fun (W : World) (hb : Below w.heap.size w W) => refGetBytes_any (some (ad.add (p + u1 + u2))) (n - (p + u1 + u2)) (c - (p + u1 + u2)) (l.drop (p + u1 + u2)) W ((hcut.below hb).more hb.size) (by omega) (by omega))
              have hu3 := Wr.decB_used (l.drop (p + u1 + u2))
              rw [List.length_drop] at hu3
              obtain ⟨x3, hx3⟩ : ∃ x3, x3 = (Wr.decB (l.drop (p + u1 + u2))).1 := ⟨_, rfl⟩
              obtain ⟨u3, hu3'⟩ : ∃ u3, u3 = (Wr.decB (l.drop (p + u1 + u2))).2.1 := ⟨_, rfl⟩
              obtain ⟨e3, he3⟩ : ∃ e3, e3 = (Wr.decB (l.drop (p + u1 + u2))).2.2 := ⟨_, rfl⟩
              rw [← hx3, ← hu3', ← he3] at C5
              rw [← hu3'] at hu3
              rw [← he3] at D3
              rw [← hx3, ← hu3', ← he3] at D4
              have hul4 : p + u1 + u2 + u3 ≤ n := by have := HN.out; omega
              clear hx3 hu3' he3 hcut hcC
              by_cases h3 : e3 ≠ 0
              ·have HD := hide (HER.out e3 h3 (D3.out h3))
               have HNE := hide h3
               have hb3 : (e3 != 0) = true := by rw [bne_iff_ne]; exact h3
               clear h3 D3 D4 HER HK HSTT
               go_wp2_with (first | (go_at_call 36; (with_reducible refine (unhide C3 wq WW2.out).mono ?_); rintro e w3 ⟨rfl, hb⟩; have GG3 := hide (GG2.out.below hb GG2.out.lt); have FF3 := hide (FF2.out.below hb FF2.out.lt); have OO3 := hide (OO2.out.below hb); have MM3 := hide (MM2.out.below hb); have BB3 := hide (BB2.out.trans (hb.mono (by have := GG2.out.lt; have := SZ2.out; omega))); have SZ3 := hide (Nat.le_trans SZ2.out hb.size); have WW3 := hide (WW2.out.trans (hb.mono WW2.out.size)); clear hb) | (go_at_call 35; (with_reducible refine (unhide C4 w3 WW3.out).mono ?_); rintro e w4 ⟨rfl, hb⟩; have GG4 := hide (GG3.out.below hb GG3.out.lt); have FF4 := hide (FF3.out.below hb FF3.out.lt); have OO4 := hide (OO3.out.below hb); have MM4 := hide (MM3.out.below hb); have BB4 := hide (BB3.out.trans (hb.mono (by have := GG3.out.lt; have := SZ3.out; omega))); have SZ4 := hide (Nat.le_trans SZ3.out hb.size); have WW4 := hide (WW3.out.trans (hb.mono WW3.out.size)); clear hb) | (go_at_call 36; (with_reducible refine (unhide C5 w4 WW4.out).mono ?_); rintro e w5 ⟨rfl, hb⟩; have GG5 := hide (GG4.out.below hb GG4.out.lt); have FF5 := hide (FF4.out.below hb FF4.out.lt); have OO5 := hide (OO4.out.below hb); have MM5 := hide (MM4.out.below hb); have BB5 := hide (BB4.out.trans (hb.mono (by have := GG4.out.lt; have := SZ4.out; omega))); have SZ5 := hide (Nat.le_trans SZ4.out hb.size); have WW5 := hide (WW4.out.trans (hb.mono WW4.out.size)); obtain ⟨k0, k1, k2, k3, k4, k5, k6, z0, z1, z2, z3, z4, z5, z6⟩ := nil7 GG5.out; clear hb))
               have hload := tab_stored GG5.out (.slice none 0 0) (.slice none 0 0) (.slice none 0 0) (.slice none 0 0) (.slice none 0 0) (.slice none 0 0) (.slice none 0 0)
               rw [HD.out]
               exact bodyPost_ret (v := .tuple #[.agg #[.slice none 0 0, .slice none 0 0, .slice none 0 0, .slice none 0 0, .slice none 0 0, .slice none 0 0, .slice none 0 0], .int .i64 0, .int .i64 e3]) (results_cell3 Tryd.results15 _ _ ⟨g2, 0, none⟩ _ rfl hload) rfl ⟨_, nilTab, rfl, (nil_tab _).x, fun h => absurd h (HNE.out), fun _ => rfl, tab_below WW5.out (by have := HG.out; omega) _ _ _ _ _ _ _⟩
              ·obtain rfl : e3 = 0 := by simpa using h3
               have HDR := hide (D4.out rfl)
               have HIN := hide (HX2.out rfl)
               have HUS := hide (decR_used (l.drop p))
               clear h3 D3 D4 HER HX2
               obtain ⟨Ay, cy, hy, _, _⟩ := own_slice OO2.out.1
               subst hy
               go_upto_region 24 with (first | (go_at_call 36; (with_reducible refine (unhide C3 wq WW2.out).mono ?_); rintro e w3 ⟨rfl, hb⟩; have GG3 := hide (GG2.out.below hb GG2.out.lt); have FF3 := hide (FF2.out.below hb FF2.out.lt); have OO3 := hide (OO2.out.below hb); have MM3 := hide (MM2.out.below hb); have BB3 := hide (BB2.out.trans (hb.mono (by have := GG2.out.lt; have := SZ2.out; omega))); have SZ3 := hide (Nat.le_trans SZ2.out hb.size); have WW3 := hide (WW2.out.trans (hb.mono WW2.out.size)); clear hb) | (go_at_call 35; (with_reducible refine (unhide C4 w3 WW3.out).mono ?_); rintro e w4 ⟨rfl, hb⟩; have GG4 := hide (GG3.out.below hb GG3.out.lt); have FF4 := hide (FF3.out.below hb FF3.out.lt); have OO4 := hide (OO3.out.below hb); have MM4 := hide (MM3.out.below hb); have BB4 := hide (BB3.out.trans (hb.mono (by have := GG3.out.lt; have := SZ3.out; omega))); have SZ4 := hide (Nat.le_trans SZ3.out hb.size); have WW4 := hide (WW3.out.trans (hb.mono WW3.out.size)); clear hb) | (go_at_call 36; (with_reducible refine (unhide C5 w4 WW4.out).mono ?_); rintro e w5 ⟨rfl, hb⟩; have GG5 := hide (GG4.out.below hb GG4.out.lt); have FF5 := hide (FF4.out.below hb FF4.out.lt); have OO5 := hide (OO4.out.below hb); have MM5 := hide (MM4.out.below hb); have BB5 := hide (BB4.out.trans (hb.mono (by have := GG4.out.lt; have := SZ4.out; omega))); have SZ5 := hide (Nat.le_trans SZ4.out hb.size); have WW5 := hide (WW4.out.trans (hb.mono WW4.out.size)); clear hb))
               have kk : w5.cell? ⟨g5, 1, none⟩ = some (.slice Ay rs.length cy) := FF5.out.cell 1
               obtain ⟨c6, w6, hconv, hc6, hrd6, hb6, hs6⟩ := conv_bytesY x3 w5
               have HC6 := hide hc6
               have HR6 := hide hrd6
               have FF6 := hide (FF5.out.below hb6 FF5.out.lt)
               have GG6 := hide (GG5.out.below hb6 GG5.out.lt)
               have OO6 := hide (OO5.out.below hb6)
               have MM6 := hide (MM5.out.below hb6)
               have BB6 := hide (BB5.out.trans (hb6.mono (by have := SZ5.out; omega)))
               have SZ6 := hide (Nat.le_trans SZ5.out hb6.size)
               have WW6 := hide (WW5.out.trans (hb6.mono WW5.out.size))
               have HS6 := hide hs6
               obtain ⟨gc, hgc⟩ : ∃ gc, gc = w5.heap.size := ⟨_, rfl⟩
               have HGC := hide hgc
               obtain ⟨l3, hl3⟩ : ∃ l3, l3 = x3.length := ⟨_, rfl⟩
               have HL3 := hide hl3
               rw [← hl3, ← hgc] at hconv
               clear hc6 hrd6 hb6 hs6 hgc hl3
               have HAL := hide (below_alloc w6 (.cells #[.string (S x1), .int .i64 x2, .slice (some ⟨gc, 0, none⟩) l3 c6] 45))
               obtain ⟨i0, hi, hz0, hz1, hz2⟩ := info_parts ruleInfo3''
               have HI := hide hi
               have HZ0 := hide hz0
               have HZ1 := hide hz1
               have HZ2 := hide hz2
               have hrl3 : rs.length ≤ 1099511627776 := by have := HP.out; omega
               clear hi hz0 hz1 hz2
               go_wp2_with (at_builtin; refine wpList_append_any _ rfl (.tmp 98) (.tmp 104) 24 rfl bq 45 i0 (.agg #[.string { data := #[] }, .int .i64 0, .slice none 0 0]) 3 48 Tryd.underlying24 HI.out HZ0.out HZ1.out HZ2.out rfl (by omega) (.slice Ay rs.length cy) rs.length (RC rs) rfl (own_below OO6.out.1 HAL.out) _ (some ⟨w6.heap.size, 0, none⟩) 1 1 [.string (S x1), .int .i64 x2, .slice (some ⟨gc, 0, none⟩) l3 c6] rfl (reads_rule1 w6 _ _ _) (by simp [Value.oneCell']) (by unfold maxLen; omega) (by omega) (by have := SZ6.out; simp; omega) ?_; intro v7 w7 hown7 hgrow7 hat7; obtain ⟨A7, c7, rfl, _, _⟩ := own_slice hown7; have HO7 := hide hown7; have HG7 := hide hgrow7; have HA7 := hide hat7; have HB7 := hide (below_grown hgrow7 (own_below OO6.out.1 HAL.out) (by have := SZ6.out; simp; omega)); have FF7 := hide ((FF6.out.below HAL.out FF6.out.lt).below HB7.out (by omega)); have kw : w7.cell? ⟨g5, 1, none⟩ = some (.slice Ay rs.length cy) := FF7.out.cell 1; have zw := FF7.out.frozen 1; clear hown7 hgrow7 hat7)
               have HOA := hide (OO6.out.below HAL.out)
               have HGX := hide (show gc = w5.heap.size ∧ bq ≤ w5.heap.size from ⟨HGC.out, SZ5.out⟩)
               have HSN := hide (show OwnX w7 bq (.slice A7 (rs.length + 1) c7) (rs ++ [⟨x1, x2, ⟨x3, some ⟨gc, 0, none⟩, c6⟩⟩]) from HOA.out.snoc ⟨x1, x2, ⟨x3, some ⟨gc, 0, none⟩, c6⟩⟩ ⟨((show BsX w6 w6.heap.size ⟨x3, some ⟨gc, 0, none⟩, c6⟩ from ⟨by rw [HGC.out]; exact HR6.out, HC6.out⟩).below HAL.out).more HAL.out.size, HIN.out, fun _ a ha => by
                injection ha with ha
                subst ha
                refine ⟨fun he => ?_, by have := HGX.out; show bq ≤ gc; omega⟩
                have h1 := (OO5.out.1.lt gc he.symm).2
                have := HGX.out
                omega⟩ (by rw [RC_of]; have h := HO7.out; rw [HL3.out] at h; exact h) HG7.out HA7.out)
               have HB67 := hide (show Below bq w6 w7 from (HAL.out.mono SZ6.out).trans HB7.out)
               have GG7 := hide (GG6.out.below HB67.out (by have := HG.out; omega))
               have MM7 := hide ((MM6.out.below HAL.out).over HG7.out (fun g hg => (HOA.out.1.lt g hg).1))
               have BB7 := hide (BB6.out.trans (HB67.out.mono (by omega)))
               have SZ7 := hide (Nat.le_trans SZ6.out HB67.out.size)
               have WW7 := hide (WW6.out.trans (HB67.out.mono (by have := HG.out; omega)))
               clear HOA HGX HAL HO7 HG7 HA7 HB7 OO6 MM6
               go_wp2
               refine ⟨⟨j + 1, ua + (u1 + (u2 + u3)), rs ++ [⟨x1, x2, ⟨x3, some ⟨gc, 0, none⟩, c6⟩⟩], .slice A7 (rs.length + 1) c7, by omega, by go_num, ?_, by have := HP.out; omega, ?_, FF7.out.set_ 1 _, HSN.out.set (by omega) _, MM7.out.set (by omega) _, ?_, BB7.out.setCell (p := ⟨g5, 1, none⟩) (Nat.le_refl _) _, ?_, GG7.out.grown (only_setCell (p := ⟨g5, 1, none⟩) (World.grownBy.refl w7 (some g5)) (.inl rfl) _) (fun h => by injection h with h; have := HG.out; omega), WW7.out.setCell (p := ⟨g5, 1, none⟩) (by have := HG.out; show w.heap.size ≤ g5; omega) _⟩, by simp only [intOf]; omega⟩
               ·have := HP.out
                congr 1
                omega
               ·have h := (HUS.out (by rw [HDR.out])).1
                rw [HDR.out] at h
                rw [List.length_append, List.length_singleton]
                have h : 3 ≤ u1 + (u2 + u3) := h
                omega
               ·have h := HK.out (by rw [HDR.out])
                rw [HSTT.out, HDR.out] at h
                rw [List.map_append, show m - (j + 1) = m - j - 1 by omega, ← List.drop_drop, show (l.drop us).drop ua = l.drop p by rw [List.drop_drop, HP.out]]
                exact h.symm
               ·have := SZ7.out
                simp
                omega
        ·obtain rfl : j = m := by omega
         have hend := HC.out
         rw [Nat.sub_self, Wr.comb_end] at hend
         have HEND := hide hend
         clear hend HC
         go_wp2
         refine ⟨⟨2, us + ua, m0, y, R0, rs.map ru, by omega, by go_num, rfl, hup, FF2.out, MM2.out.x, LangX.lower ⟨rs, OO2.out, rfl⟩ hbq5, ?_, BB2.out, by have := SZ2.out; omega, fun h => absurd h (by omega), fun h => absurd h (by omega)⟩, by simp [intOf]⟩
         rcases HS.out with ⟨h1, _⟩ | ⟨_, h2, _⟩ | ⟨h1, _⟩
         ·omega
         ·exact .inr (.inr ⟨rfl, us, ua, h2, HEND.out.symm, rfl⟩)
         ·omega
  ·obtain ⟨u0, u1, hd0, hd1, rfl⟩ : ∃ u0 u1, Wr.decN Wr.decR l = (R0, u0, 0) ∧ Wr.decN Wr.decR (l.drop u0) = (R1, u1, 0) ∧ us = u0 + u1 := by
    rcases HS.out with ⟨h1, _⟩ | ⟨h1, _⟩ | ⟨_, h⟩
    ·omega
    ·omega
    ·exact h
   obtain rfl : i = 2 := by omega
   have HE2 := hide (Wr.decT_err2 hd0 hd1)
   have HK2 := hide (Wr.decT_ok hd0 hd1)
   obtain ⟨us, hus'⟩ : ∃ us, us = u0 + u1 := ⟨_, rfl⟩
   rw [← hus'] at HE2 HK2 hus ⊢
   clear hus' hd0 hd1 HS HM
   by_cases hcu : c = us
   ·obtain rfl : n = c := by omega
    subst hcu
    have hd : l.drop n = [] := List.drop_eq_nil_of_le (by have := HN.out; omega)
    rw [hd] at HE2
    have hI : Wr.dec5 [] = ([], 0, 3) := rfl
    have hI2 : Wr.decList 1 Wr.decB [] = ([], 0, 3) := rfl
    have C2 := hide (refGetStrings_any (some ad) 0 0 [] wd (reads_zero _ _ _) (by omega) (by omega))
    rw [hI2] at C2
    rw [hI] at HE2
    have HD := hide (show RES = ((([], []), []), 0, 3) from HRES.out.trans (HE2.out (by decide)))
    clear hd hI hI2 HE2 HK2
    go_wp2_with (go_at_call 37; (with_reducible refine (unhide C2).mono ?_); rintro e w2 ⟨v2, rfl, ho2, hb2⟩; obtain ⟨A2, c2, rfl, hc2, _⟩ := own_slice ho2; have HO2 := hide ho2; have HB2 := hide hb2; have H22 := hide (H2.out.below hb2 H2.out.lt); obtain ⟨k0, k1, k2, k3, k4, k5, k6, z0, z1, z2, z3, z4, z5, z6⟩ := nil7 H22.out; clear ho2 hb2)
    have hload := tab_stored H22.out (.slice none 0 0) (.slice none 0 0) (.slice none 0 0) (.slice none 0 0) (.slice none 0 0) (.slice none 0 0) (.slice none 0 0)
    rw [HD.out]
    exact bodyPost_ret (v := .tuple #[.agg #[.slice none 0 0, .slice none 0 0, .slice none 0 0, .slice none 0 0, .slice none 0 0, .slice none 0 0, .slice none 0 0], .int .i64 0, .int .i64 3]) (results_cell3 Tryd.results15 _ _ ⟨g2, 0, none⟩ _ rfl hload) rfl ⟨_, nilTab, rfl, (nil_tab _).x, fun h => absurd h (show ¬ ((3 : Int) = 0) by decide), fun _ => rfl, tab_below (HWD.out.trans (HB2.out.mono HWD.out.size)) (by have := HG.out; omega) _ _ _ _ _ _ _⟩
   ·have hcut := reads_rest HRD.out us hus
    have C2 := hide (refGetStrings_any (some (ad.add us)) (n - us) (c - us) (l.drop us) wd ((hcut.below HWD.out).more HWD.out.size) (by omega) (by omega))
    have H5D := hide (show Wr.dec5 (l.drop us) = if (Wr.decList 1 Wr.decB (l.drop us)).2.2 ≠ 0 then ([], 0, (Wr.decList 1 Wr.decB (l.drop us)).2.2) else if (Wr.decList 1 Wr.decB (l.drop us)).1.length ≠ 5 then ([], 0, 2) else Wr.decList 1 Wr.decB (l.drop us) from rfl)
    obtain ⟨R2, hR2⟩ : ∃ R2, R2 = Wr.decList 1 Wr.decB (l.drop us) := ⟨_, rfl⟩
    have HR2 := hide hR2
    rw [← hR2] at C2 H5D
    obtain ⟨xs, ur, er⟩ := R2
    simp only at C2 H5D
    clear hR2 hcut
    by_cases her : er ≠ 0
    ·have hber : (er != 0) = true := by rw [bne_iff_ne]; exact her
     have HER := hide her
     have h5 : Wr.dec5 (l.drop us) = ([], 0, er) := by rw [H5D.out, if_pos her]
     rw [h5] at HE2
     have HD := hide (show RES = ((([], []), []), 0, er) from HRES.out.trans (HE2.out her))
     clear HE2 HK2 her HR2 h5
     go_wp2_with (go_at_call 37; (with_reducible refine (unhide C2).mono ?_); rintro e w2 ⟨v2, rfl, ho2, hb2⟩; obtain ⟨A2, c2, rfl, hc2, _⟩ := own_slice ho2; have HO2 := hide ho2; have HB2 := hide hb2; have H22 := hide (H2.out.below hb2 H2.out.lt); obtain ⟨k0, k1, k2, k3, k4, k5, k6, z0, z1, z2, z3, z4, z5, z6⟩ := nil7 H22.out; clear ho2 hb2)
     have hload := tab_stored H22.out (.slice none 0 0) (.slice none 0 0) (.slice none 0 0) (.slice none 0 0) (.slice none 0 0) (.slice none 0 0) (.slice none 0 0)
     rw [HD.out]
     exact bodyPost_ret (v := .tuple #[.agg #[.slice none 0 0, .slice none 0 0, .slice none 0 0, .slice none 0 0, .slice none 0 0, .slice none 0 0, .slice none 0 0], .int .i64 0, .int .i64 er]) (results_cell3 Tryd.results15 _ _ ⟨g2, 0, none⟩ _ rfl hload) rfl ⟨_, nilTab, rfl, (nil_tab _).x, fun h => absurd h (HER.out), fun _ => rfl, tab_below (HWD.out.trans (HB2.out.mono HWD.out.size)) (by have := HG.out; omega) _ _ _ _ _ _ _⟩
    ·obtain rfl : er = 0 := by simpa using her
     obtain ⟨q, hq⟩ : ∃ q, q = xs.length := ⟨_, rfl⟩
     by_cases hl5 : xs.length ≠ 5
     ·have h5 : Wr.dec5 (l.drop us) = ([], 0, 2) := by rw [H5D.out, if_neg her, if_pos hl5]
      rw [h5] at HE2
      have HD := hide (show RES = ((([], []), []), 0, 2) from HRES.out.trans (HE2.out (show ¬ ((2 : Int) = 0) by decide)))
      rw [← hq] at C2 hl5
      have hbl : ((q : Int) != 5) = true := by rw [bne_iff_ne]; omega
      clear HE2 HK2 her HR2 h5 hl5 hq
      go_wp2_with (go_at_call 37; (with_reducible refine (unhide C2).mono ?_); rintro e w2 ⟨v2, rfl, ho2, hb2⟩; obtain ⟨A2, c2, rfl, hc2, _⟩ := own_slice ho2; have HO2 := hide ho2; have HB2 := hide hb2; have H22 := hide (H2.out.below hb2 H2.out.lt); obtain ⟨k0, k1, k2, k3, k4, k5, k6, z0, z1, z2, z3, z4, z5, z6⟩ := nil7 H22.out; clear ho2 hb2)
      have hload := tab_stored H22.out (.slice none 0 0) (.slice none 0 0) (.slice none 0 0) (.slice none 0 0) (.slice none 0 0) (.slice none 0 0) (.slice none 0 0)
      rw [HD.out]
      exact bodyPost_ret (v := .tuple #[.agg #[.slice none 0 0, .slice none 0 0, .slice none 0 0, .slice none 0 0, .slice none 0 0, .slice none 0 0, .slice none 0 0], .int .i64 0, .int .i64 2]) (results_cell3 Tryd.results15 _ _ ⟨g2, 0, none⟩ _ rfl hload) rfl ⟨_, nilTab, rfl, (nil_tab _).x, fun h => absurd h (show ¬ ((2 : Int) = 0) by decide), fun _ => rfl, tab_below (HWD.out.trans (HB2.out.mono HWD.out.size)) (by have := HG.out; omega) _ _ _ _ _ _ _⟩
     ·have hl5 : xs.length = 5 := by simpa using hl5
      have h5 : Wr.dec5 (l.drop us) = (xs, ur, 0) := by rw [H5D.out, if_neg her, if_neg (by simpa using hl5)]
      rw [h5] at HK2
      have HD := hide (show RES = (((R0, R1), xs), us + ur, 0) from HRES.out.trans (HK2.out rfl))
      have hur : us + ur ≤ n := by
       have h := (Wr.codec5.canon (l.drop us) (by rw [h5])).2.1
       rw [h5, List.length_drop] at h
       have h : ur ≤ l.length - us := h
       have := HN.out
       omega
      rw [hl5] at C2
      clear HE2 HK2 her h5 hq
      obtain ⟨y0, y1, y2, y3, y4, rfl⟩ : ∃ y0 y1 y2 y3 y4, xs = [y0, y1, y2, y3, y4] := five_of hl5
      clear hl5 H5D
      go_upto_region 31 with (go_at_call 37; (with_reducible refine (unhide C2).mono ?_); rintro e X0 ⟨v2, rfl, ho2, hb2⟩; obtain ⟨gs, c2, rfl, hgs⟩ := own_five ho2; have XS0 := hide ho2; have X20 := hide (H2.out.below hb2 H2.out.lt); have X50 := hide (H5.out.below hb2 H5.out.lt); have XL0 := hide (HL0.out.below hb2); have XM0 := hide (HL1.out.below hb2); have XW0 := hide (HWD.out.trans (hb2.mono HWD.out.size)); have XZ0 := hide (Nat.le_trans hsz hb2.size); have hgs5 := (ho2.lt gs rfl).1; clear ho2 hb2 hgs)
      have HGS := hide (show g5 + 1 ≤ gs from by omega)
      clear hgs5
      have hs0 : X0.cell? ⟨gs, 0, none⟩ = some (.string (S y0)) := own_cells5 XS0.out 0 _ rfl
      obtain ⟨d10, w10, hcv0, hd0, hrd0, hb0, hz0⟩ := conv_bytesY y0 X0
      have V50 := hide (X50.out.below hb0 X50.out.lt)
      have kk0 : w10.cell? ⟨g5, 2, none⟩ = some (.slice none 0 0) := V50.out.cell 2
      have zz0 := V50.out.frozen 2
      obtain ⟨b0, hbb0⟩ : ∃ b, b = X0.heap.size := ⟨_, rfl⟩
      have XB0 := hide (show g5 + 1 ≤ b0 from by have := XZ0.out; omega)
      have HBB0 := hide hb0
      have HRD0 := hide hrd0
      have HDD0 := hide hd0
      rw [← hbb0] at hcv0 HRD0
      clear hb0 hrd0 hd0 hz0 hbb0
      go_upto_region 32 with fail
      refine name_world fun X1 hX => ?_
      have X51 := hide (show Blk X1 g5 29 #[m0, m1, .slice (some ⟨b0, 0, none⟩) y0.length d10, .slice none 0 0, .slice none 0 0, .slice none 0 0, .slice none 0 0] from by rw [← hX.out]; exact V50.out.set_ 2 _)
      have X21 := hide (show Blk X1 g2 29 #[.slice none 0 0, .slice none 0 0, .slice none 0 0, .slice none 0 0, .slice none 0 0, .slice none 0 0, .slice none 0 0] from by rw [← hX.out]; exact (X20.out.below HBB0.out X20.out.lt).grown (only_setCell (p := ⟨g5, 2, none⟩) (World.grownBy.refl w10 (some g5)) (.inl rfl) _) (fun h => by injection h with h; have := HG.out; omega))
      have XL1 := hide (show LangX X1 (g5 + 1) m0 R0 from by rw [← hX.out]; exact (XL0.out.below HBB0.out).set (Nat.lt_succ_self g5) _)
      have XM1 := hide (show LangX X1 (g5 + 1) m1 R1 from by rw [← hX.out]; exact (XM0.out.below HBB0.out).set (Nat.lt_succ_self g5) _)
      have XS1 := hide (show X1.ownsRow wd.heap.size 9 1 (.slice (some ⟨gs, 0, none⟩) 5 c2) 5 ([y0, y1, y2, y3, y4].map VS) from by rw [← hX.out]; exact own_grownOff (own_below XS0.out HBB0.out) (only_setCell (p := ⟨g5, 2, none⟩) (World.grownBy.refl w10 (some g5)) (.inl rfl) _) (fun g hg he => by injection hg with hg; injection he with he; have h1 : g5 = g := hg; have h2 : gs = g := he; have := HGS.out; omega))
      have XW1 := hide (show Below w.heap.size w X1 from by rw [← hX.out]; exact (XW0.out.trans (HBB0.out.mono XW0.out.size)).setCell (p := ⟨g5, 2, none⟩) (by have := HG.out; show w.heap.size ≤ g5; omega) _)
      have XZ1 := hide (show g5 + 1 ≤ X1.heap.size from by rw [← hX.out]; have h1 := HBB0.out.size; have h2 := XZ0.out; simp; omega)
      have Y1_0 := hide (show BsX X1 X1.heap.size ⟨y0, some ⟨b0, 0, none⟩, d10⟩ from by rw [← hX.out]; exact BsX.grownZ (w := w10) ⟨HRD0.out, HDD0.out⟩ (only_setCell (p := ⟨g5, 2, none⟩) (World.grownBy.refl w10 (some g5)) (.inl rfl) _) (fun _ a ha he => by injection ha with ha; subst ha; injection he with he; have h2 : b0 = g5 := he; have := XB0.out; omega))
      clear hX hs0 hcv0 kk0 zz0
      have hs1 : X1.cell? ⟨gs, 1, none⟩ = some (.string (S y1)) := own_cells5 XS1.out 1 _ rfl
      obtain ⟨d11, w11, hcv1, hd1, hrd1, hb1, hz1⟩ := conv_bytesY y1 X1
      have V51 := hide (X51.out.below hb1 X51.out.lt)
      have kk1 : w11.cell? ⟨g5, 3, none⟩ = some (.slice none 0 0) := V51.out.cell 3
      have zz1 := V51.out.frozen 3
      obtain ⟨b1, hbb1⟩ : ∃ b, b = X1.heap.size := ⟨_, rfl⟩
      have XB1 := hide (show g5 + 1 ≤ b1 from by have := XZ1.out; omega)
      have HBB1 := hide hb1
      have HRD1 := hide hrd1
      have HDD1 := hide hd1
      rw [← hbb1] at hcv1 HRD1
      clear hb1 hrd1 hd1 hz1 hbb1
      go_upto_region 33 with fail
      refine name_world fun X2 hX => ?_
      have X52 := hide (show Blk X2 g5 29 #[m0, m1, .slice (some ⟨b0, 0, none⟩) y0.length d10, .slice (some ⟨b1, 0, none⟩) y1.length d11, .slice none 0 0, .slice none 0 0, .slice none 0 0] from by rw [← hX.out]; exact V51.out.set_ 3 _)
      have X22 := hide (show Blk X2 g2 29 #[.slice none 0 0, .slice none 0 0, .slice none 0 0, .slice none 0 0, .slice none 0 0, .slice none 0 0, .slice none 0 0] from by rw [← hX.out]; exact (X21.out.below HBB1.out X21.out.lt).grown (only_setCell (p := ⟨g5, 3, none⟩) (World.grownBy.refl w11 (some g5)) (.inl rfl) _) (fun h => by injection h with h; have := HG.out; omega))
      have XL2 := hide (show LangX X2 (g5 + 1) m0 R0 from by rw [← hX.out]; exact (XL1.out.below HBB1.out).set (Nat.lt_succ_self g5) _)
      have XM2 := hide (show LangX X2 (g5 + 1) m1 R1 from by rw [← hX.out]; exact (XM1.out.below HBB1.out).set (Nat.lt_succ_self g5) _)
      have XS2 := hide (show X2.ownsRow wd.heap.size 9 1 (.slice (some ⟨gs, 0, none⟩) 5 c2) 5 ([y0, y1, y2, y3, y4].map VS) from by rw [← hX.out]; exact own_grownOff (own_below XS1.out HBB1.out) (only_setCell (p := ⟨g5, 3, none⟩) (World.grownBy.refl w11 (some g5)) (.inl rfl) _) (fun g hg he => by injection hg with hg; injection he with he; have h1 : g5 = g := hg; have h2 : gs = g := he; have := HGS.out; omega))
      have XW2 := hide (show Below w.heap.size w X2 from by rw [← hX.out]; exact (XW1.out.trans (HBB1.out.mono XW1.out.size)).setCell (p := ⟨g5, 3, none⟩) (by have := HG.out; show w.heap.size ≤ g5; omega) _)
      have XZ2 := hide (show g5 + 1 ≤ X2.heap.size from by rw [← hX.out]; have h1 := HBB1.out.size; have h2 := XZ1.out; simp; omega)
      have Y2_1 := hide (show BsX X2 X2.heap.size ⟨y1, some ⟨b1, 0, none⟩, d11⟩ from by rw [← hX.out]; exact BsX.grownZ (w := w11) ⟨HRD1.out, HDD1.out⟩ (only_setCell (p := ⟨g5, 3, none⟩) (World.grownBy.refl w11 (some g5)) (.inl rfl) _) (fun _ a ha he => by injection ha with ha; subst ha; injection he with he; have h2 : b1 = g5 := he; have := XB1.out; omega))
      have Y2_0 := hide (show BsX X2 X2.heap.size ⟨y0, some ⟨b0, 0, none⟩, d10⟩ from by rw [← hX.out]; exact BsX.grownZ (w := w11) ((Y1_0.out.below HBB1.out).more HBB1.out.size) (only_setCell (p := ⟨g5, 3, none⟩) (World.grownBy.refl w11 (some g5)) (.inl rfl) _) (fun _ a ha he => by injection ha with ha; subst ha; injection he with he; have h2 : b0 = g5 := he; have := XB0.out; omega))
      clear hX hs1 hcv1 kk1 zz1
      have hs2 : X2.cell? ⟨gs, 2, none⟩ = some (.string (S y2)) := own_cells5 XS2.out 2 _ rfl
      obtain ⟨d12, w12, hcv2, hd2, hrd2, hb2, hz2⟩ := conv_bytesY y2 X2
      have V52 := hide (X52.out.below hb2 X52.out.lt)
      have kk2 : w12.cell? ⟨g5, 4, none⟩ = some (.slice none 0 0) := V52.out.cell 4
      have zz2 := V52.out.frozen 4
      obtain ⟨b2, hbb2⟩ : ∃ b, b = X2.heap.size := ⟨_, rfl⟩
      have XB2 := hide (show g5 + 1 ≤ b2 from by have := XZ2.out; omega)
      have HBB2 := hide hb2
      have HRD2 := hide hrd2
      have HDD2 := hide hd2
      rw [← hbb2] at hcv2 HRD2
      clear hb2 hrd2 hd2 hz2 hbb2
      go_upto_region 34 with fail
      refine name_world fun X3 hX => ?_
      have X53 := hide (show Blk X3 g5 29 #[m0, m1, .slice (some ⟨b0, 0, none⟩) y0.length d10, .slice (some ⟨b1, 0, none⟩) y1.length d11, .slice (some ⟨b2, 0, none⟩) y2.length d12, .slice none 0 0, .slice none 0 0] from by rw [← hX.out]; exact V52.out.set_ 4 _)
      have X23 := hide (show Blk X3 g2 29 #[.slice none 0 0, .slice none 0 0, .slice none 0 0, .slice none 0 0, .slice none 0 0, .slice none 0 0, .slice none 0 0] from by rw [← hX.out]; exact (X22.out.below HBB2.out X22.out.lt).grown (only_setCell (p := ⟨g5, 4, none⟩) (World.grownBy.refl w12 (some g5)) (.inl rfl) _) (fun h => by injection h with h; have := HG.out; omega))
      have XL3 := hide (show LangX X3 (g5 + 1) m0 R0 from by rw [← hX.out]; exact (XL2.out.below HBB2.out).set (Nat.lt_succ_self g5) _)
      have XM3 := hide (show LangX X3 (g5 + 1) m1 R1 from by rw [← hX.out]; exact (XM2.out.below HBB2.out).set (Nat.lt_succ_self g5) _)
      have XS3 := hide (show X3.ownsRow wd.heap.size 9 1 (.slice (some ⟨gs, 0, none⟩) 5 c2) 5 ([y0, y1, y2, y3, y4].map VS) from by rw [← hX.out]; exact own_grownOff (own_below XS2.out HBB2.out) (only_setCell (p := ⟨g5, 4, none⟩) (World.grownBy.refl w12 (some g5)) (.inl rfl) _) (fun g hg he => by injection hg with hg; injection he with he; have h1 : g5 = g := hg; have h2 : gs = g := he; have := HGS.out; omega))
      have XW3 := hide (show Below w.heap.size w X3 from by rw [← hX.out]; exact (XW2.out.trans (HBB2.out.mono XW2.out.size)).setCell (p := ⟨g5, 4, none⟩) (by have := HG.out; show w.heap.size ≤ g5; omega) _)
      have XZ3 := hide (show g5 + 1 ≤ X3.heap.size from by rw [← hX.out]; have h1 := HBB2.out.size; have h2 := XZ2.out; simp; omega)
      have Y3_2 := hide (show BsX X3 X3.heap.size ⟨y2, some ⟨b2, 0, none⟩, d12⟩ from by rw [← hX.out]; exact BsX.grownZ (w := w12) ⟨HRD2.out, HDD2.out⟩ (only_setCell (p := ⟨g5, 4, none⟩) (World.grownBy.refl w12 (some g5)) (.inl rfl) _) (fun _ a ha he => by injection ha with ha; subst ha; injection he with he; have h2 : b2 = g5 := he; have := XB2.out; omega))
      have Y3_0 := hide (show BsX X3 X3.heap.size ⟨y0, some ⟨b0, 0, none⟩, d10⟩ from by rw [← hX.out]; exact BsX.grownZ (w := w12) ((Y2_0.out.below HBB2.out).more HBB2.out.size) (only_setCell (p := ⟨g5, 4, none⟩) (World.grownBy.refl w12 (some g5)) (.inl rfl) _) (fun _ a ha he => by injection ha with ha; subst ha; injection he with he; have h2 : b0 = g5 := he; have := XB0.out; omega))
      have Y3_1 := hide (show BsX X3 X3.heap.size ⟨y1, some ⟨b1, 0, none⟩, d11⟩ from by rw [← hX.out]; exact BsX.grownZ (w := w12) ((Y2_1.out.below HBB2.out).more HBB2.out.size) (only_setCell (p := ⟨g5, 4, none⟩) (World.grownBy.refl w12 (some g5)) (.inl rfl) _) (fun _ a ha he => by injection ha with ha; subst ha; injection he with he; have h2 : b1 = g5 := he; have := XB1.out; omega))
      clear hX hs2 hcv2 kk2 zz2
      have hs3 : X3.cell? ⟨gs, 3, none⟩ = some (.string (S y3)) := own_cells5 XS3.out 3 _ rfl
      obtain ⟨d13, w13, hcv3, hd3, hrd3, hb3, hz3⟩ := conv_bytesY y3 X3
      have V53 := hide (X53.out.below hb3 X53.out.lt)
      have kk3 : w13.cell? ⟨g5, 5, none⟩ = some (.slice none 0 0) := V53.out.cell 5
      have zz3 := V53.out.frozen 5
      obtain ⟨b3, hbb3⟩ : ∃ b, b = X3.heap.size := ⟨_, rfl⟩
      have XB3 := hide (show g5 + 1 ≤ b3 from by have := XZ3.out; omega)
      have HBB3 := hide hb3
      have HRD3 := hide hrd3
      have HDD3 := hide hd3
      rw [← hbb3] at hcv3 HRD3
      clear hb3 hrd3 hd3 hz3 hbb3
      go_upto_region 35 with fail
      refine name_world fun X4 hX => ?_
      have X54 := hide (show Blk X4 g5 29 #[m0, m1, .slice (some ⟨b0, 0, none⟩) y0.length d10, .slice (some ⟨b1, 0, none⟩) y1.length d11, .slice (some ⟨b2, 0, none⟩) y2.length d12, .slice (some ⟨b3, 0, none⟩) y3.length d13, .slice none 0 0] from by rw [← hX.out]; exact V53.out.set_ 5 _)
      have X24 := hide (show Blk X4 g2 29 #[.slice none 0 0, .slice none 0 0, .slice none 0 0, .slice none 0 0, .slice none 0 0, .slice none 0 0, .slice none 0 0] from by rw [← hX.out]; exact (X23.out.below HBB3.out X23.out.lt).grown (only_setCell (p := ⟨g5, 5, none⟩) (World.grownBy.refl w13 (some g5)) (.inl rfl) _) (fun h => by injection h with h; have := HG.out; omega))
      have XL4 := hide (show LangX X4 (g5 + 1) m0 R0 from by rw [← hX.out]; exact (XL3.out.below HBB3.out).set (Nat.lt_succ_self g5) _)
      have XM4 := hide (show LangX X4 (g5 + 1) m1 R1 from by rw [← hX.out]; exact (XM3.out.below HBB3.out).set (Nat.lt_succ_self g5) _)
      have XS4 := hide (show X4.ownsRow wd.heap.size 9 1 (.slice (some ⟨gs, 0, none⟩) 5 c2) 5 ([y0, y1, y2, y3, y4].map VS) from by rw [← hX.out]; exact own_grownOff (own_below XS3.out HBB3.out) (only_setCell (p := ⟨g5, 5, none⟩) (World.grownBy.refl w13 (some g5)) (.inl rfl) _) (fun g hg he => by injection hg with hg; injection he with he; have h1 : g5 = g := hg; have h2 : gs = g := he; have := HGS.out; omega))
      have XW4 := hide (show Below w.heap.size w X4 from by rw [← hX.out]; exact (XW3.out.trans (HBB3.out.mono XW3.out.size)).setCell (p := ⟨g5, 5, none⟩) (by have := HG.out; show w.heap.size ≤ g5; omega) _)
      have XZ4 := hide (show g5 + 1 ≤ X4.heap.size from by rw [← hX.out]; have h1 := HBB3.out.size; have h2 := XZ3.out; simp; omega)
      have Y4_3 := hide (show BsX X4 X4.heap.size ⟨y3, some ⟨b3, 0, none⟩, d13⟩ from by rw [← hX.out]; exact BsX.grownZ (w := w13) ⟨HRD3.out, HDD3.out⟩ (only_setCell (p := ⟨g5, 5, none⟩) (World.grownBy.refl w13 (some g5)) (.inl rfl) _) (fun _ a ha he => by injection ha with ha; subst ha; injection he with he; have h2 : b3 = g5 := he; have := XB3.out; omega))
      have Y4_0 := hide (show BsX X4 X4.heap.size ⟨y0, some ⟨b0, 0, none⟩, d10⟩ from by rw [← hX.out]; exact BsX.grownZ (w := w13) ((Y3_0.out.below HBB3.out).more HBB3.out.size) (only_setCell (p := ⟨g5, 5, none⟩) (World.grownBy.refl w13 (some g5)) (.inl rfl) _) (fun _ a ha he => by injection ha with ha; subst ha; injection he with he; have h2 : b0 = g5 := he; have := XB0.out; omega))
      have Y4_1 := hide (show BsX X4 X4.heap.size ⟨y1, some ⟨b1, 0, none⟩, d11⟩ from by rw [← hX.out]; exact BsX.grownZ (w := w13) ((Y3_1.out.below HBB3.out).more HBB3.out.size) (only_setCell (p := ⟨g5, 5, none⟩) (World.grownBy.refl w13 (some g5)) (.inl rfl) _) (fun _ a ha he => by injection ha with ha; subst ha; injection he with he; have h2 : b1 = g5 := he; have := XB1.out; omega))
      have Y4_2 := hide (show BsX X4 X4.heap.size ⟨y2, some ⟨b2, 0, none⟩, d12⟩ from by rw [← hX.out]; exact BsX.grownZ (w := w13) ((Y3_2.out.below HBB3.out).more HBB3.out.size) (only_setCell (p := ⟨g5, 5, none⟩) (World.grownBy.refl w13 (some g5)) (.inl rfl) _) (fun _ a ha he => by injection ha with ha; subst ha; injection he with he; have h2 : b2 = g5 := he; have := XB2.out; omega))
      clear hX hs3 hcv3 kk3 zz3
      have hs4 : X4.cell? ⟨gs, 4, none⟩ = some (.string (S y4)) := own_cells5 XS4.out 4 _ rfl
      obtain ⟨d14, w14, hcv4, hd4, hrd4, hb4, hz4⟩ := conv_bytesY y4 X4
      have V54 := hide (X54.out.below hb4 X54.out.lt)
      have kk4 : w14.cell? ⟨g5, 6, none⟩ = some (.slice none 0 0) := V54.out.cell 6
      have zz4 := V54.out.frozen 6
      obtain ⟨b4, hbb4⟩ : ∃ b, b = X4.heap.size := ⟨_, rfl⟩
      have XB4 := hide (show g5 + 1 ≤ b4 from by have := XZ4.out; omega)
      have HBB4 := hide hb4
      have HRD4 := hide hrd4
      have HDD4 := hide hd4
      rw [← hbb4] at hcv4 HRD4
      clear hb4 hrd4 hd4 hz4 hbb4
      go_upto_region 36 with fail
      refine name_world fun X5 hX => ?_
      have X55 := hide (show Blk X5 g5 29 #[m0, m1, .slice (some ⟨b0, 0, none⟩) y0.length d10, .slice (some ⟨b1, 0, none⟩) y1.length d11, .slice (some ⟨b2, 0, none⟩) y2.length d12, .slice (some ⟨b3, 0, none⟩) y3.length d13, .slice (some ⟨b4, 0, none⟩) y4.length d14] from by rw [← hX.out]; exact V54.out.set_ 6 _)
      have X25 := hide (show Blk X5 g2 29 #[.slice none 0 0, .slice none 0 0, .slice none 0 0, .slice none 0 0, .slice none 0 0, .slice none 0 0, .slice none 0 0] from by rw [← hX.out]; exact (X24.out.below HBB4.out X24.out.lt).grown (only_setCell (p := ⟨g5, 6, none⟩) (World.grownBy.refl w14 (some g5)) (.inl rfl) _) (fun h => by injection h with h; have := HG.out; omega))
      have XL5 := hide (show LangX X5 (g5 + 1) m0 R0 from by rw [← hX.out]; exact (XL4.out.below HBB4.out).set (Nat.lt_succ_self g5) _)
      have XM5 := hide (show LangX X5 (g5 + 1) m1 R1 from by rw [← hX.out]; exact (XM4.out.below HBB4.out).set (Nat.lt_succ_self g5) _)
      have XS5 := hide (show X5.ownsRow wd.heap.size 9 1 (.slice (some ⟨gs, 0, none⟩) 5 c2) 5 ([y0, y1, y2, y3, y4].map VS) from by rw [← hX.out]; exact own_grownOff (own_below XS4.out HBB4.out) (only_setCell (p := ⟨g5, 6, none⟩) (World.grownBy.refl w14 (some g5)) (.inl rfl) _) (fun g hg he => by injection hg with hg; injection he with he; have h1 : g5 = g := hg; have h2 : gs = g := he; have := HGS.out; omega))
      have XW5 := hide (show Below w.heap.size w X5 from by rw [← hX.out]; exact (XW4.out.trans (HBB4.out.mono XW4.out.size)).setCell (p := ⟨g5, 6, none⟩) (by have := HG.out; show w.heap.size ≤ g5; omega) _)
      have XZ5 := hide (show g5 + 1 ≤ X5.heap.size from by rw [← hX.out]; have h1 := HBB4.out.size; have h2 := XZ4.out; simp; omega)
      have Y5_4 := hide (show BsX X5 X5.heap.size ⟨y4, some ⟨b4, 0, none⟩, d14⟩ from by rw [← hX.out]; exact BsX.grownZ (w := w14) ⟨HRD4.out, HDD4.out⟩ (only_setCell (p := ⟨g5, 6, none⟩) (World.grownBy.refl w14 (some g5)) (.inl rfl) _) (fun _ a ha he => by injection ha with ha; subst ha; injection he with he; have h2 : b4 = g5 := he; have := XB4.out; omega))
      have Y5_0 := hide (show BsX X5 X5.heap.size ⟨y0, some ⟨b0, 0, none⟩, d10⟩ from by rw [← hX.out]; exact BsX.grownZ (w := w14) ((Y4_0.out.below HBB4.out).more HBB4.out.size) (only_setCell (p := ⟨g5, 6, none⟩) (World.grownBy.refl w14 (some g5)) (.inl rfl) _) (fun _ a ha he => by injection ha with ha; subst ha; injection he with he; have h2 : b0 = g5 := he; have := XB0.out; omega))
      have Y5_1 := hide (show BsX X5 X5.heap.size ⟨y1, some ⟨b1, 0, none⟩, d11⟩ from by rw [← hX.out]; exact BsX.grownZ (w := w14) ((Y4_1.out.below HBB4.out).more HBB4.out.size) (only_setCell (p := ⟨g5, 6, none⟩) (World.grownBy.refl w14 (some g5)) (.inl rfl) _) (fun _ a ha he => by injection ha with ha; subst ha; injection he with he; have h2 : b1 = g5 := he; have := XB1.out; omega))
      have Y5_2 := hide (show BsX X5 X5.heap.size ⟨y2, some ⟨b2, 0, none⟩, d12⟩ from by rw [← hX.out]; exact BsX.grownZ (w := w14) ((Y4_2.out.below HBB4.out).more HBB4.out.size) (only_setCell (p := ⟨g5, 6, none⟩) (World.grownBy.refl w14 (some g5)) (.inl rfl) _) (fun _ a ha he => by injection ha with ha; subst ha; injection he with he; have h2 : b2 = g5 := he; have := XB2.out; omega))
      have Y5_3 := hide (show BsX X5 X5.heap.size ⟨y3, some ⟨b3, 0, none⟩, d13⟩ from by rw [← hX.out]; exact BsX.grownZ (w := w14) ((Y4_3.out.below HBB4.out).more HBB4.out.size) (only_setCell (p := ⟨g5, 6, none⟩) (World.grownBy.refl w14 (some g5)) (.inl rfl) _) (fun _ a ha he => by injection ha with ha; subst ha; injection he with he; have h2 : b3 = g5 := he; have := XB3.out; omega))
      clear hX hs4 hcv4 kk4 zz4
      obtain ⟨rs0, ho0, hr0⟩ := XL5.out
      obtain ⟨rs1, ho1, hr1⟩ := XM5.out
      obtain ⟨A0, c0, rfl, hc0, _⟩ := own_slice ho0.1
      obtain ⟨A1, c1, rfl, hc1, _⟩ := own_slice ho1.1
      have HO0 := hide ho0
      have HO1 := hide ho1
      have HR0 := hide hr0
      have HR1 := hide hr1
      clear ho0 ho1 hr0 hr1 hc0 hc1
      have k0 : X5.cell? ⟨g5, 0, none⟩ = some (.slice A0 rs0.length c0) := X55.out.cell 0
      have k1 : X5.cell? ⟨g5, 1, none⟩ = some (.slice A1 rs1.length c1) := X55.out.cell 1
      have k2 : X5.cell? ⟨g5, 2, none⟩ = some (.slice (some ⟨b0, 0, none⟩) y0.length d10) := X55.out.cell 2
      have k3 : X5.cell? ⟨g5, 3, none⟩ = some (.slice (some ⟨b1, 0, none⟩) y1.length d11) := X55.out.cell 3
      have k4 : X5.cell? ⟨g5, 4, none⟩ = some (.slice (some ⟨b2, 0, none⟩) y2.length d12) := X55.out.cell 4
      have k5 : X5.cell? ⟨g5, 5, none⟩ = some (.slice (some ⟨b3, 0, none⟩) y3.length d13) := X55.out.cell 5
      have k6 : X5.cell? ⟨g5, 6, none⟩ = some (.slice (some ⟨b4, 0, none⟩) y4.length d14) := X55.out.cell 6
      have q0 : X5.cell? ⟨g2, 0, none⟩ = some (.slice none 0 0) := X25.out.cell 0
      have z0 := X25.out.frozen 0
      have q1 : X5.cell? ⟨g2, 1, none⟩ = some (.slice none 0 0) := X25.out.cell 1
      have z1 := X25.out.frozen 1
      have q2 : X5.cell? ⟨g2, 2, none⟩ = some (.slice none 0 0) := X25.out.cell 2
      have z2 := X25.out.frozen 2
      have q3 : X5.cell? ⟨g2, 3, none⟩ = some (.slice none 0 0) := X25.out.cell 3
      have z3 := X25.out.frozen 3
      have q4 : X5.cell? ⟨g2, 4, none⟩ = some (.slice none 0 0) := X25.out.cell 4
      have z4 := X25.out.frozen 4
      have q5 : X5.cell? ⟨g2, 5, none⟩ = some (.slice none 0 0) := X25.out.cell 5
      have z5 := X25.out.frozen 5
      have q6 : X5.cell? ⟨g2, 6, none⟩ = some (.slice none 0 0) := X25.out.cell 6
      have z6 := X25.out.frozen 6
      go_wp2
      have hload := tab_stored X25.out (.slice A0 rs0.length c0) (.slice A1 rs1.length c1) (.slice (some ⟨b0, 0, none⟩) y0.length d10) (.slice (some ⟨b1, 0, none⟩) y1.length d11) (.slice (some ⟨b2, 0, none⟩) y2.length d12) (.slice (some ⟨b3, 0, none⟩) y3.length d13) (.slice (some ⟨b4, 0, none⟩) y4.length d14)
      have HT := hide (tab_grown X5 g2 (.slice A0 rs0.length c0) (.slice A1 rs1.length c1) (.slice (some ⟨b0, 0, none⟩) y0.length d10) (.slice (some ⟨b1, 0, none⟩) y1.length d11) (.slice (some ⟨b2, 0, none⟩) y2.length d12) (.slice (some ⟨b3, 0, none⟩) y3.length d13) (.slice (some ⟨b4, 0, none⟩) y4.length d14))
      rw [HD.out]
      have hgg := HG.out
      refine bodyPost_ret (v := .tuple #[.agg #[(.slice A0 rs0.length c0), (.slice A1 rs1.length c1), (.slice (some ⟨b0, 0, none⟩) y0.length d10), (.slice (some ⟨b1, 0, none⟩) y1.length d11), (.slice (some ⟨b2, 0, none⟩) y2.length d12), (.slice (some ⟨b3, 0, none⟩) y3.length d13), (.slice (some ⟨b4, 0, none⟩) y4.length d14)], .int .i64 ((us : Int) + (ur : Int)), .int .i64 0]) (results_cell3 Tryd.results15 _ _ ⟨g2, 0, none⟩ _ rfl hload) rfl ⟨_, ⟨rs0, rs1, ⟨y0, some ⟨b0, 0, none⟩, d10⟩, ⟨y1, some ⟨b1, 0, none⟩, d11⟩, ⟨y2, some ⟨b2, 0, none⟩, d12⟩, ⟨y3, some ⟨b3, 0, none⟩, d13⟩, ⟨y4, some ⟨b4, 0, none⟩, d14⟩⟩, rfl, ?_, ?_, fun h => absurd rfl h, tab_below XW5.out (by omega) _ _ _ _ _ _ _⟩
      ·exact ⟨A0, A1, c0, c1, rfl, HO0.out.x HT.out (by omega), HO1.out.x HT.out (by omega), Y5_0.out.grownZ HT.out (fun _ a ha he => by injection ha with ha; subst ha; injection he with he; have h2 : b0 = g2 := he; have := XB0.out; omega), Y5_1.out.grownZ HT.out (fun _ a ha he => by injection ha with ha; subst ha; injection he with he; have h2 : b1 = g2 := he; have := XB1.out; omega), Y5_2.out.grownZ HT.out (fun _ a ha he => by injection ha with ha; subst ha; injection he with he; have h2 : b2 = g2 := he; have := XB2.out; omega), Y5_3.out.grownZ HT.out (fun _ a ha he => by injection ha with ha; subst ha; injection he with he; have h2 : b3 = g2 := he; have := XB3.out; omega), Y5_4.out.grownZ HT.out (fun _ a ha he => by injection ha with ha; subst ha; injection he with he; have h2 : b4 = g2 := he; have := XB4.out; omega)⟩
      ·intro _
       show ((rs0.map ru, rs1.map ru), [y0, y1, y2, y3, y4]) = ((R0, R1), [y0, y1, y2, y3, y4])
       rw [HR0.out, HR1.out]
set_option maxHeartbeats 4000000 in
set_option maxRecDepth 100000 in
theorem decodeT_nil (w : World) :
  Calls Tryd.prog 14 #[.slice none 0 0] w fun e w' => e = .returned (.tuple #[.agg #[.slice none 0 0, .slice none 0 0, .slice none 0 0, .slice none 0 0, .slice none 0 0, .slice none 0 0, .slice none 0 0], .int .i64 0, .int .i64 3]) ∧ Below w.heap.size w w' := by
 go_enter Tryd.func14, Tryd.ntmps14
 go_upto_region 2 with fail
 refine name_world fun V hV => ?_
 have V2 := hide (show Blk V w.heap.size 29 #[.slice none 0 0, .slice none 0 0, .slice none 0 0, .slice none 0 0, .slice none 0 0, .slice none 0 0, .slice none 0 0] by rw [← hV.out]; exact (Blk.new w _ _).alloc _)
 have HV := hide (show Below w.heap.size w V by rw [← hV.out]; exact ((Below.refl _ _).alloc (Nat.le_refl _) _).alloc (by simp) _)
 have hvs : V.heap.size = w.heap.size + 1 + 1 := by rw [← hV.out]; simp
 clear hV
 obtain ⟨g2, hg2⟩ : ∃ g2, g2 = w.heap.size := ⟨_, rfl⟩
 obtain ⟨g5, hg5⟩ : ∃ g5, g5 = w.heap.size + 1 := ⟨_, rfl⟩
 rw [← hg5] at hvs ⊢
 rw [← hg2] at V2 ⊢
 have HG := hide (show g2 = w.heap.size ∧ g5 = w.heap.size + 1 ∧ V.heap.size = g5 + 1 from ⟨hg2, hg5, hvs⟩)
 clear hg2 hg5 hvs
 have HVV := hide (Below.refl V.heap.size V)
 go_wp2
 go_loopw [6, 14] (fun s6 s wr => s = .int .i64 0 ∧ s6 = .int .i64 0 ∧ Below V.heap.size V wr) (fun _ s _ => 2 - (intOf s).toNat)
 case atStart => exact ⟨rfl, rfl, HVV.out⟩
 case round =>
  obtain ⟨rfl, rfl, hbel⟩ := hrel
  obtain ⟨wd, rfl⟩ : ∃ wd, wd = wr := ⟨wr, rfl⟩
  have HWD := hide (show Below w.heap.size w wd from HV.out.trans (hbel.mono (by have := HG.out; omega)))
  have H2 := hide (show Blk wd g2 29 #[.slice none 0 0, .slice none 0 0, .slice none 0 0, .slice none 0 0, .slice none 0 0, .slice none 0 0, .slice none 0 0] from V2.out.below hbel (by have := HG.out; omega))
  clear hbel
  have C2 := hide (getRules_any none 0 0 [] wd (reads_zero _ _ _) (by omega) (by omega))
  have hI : Wr.decN Wr.decR [] = ([], 0, 3) := rfl
  rw [hI] at C2
  clear hI
  go_wp2_with (go_at_call 33; (with_reducible refine (unhide C2).mono ?_); rintro e w2 ⟨v2, rfl, hl2, hb2⟩; have HB2 := hide hb2; have H22 := hide (H2.out.below hb2 H2.out.lt); obtain ⟨k0, k1, k2, k3, k4, k5, k6, z0, z1, z2, z3, z4, z5, z6⟩ := nil7 H22.out; clear hl2 hb2)
  have hload := tab_stored H22.out (.slice none 0 0) (.slice none 0 0) (.slice none 0 0) (.slice none 0 0) (.slice none 0 0) (.slice none 0 0) (.slice none 0 0)
  exact bodyPost_ret (v := .tuple #[.agg #[.slice none 0 0, .slice none 0 0, .slice none 0 0, .slice none 0 0, .slice none 0 0, .slice none 0 0, .slice none 0 0], .int .i64 0, .int .i64 3]) (results_cell3 Tryd.results14 _ _ ⟨g2, 0, none⟩ _ rfl hload) rfl ⟨rfl, tab_below (HWD.out.trans (HB2.out.mono HWD.out.size)) (by have := HG.out; omega) _ _ _ _ _ _ _⟩
set_option maxHeartbeats 4000000 in
set_option maxRecDepth 100000 in
theorem refDecodeT_nil (w : World) :
  Calls Tryd.prog 15 #[.slice none 0 0] w fun e w' => e = .returned (.tuple #[.agg #[.slice none 0 0, .slice none 0 0, .slice none 0 0, .slice none 0 0, .slice none 0 0, .slice none 0 0, .slice none 0 0], .int .i64 0, .int .i64 3]) ∧ Below w.heap.size w w' := by
 go_enter Tryd.func15, Tryd.ntmps15
 go_upto_region 2 with fail
 refine name_world fun V hV => ?_
 have V2 := hide (show Blk V w.heap.size 29 #[.slice none 0 0, .slice none 0 0, .slice none 0 0, .slice none 0 0, .slice none 0 0, .slice none 0 0, .slice none 0 0] by rw [← hV.out]; exact (Blk.new w _ _).alloc _)
 have HV := hide (show Below w.heap.size w V by rw [← hV.out]; exact ((Below.refl _ _).alloc (Nat.le_refl _) _).alloc (by simp) _)
 have hvs : V.heap.size = w.heap.size + 1 + 1 := by rw [← hV.out]; simp
 clear hV
 obtain ⟨g2, hg2⟩ : ∃ g2, g2 = w.heap.size := ⟨_, rfl⟩
 obtain ⟨g5, hg5⟩ : ∃ g5, g5 = w.heap.size + 1 := ⟨_, rfl⟩
 rw [← hg5] at hvs ⊢
 rw [← hg2] at V2 ⊢
 have HG := hide (show g2 = w.heap.size ∧ g5 = w.heap.size + 1 ∧ V.heap.size = g5 + 1 from ⟨hg2, hg5, hvs⟩)
 clear hg2 hg5 hvs
 have HVV := hide (Below.refl V.heap.size V)
 go_wp2
 go_loopw [6, 7] (fun s6 s wr => s = .int .i64 0 ∧ s6 = .int .i64 0 ∧ Below V.heap.size V wr) (fun _ s _ => 2 - (intOf s).toNat)
 case atStart => exact ⟨rfl, rfl, HVV.out⟩
 case round =>
  obtain ⟨rfl, rfl, hbel⟩ := hrel
  obtain ⟨wd, rfl⟩ : ∃ wd, wd = wr := ⟨wr, rfl⟩
  have HWD := hide (show Below w.heap.size w wd from HV.out.trans (hbel.mono (by have := HG.out; omega)))
  have H2 := hide (show Blk wd g2 29 #[.slice none 0 0, .slice none 0 0, .slice none 0 0, .slice none 0 0, .slice none 0 0, .slice none 0 0, .slice none 0 0] from V2.out.below hbel (by have := HG.out; omega))
  clear hbel
  have C2 := hide (refGetInt_any none 0 0 [] wd (reads_zero _ _ _) (by unfold maxLen; omega) (by omega))
  have hI : Wr.decI [] = (0, 0, 3) := rfl
  rw [hI] at C2
  clear hI
  go_wp2_with (go_at_call 35; (with_reducible refine (unhide C2).mono ?_); rintro e w2 ⟨rfl, hb2⟩; have HB2 := hide hb2; have H22 := hide (H2.out.below hb2 H2.out.lt); obtain ⟨k0, k1, k2, k3, k4, k5, k6, z0, z1, z2, z3, z4, z5, z6⟩ := nil7 H22.out; clear hb2)
  have hload := tab_stored H22.out (.slice none 0 0) (.slice none 0 0) (.slice none 0 0) (.slice none 0 0) (.slice none 0 0) (.slice none 0 0) (.slice none 0 0)
  exact bodyPost_ret (v := .tuple #[.agg #[.slice none 0 0, .slice none 0 0, .slice none 0 0, .slice none 0 0, .slice none 0 0, .slice none 0 0, .slice none 0 0], .int .i64 0, .int .i64 3]) (results_cell3 Tryd.results15 _ _ ⟨g2, 0, none⟩ _ rfl hload) rfl ⟨rfl, tab_below (HWD.out.trans (HB2.out.mono HWD.out.size)) (by have := HG.out; omega) _ _ _ _ _ _ _⟩
end Go.Proofs.YtjnnohghgkjhcaaDoor
