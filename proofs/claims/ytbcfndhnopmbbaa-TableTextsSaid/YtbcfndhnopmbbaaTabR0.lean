/-
  Tables: pieces in the language 0, by contract. (Written by tools/gen_tabq.py.)
-/
import Derived.Test.YtbcfndhnopmbbaaTabQ
namespace Go.Proofs.Ytbcfndhnopmbbaa
open Go.RowKit
set_option linter.unusedVariables false
set_option linter.unusedSimpArgs false
theorem stepInfo3 : (Try.prog.info? 69).map (fun i => (i.zero, i.size, i.bytes)) = some (some (.agg #[.int .i64 0, .bool false, .bool false, .int .i64 0, .slice none 0 0, .int .i64 0]), 6, 56) := by kernel_rfl
set_option maxHeartbeats 8000000 in
set_option maxRecDepth 100000 in
theorem pieces_0 (v : Value) (t : Tb.Tab) (s : Tb.St) (A : Option Addr) (c : Nat) (l : Tb.Text) (p : Nat) (w : World) (h : TabAt w w.heap.size v t) (hr : TextAt w w.heap.size A l) (hp : p < l.length) (hc : l.length ≤ c)
    (hlang : s.lang = 0) (hrl : t.r0.length ≤ 96) (hri : ∀ r ∈ t.r0, Tb.right r = true) (hfl : t.fin.l.length ≤ 4) (hcl : t.cap.l.length ≤ 4) :
    Calls Try.prog 56 #[v, stV s, .slice A l.length c, .int .i64 (p : Int)] w fun e w' => ∃ v' xs, e = .returned v' ∧ w'.ownsRow w.heap.size 69 6 v' xs.length (STC xs) ∧ xs.map (·.sp) = Tb.pieces t.r0 t s l p ∧ StepsF w' v' xs ∧ Below w.heap.size w w' := by
  obtain ⟨i0, hi, hz0, hz1, hz2⟩ := info_parts byteInfo'
  have HI := hide hi
  have HZ0 := hide hz0
  have HZ1 := hide hz1
  have HZ2 := hide hz2
  obtain ⟨j0, hj, hy0, hy1, hy2⟩ := info_parts stepInfo3
  have HJ := hide hj
  have HY0 := hide hy0
  have HY1 := hide hy1
  have HY2 := hide hy2
  clear hi hz0 hz1 hz2 hj hy0 hy1 hy2
  have HR := hide hr
  obtain ⟨ad, rfl, hadb, hc0, hc1⟩ := reads_sym' hr p hp
  have CL := hide (fun W => letter_any (Tb.at_ l p).2 W)
  have CF := hide (fun (W : World) (hb : Below w.heap.size w W) => fitting_any (some ad) c l p W (hr.same hb) hp)
  have C1 := hide (fun (r : Tb.Rl) (hm : r ∈ t.r0) (W : World) (hb : Below w.heap.size w W) => fun g0 g1 g2 B hF => fit_any g0 g1 g2 (some ad) c l p r W (hr.same hb) hp hc (Tb.right_text (hri r hm)).1 (by have := (Tb.right_text (hri r hm)).2; omega) B hF)
  have HRC := hide (fun (r : Tb.Rl) (hm : r ∈ t.r0) => Tb.right_cells (hri r hm))
  have HPC := hide (show Tb.pieces t.r0 t s l p = (List.range t.r0.length).filterMap (Tb.pieceAt t.r0 t s l p) from rfl)
  have HPS := hide (Tb.pieces_step t.r0 t s l p)
  have HPA := hide (fun (k : Nat) (hk : k < t.r0.length) => (show Tb.pieceAt t.r0 t s l p k = if Tb.fits t.r0[k] l p then some ⟨⟨0, false, Tb.letter (Tb.at_ l p).2⟩, t.r0[k].text.length, Tb.before t s (Tb.at_ l p).2 ++ t.r0[k].cells.l, (k : Int)⟩ else none by
    unfold Tb.pieceAt
    rw [List.getElem?_eq_getElem hk, hlang]))
  have HBF := hide (show Tb.before t s (Tb.at_ l p).2 = (if Tb.letter (Tb.at_ l p).2 && s.num then t.fin.l else []) ++ (if Tb.capital (Tb.at_ l p).2 then t.cap.l else []) from rfl)
  obtain ⟨A0, A1, c0, c1, rfl, h0, h1, _, _, _, hcap, _, hfin, _⟩ := h
  have HRU := hide h0
  have HCAP := hide (fun (W : World) (hb : Below w.heap.size w W) => (hcap.1.below hb).more hb.size)
  have HFIN := hide (fun (W : World) (hb : Below w.heap.size w W) => (hfin.1.below hb).more hb.size)
  unfold stV
  rw [hlang]
  unfold VC at CL
  generalize Tb.pieces t.r0 t s l p = pcs at *
  generalize Tb.pieceAt t.r0 t s l p = pa at *
  generalize Tb.before t s (Tb.at_ l p).2 = bf at *
  generalize Tb.letter (Tb.at_ l p).2 = le at *
  generalize Tb.capital (Tb.at_ l p).2 = ca at *
  generalize (Tb.low (Tb.at_ l p).2).toNat = lo at *
  generalize (Tb.at_ l p).2.toNat = cn at *
  generalize (Tb.at_ l p).1 = la at *
  generalize s.num = sn at *
  generalize s.inn = si at *
  clear h0 h1 hcap hfin hlang hr hri
  obtain ⟨n4, hn4⟩ : ∃ n4, n4 = t.fin.l.length := ⟨_, rfl⟩
  obtain ⟨n3, hn3⟩ : ∃ n3, n3 = t.cap.l.length := ⟨_, rfl⟩
  have HN4 := hide hn4
  have HN3 := hide hn3
  rw [← hn4] at HFIN hfl ⊢
  rw [← hn3] at HCAP hcl ⊢
  generalize t.fin.l = fl at *
  generalize t.cap.l = cl at *
  obtain ⟨nr, hnr⟩ : ∃ nr, nr = t.r0.length := ⟨_, rfl⟩
  have HNR := hide hnr
  rw [← hnr] at HPC hrl ⊢
  generalize t.r1.length = no at *
  generalize t.r0 = rs at *
  generalize t.dig.l.length = nd at *
  generalize t.num.l.length = nn at *
  generalize t.sw.l.length = nw at *
  obtain ⟨n, hn⟩ : ∃ n, n = l.length := ⟨_, rfl⟩
  rw [← hn] at hp hc CF C1 ⊢
  have hp0 : (0 : Int) ≤ (p : Int) := by omega
  have hp1 : (p : Int) < (n : Int) := by omega
  have hrli : (nr : Int) ≤ 96 := by omega
  clear hn4 hn3 hnr hn
  go_enter Try.func56, Try.ntmps56
  go_upto_region 1 with fail
  refine name_world fun V hV => ?_
  have V4 := hide (show Blk V w.heap.size 28 #[.slice A0 nr c0, .slice A1 no c1, .slice t.dig.ad nd t.dig.c, .slice t.cap.ad n3 t.cap.c, .slice t.num.ad nn t.num.c, .slice t.fin.ad n4 t.fin.c, .slice t.sw.ad nw t.sw.c] by rw [← hV.out]; exact (Blk.new w _ _).alloc _)
  have V5 := hide (show Blk V (w.heap.size + 1) 60 #[.int .i64 0, .bool sn, .bool si] by rw [← hV.out]; exact Blk.new2 w _ _ _)
  have HV := hide (show Below w.heap.size w V by rw [← hV.out]; exact ((Below.refl _ _).alloc (Nat.le_refl _) _).alloc (by simp) _)
  have hgV := V5.out.lt
  have kc0 : V.cell? (ad.add (p * 2)) = some (.int .i64 la) := by rw [HV.out.cell (by rw [block_of_add]; exact hadb)]; exact hc0
  have kc1 : V.cell? ⟨(ad.add (p * 2)).block, (ad.add (p * 2)).off + 1, none⟩ = some (.int .u8 (cn : Int)) := by rw [HV.out.cell (by show (ad.add (p * 2)).block < _; rw [block_of_add]; exact hadb)]; exact hc1
  have k4 : V.cell? ⟨w.heap.size, 5, none⟩ = some (.slice t.fin.ad n4 t.fin.c) := V4.out.cell 5
  have k5 : V.cell? ⟨w.heap.size + 1, 1, none⟩ = some (.bool sn) := V5.out.cell 1
  have HVV := hide (Below.refl V.heap.size V)
  clear hV
  go_upto_region 3 with (go_at_call 22; refine (unhide CL _).mono ?_; rintro e w1 ⟨rfl, rfl⟩)
  go_cut [32] (fun s32 wx => s32 = .bool (le && sn) ∧ V = wx)
  case first =>
    cases le <;>
    · go_wp2
      go_meet
      exact ⟨rfl, rfl⟩
  case rest =>
    obtain ⟨rfl, rfl⟩ := hcut
    go_upto_if 32 with fail
    go_cut [12] (fun s12 wx => wx.ownsRow V.heap.size 5 1 s12 (if le && sn then fl else []).length (BV (if le && sn then fl else [])) ∧ Below V.heap.size V wx)
    case first =>
      cases hls : (le && sn) with
      | true =>
        go_wp2_with (at_builtin; refine wpList_append_any _ rfl (.tmp 33) (.tmp 35) 26 rfl V.heap.size 5 i0 (.int .u8 0) 1 1 Try.underlying26 HI.out HZ0.out HZ1.out HZ2.out rfl (by omega) _ 0 [] rfl (own_nil _ _ _ _) _ t.fin.ad n4 t.fin.c (BV fl) rfl (HFIN.out V HV.out) (BV_one fl) (by unfold maxLen; omega) (by omega) (by simp) ?_; intro v2 w2 hown2 hgrow2 hat2; have HO2 := hide (own_count hown2); have HB2 := hide (below_grown hgrow2 (own_nil _ V.heap.size 5 1) (by simp)); clear hown2 hgrow2 hat2)
        go_meet
        exact ⟨by rw [hls, if_pos rfl]; exact HO2.out, HB2.out⟩
      | false =>
        go_wp2
        go_meet
        exact ⟨by rw [hls]; exact own_nil _ _ _ _, HVV.out⟩
    case rest =>
      obtain ⟨hown, hbel⟩ := hcut
      obtain ⟨X, rfl⟩ : ∃ X, X = wc := ⟨wc, rfl⟩
      obtain ⟨b1, hb1⟩ : ∃ b1, b1 = (if le && sn then fl else []) := ⟨_, rfl⟩
      have HB1L := hide (show b1.length ≤ 4 by rw [hb1]; split; (have := HN4.out; omega); simp)
      rw [← hb1] at hown HBF
      have HO := hide hown
      have HX := hide hbel
      have hxs := hbel.size
      have XW := hide (HV.out.trans (hbel.mono HV.out.size))
      have e4 : X.cell? ⟨w.heap.size, 3, none⟩ = some (.slice t.cap.ad n3 t.cap.c) := (V4.out.below hbel (by omega)).cell 3
      clear hown hbel hb1 kc0 kc1 k4 k5 HFIN
      go_upto_if 37 with fail
      go_cut [12] (fun s12 wx => wx.ownsRow V.heap.size 5 1 s12 bf.length (BV bf) ∧ Below V.heap.size V wx)
      case first =>
        cases ca with
        | true =>
          have HBF2 := hide (show bf = b1 ++ cl by rw [HBF.out]; rfl)
          clear HBF
          go_wp2_with (at_builtin; refine wpList_append_any _ rfl (.tmp 38) (.tmp 40) 26 rfl V.heap.size 5 i0 (.int .u8 0) 1 1 Try.underlying26 HI.out HZ0.out HZ1.out HZ2.out rfl (by omega) _ b1.length (BV b1) rfl HO.out _ t.cap.ad n3 t.cap.c (BV cl) rfl (HCAP.out X XW.out) (BV_one cl) (by have := HB1L.out; unfold maxLen; omega) (by have := HB1L.out; omega) hxs ?_; intro v2 w2 hown2 hgrow2 hat2; have HO2 := hide hown2; have HB2 := hide (HX.out.trans (below_grown hgrow2 HO.out hxs)); clear hown2 hgrow2 hat2)
          go_meet
          exact ⟨own_count (by rw [HBF2.out, BV_append]; exact HO2.out), HB2.out⟩
        | false =>
          have HBF2 := hide (show bf = b1 by rw [HBF.out]; simp)
          clear HBF
          go_wp2
          go_meet
          exact ⟨by rw [HBF2.out]; exact HO.out, HX.out⟩
      case rest =>
        obtain ⟨hown, hbel⟩ := hcut
        obtain ⟨Y, rfl⟩ : ∃ Y, Y = wc := ⟨wc, rfl⟩
        have HBFL := hide (show bf.length ≤ 8 by
          have h1 := HB1L.out
          rw [HBF.out, List.length_append]
          split
          · have := HN3.out; omega
          · simp; omega)
        obtain ⟨Ab, cb, hvb, hbs, _⟩ := bs_of_own hown (by have := HBFL.out; omega)
        subst hvb
        have HBS := hide hbs
        have HY := hide hbel
        have hys := hbel.size
        have YW := hide (HV.out.trans (hbel.mono HV.out.size))
        have Y4 := hide (V4.out.below hbel (by omega))
        have Y5 := hide (V5.out.below hbel (by omega))
        have e5 : Y.cell? ⟨w.heap.size + 1, 0, none⟩ = some (.int .i64 0) := Y5.out.cell 0
        obtain ⟨nb, hnb⟩ : ∃ nb, nb = bf.length := ⟨_, rfl⟩
        have HNB := hide hnb
        rw [← hnb] at HBFL ⊢
        clear hown hbel hbs e4 HO HX HCAP HBF XW hnb hxs
        go_upto_region 8 with fail
        refine name_world fun Z hZ => ?_
        have Z13 := hide (show Blk Z Y.heap.size 60 #[.int .i64 0, .bool false, .bool le] by rw [← hZ.out]; exact Blk.new Y _ _)
        have HZ := hide (show Below Y.heap.size Y Z by rw [← hZ.out]; exact below_alloc Y _)
        have ZW := hide (YW.out.trans (HZ.out.mono YW.out.size))
        have CFZ := hide (CF.out Z ZW.out)
        have hzl : Y.heap.size < Z.heap.size := Z13.out.lt
        clear hZ e5 CF
        go_upto_region 9 with (go_at_call 63; refine (unhide CFZ).mono ?_; rintro e w1 ⟨g0, g1, g2, rfl, hfit, hb1⟩; have HFI := hide hfit; have HB1 := hide hb1; clear hfit hb1)
        clear CFZ
        have hb1s := HB1.out.size
        have F4 := hide ((Y4.out.below HZ.out (by omega)).below HB1.out (by omega))
        have F5 := hide ((Y5.out.below HZ.out (by omega)).below HB1.out (by omega))
        have F13 := hide (Z13.out.below HB1.out (by omega))
        have HBSF := hide ((HBS.out.same HZ.out).same HB1.out)
        have WF := hide (ZW.out.trans (HB1.out.mono ZW.out.size))
        have e5 : w1.cell? ⟨w.heap.size + 1, 0, none⟩ = some (.int .i64 0) := F5.out.cell 0
        have e4 : w1.cell? ⟨w.heap.size, 0, none⟩ = some (.slice A0 nr c0) := F4.out.cell 0
        have hw1w : w.heap.size < w1.heap.size := F4.out.lt
        have hg13 : Y.heap.size < w1.heap.size := F13.out.lt
        have hl0 := HFI.out.l0.lt
        have hl1 := HFI.out.l1.lt
        have hl2 := HFI.out.l2.lt
        have HFF := hide (Below.refl w1.heap.size w1)
        unfold fitF
        generalize Y.heap.size = g13 at *
        clear HBS HY HVV HV Y4 Y5 F5 HZ Z13 ZW HB1 YW hgV hys V4 V5
        go_wp2
        go_loopw [15, 56] (fun s15 s wr => ∃ (k : Nat) (xs : List Stp) (y15 : Value), k ≤ nr ∧ s = .int .i64 (k : Int) ∧ y15 = s15 ∧ wr.ownsRow w1.heap.size 69 6 y15 xs.length (STC xs) ∧ Hid (xs.map (·.sp) = (List.range k).filterMap pa) ∧ Hid (xs.length ≤ k) ∧ StepsF wr y15 xs ∧ Below w1.heap.size w1 wr) (fun _ s _ => nr - (intOf s).toNat)
        case atStart => exact ⟨0, [], _, by omega, rfl, rfl, own_nil _ _ _ _, rfl, Nat.le_refl _, StepsF.nil _ _, HFF.out⟩
        case round =>
          obtain ⟨k, xs, s15, hk, rfl, rfl, hown, HXS, HXL, hsf, hbel⟩ := hrel
          obtain ⟨wd, rfl⟩ : ∃ wd, wd = wr := ⟨wr, rfl⟩
          have HO := hide hown
          have HSF := hide hsf
          have HB := hide hbel
          have WD := hide (WF.out.trans (hbel.mono WF.out.size))
          have hwd := hbel.size
          clear hown hsf hbel e4 e5
          by_cases hlt : k < nr
          · have hil : k < rs.length := by rw [← HNR.out]; exact hlt
            obtain ⟨rad, hAr, hrb, hcs⟩ := reads_rule HRU.out k hil
            subst hAr
            have HEC := hide (show ∀ (j : Nat) (v : Value), ([.string (S rs[k].text), .int .i64 rs[k].wh, .slice rs[k].cells.ad rs[k].cells.l.length rs[k].cells.c] : List Value)[j]? = some v → wd.cell? ((rad.add (k * 3)).add j) = some v from fun j v hv => by
              rw [WD.out.cell (by rw [block_of_add, block_of_add]; exact hrb)]
              exact hcs j v hv)
            have hk0 : (0 : Int) ≤ (k : Int) := by omega
            have hk1 : (k : Int) < (nr : Int) := by omega
            have HLT := hide hlt
            have CFT := hide (C1.out rs[k] (List.getElem_mem hil))
            have HPK := hide (HPA.out k hil)
            have HRL := hide (HRC.out rs[k] (List.getElem_mem hil))
            have HRB := hide (fun (W : World) (hb : Below w.heap.size w W) => ((HRU.out.2.1 rs[k] (List.getElem_mem hil)).1.below hb).more hb.size)
            generalize rs[k] = r at *
            clear hcs hlt hil
            go_upto_region 13 with (with_reducible refine wpList_load_at rfl 74 (.tmp 59) rfl (rad.add (k * 3)) rfl [.string (S r.text), .int .i64 r.wh, .slice r.cells.ad r.cells.l.length r.cells.c] _ HEC.out Try.underlying74 rfl ?c1 ?_)
            case c1 => exact ruleInfo
            refine name_world fun U hU => ?_
            have UB := hide (show Blk U wd.heap.size 74 #[.string (S r.text), .int .i64 r.wh, .slice r.cells.ad r.cells.l.length r.cells.c] by rw [← hU.out]; exact Blk.new wd _ _)
            have HU1 := hide (show Below wd.heap.size wd U by rw [← hU.out]; exact below_alloc wd _)
            have HUF := hide (HB.out.trans (HU1.out.mono HB.out.size))
            have UW := hide (WD.out.trans (HU1.out.mono WD.out.size))
            have UF := hide (HFI.out.below HUF.out hl0 hl1 hl2)
            have U13 := hide (F13.out.below HUF.out hg13)
            have hUl : wd.heap.size < U.heap.size := UB.out.lt
            have f0 : U.cell? ⟨wd.heap.size, 0, none⟩ = some (.string (S r.text)) := UB.out.cell 0
            have f1 : U.cell? ⟨wd.heap.size, 1, none⟩ = some (.int .i64 r.wh) := UB.out.cell 1
            have f2 : U.cell? ⟨wd.heap.size, 2, none⟩ = some (.slice r.cells.ad r.cells.l.length r.cells.c) := UB.out.cell 2
            have CU := hide (CFT.out U UW.out g0 g1 g2 _ UF.out)
            clear hU HEC CFT
            cases hft : Tb.fits r l p with
            | false =>
              rw [hft] at CU
              have HPN := hide (show (List.range (k + 1)).filterMap pa = (List.range k).filterMap pa by rw [HPS.out, HPK.out, hft]; simp)
              clear hft HPK
              go_wp2_with (go_at_call 68; refine (unhide CU).mono ?_; rintro e w2 ⟨rfl, hb2⟩; have HB2 := hide hb2; clear hb2)
              exact ⟨⟨k + 1, xs, _, HLT.out, by go_num, rfl, own_below HO.out (HU1.out.trans (HB2.out.mono (by omega))), by rw [HPN.out]; exact HXS.out, Nat.le_succ_of_le HXL.out, HSF.out.below (HU1.out.trans (HB2.out.mono (by omega))), HUF.out.trans (HB2.out.mono (by omega))⟩, by have := HLT.out; simp [intOf]; omega⟩
            | true =>
              rw [hft] at CU
              have HPN := hide (show (List.range (k + 1)).filterMap pa = (List.range k).filterMap pa ++ [⟨⟨0, false, le⟩, r.text.length, bf ++ r.cells.l, (k : Int)⟩] by rw [HPS.out, HPK.out, hft]; simp)
              clear hft HPK
              go_upto_region 14 with (go_at_call 68; refine (unhide CU).mono ?_; rintro e w2 ⟨rfl, hb2⟩; have HB2 := hide hb2; clear hb2)
              have G13 := hide (U13.out.below HB2.out (by omega))
              have GU := hide (UB.out.below HB2.out hUl)
              have hb2s := HB2.out.size
              have HO2 := hide (own_below HO.out (HU1.out.trans (HB2.out.mono (by omega))))
              have HSF2 := hide (HSF.out.below (HU1.out.trans (HB2.out.mono (by omega))))
              have HF2 := hide (HUF.out.trans (HB2.out.mono (by omega)))
              have HW2 := hide (WF.out.trans (HF2.out.mono WF.out.size))
              have HBS2 := hide (show BsAt w2 w2.heap.size ⟨bf, Ab, cb⟩ from HBSF.out.same HF2.out)
              have HRB2 := hide (HRB.out w2 HW2.out)
              have hown15 : ∀ g, s15.ownBlock = some g → w1.heap.size ≤ g ∧ g < wd.heap.size := fun g hg => HO.out.lt g hg
              clear f0 f1 f2 CU HU1 UB HB2 HO HSF HUF UW UF U13 HB WD
              obtain ⟨gu, hgu⟩ : ∃ gu, gu = wd.heap.size := ⟨_, rfl⟩
              rw [← hgu] at GU hwd hUl hown15 ⊢
              obtain ⟨sv, hsv⟩ : ∃ sv, sv = S r.text := ⟨_, rfl⟩
              have hts : sv.size = r.text.length := by rw [hsv, S_size]
              rw [← hsv] at GU ⊢
              obtain ⟨tl, htl⟩ : ∃ tl, tl = r.text.length := ⟨_, rfl⟩
              rw [← htl] at hts
              have HTL := hide htl
              have HRLC := hide (show r.cells.l.length ≤ 4 ∧ 1 ≤ r.cells.l.length from ⟨HRL.out.2, HRL.out.1⟩)
              obtain ⟨rn, hrn⟩ : ∃ rn, rn = r.cells.l.length := ⟨_, rfl⟩
              rw [← hrn] at GU HRLC ⊢
              have HRN := hide hrn
              clear hgu hsv htl hrn HRL
              have HS := hide (show ∀ W, Below w2.heap.size w2 W → W.cell? ⟨g13, 0, none⟩ = some (.int .i64 0) ∧ W.cell? ⟨g13, 1, none⟩ = some (.bool false) ∧ W.cell? ⟨g13, 2, none⟩ = some (.bool le) ∧ W.cell? ⟨gu, 0, none⟩ = some (.string sv) ∧ W.cell? ⟨gu, 2, none⟩ = some (.slice r.cells.ad rn r.cells.c) from fun W hb => by
                have h1 := G13.out.below hb (by omega)
                have h2 := GU.out.below hb (by omega)
                exact ⟨h1.cell 0, h1.cell 1, h1.cell 2, h2.cell 0, h2.cell 2⟩)
              refine wp_region_held_till (fun W => W.cell? ⟨g13, 0, none⟩ = some (.int .i64 0) ∧ W.cell? ⟨g13, 1, none⟩ = some (.bool false) ∧ W.cell? ⟨g13, 2, none⟩ = some (.bool le) ∧ W.cell? ⟨gu, 0, none⟩ = some (.string sv) ∧ W.cell? ⟨gu, 2, none⟩ = some (.slice r.cells.ad rn r.cells.c)) 14 (by kernel_rfl) ?_
              obtain ⟨W0, hW0⟩ : ∃ W0, W0 = w2.drew := ⟨_, rfl⟩
              have HB0 := hide (show Below w2.heap.size w2 W0 by rw [hW0]; exact (Below.refl _ _).drew)
              rw [← hW0]
              clear hW0
              refine heldTill_take 0 (s15) rfl (by kernel_rfl) (by kernel_rfl) (by kernel_rfl) (by kernel_rfl) (fun _ _ _ h => h) ?_ (HS.out _ HB0.out) ?_
              · rw [if_pos (by rfl)]
                rintro W ⟨r0, r1, r2, r3, r4⟩
                go_simp
              try simp only [Act.put, List.getElem_toArray, List.getElem_cons_succ, List.getElem_cons_zero, List.setIfInBounds_toArray, List.set_cons_zero, List.set_cons_succ]
              refine heldTill_take 1 (.agg #[.int .i64 0, .bool false, .bool le]) rfl (by kernel_rfl) (by kernel_rfl) (by kernel_rfl) (by kernel_rfl) (fun _ _ _ h => h) ?_ (HS.out _ HB0.out) ?_
              · rw [if_pos (by rfl)]
                rintro W ⟨r0, r1, r2, r3, r4⟩
                go_simp
              try simp only [Act.put, List.getElem_toArray, List.getElem_cons_succ, List.getElem_cons_zero, List.setIfInBounds_toArray, List.set_cons_zero, List.set_cons_succ]
              refine heldTill_take 2 (.pointer (some ⟨gu, 0, none⟩)) rfl (by kernel_rfl) (by kernel_rfl) (by kernel_rfl) (by kernel_rfl) (fun _ _ _ h => h) ?_ (HS.out _ HB0.out) ?_
              · rw [if_pos (by rfl)]
                rintro W ⟨r0, r1, r2, r3, r4⟩
                go_simp
              try simp only [Act.put, List.getElem_toArray, List.getElem_cons_succ, List.getElem_cons_zero, List.setIfInBounds_toArray, List.set_cons_zero, List.set_cons_succ]
              refine heldTill_take 3 (.string sv) rfl (by kernel_rfl) (by kernel_rfl) (by kernel_rfl) (by kernel_rfl) (fun _ _ _ h => h) ?_ (HS.out _ HB0.out) ?_
              · rw [if_pos (by rfl)]
                rintro W ⟨r0, r1, r2, r3, r4⟩
                go_simp
              try simp only [Act.put, List.getElem_toArray, List.getElem_cons_succ, List.getElem_cons_zero, List.setIfInBounds_toArray, List.set_cons_zero, List.set_cons_succ]
              refine heldTill_take 4 (.int .i64 (tl : Int)) rfl (by kernel_rfl) (by kernel_rfl) (by kernel_rfl) (by kernel_rfl) (fun _ _ _ h => h) ?_ (HS.out _ HB0.out) ?_
              · rw [if_pos (by rfl)]
                rintro W ⟨r0, r1, r2, r3, r4⟩
                go_simp
              try simp only [Act.put, List.getElem_toArray, List.getElem_cons_succ, List.getElem_cons_zero, List.setIfInBounds_toArray, List.set_cons_zero, List.set_cons_succ]
              refine heldTill_take 5 (.slice Ab nb cb) rfl (by kernel_rfl) (by kernel_rfl) (by kernel_rfl) (by kernel_rfl) (fun _ _ _ h => h) ?_ (HS.out _ HB0.out) ?_
              · rw [if_pos (by rfl)]
                rintro W ⟨r0, r1, r2, r3, r4⟩
                go_simp
              try simp only [Act.put, List.getElem_toArray, List.getElem_cons_succ, List.getElem_cons_zero, List.setIfInBounds_toArray, List.set_cons_zero, List.set_cons_succ]
              refine heldTill_take 6 (.pointer (some ⟨gu, 2, none⟩)) rfl (by kernel_rfl) (by kernel_rfl) (by kernel_rfl) (by kernel_rfl) (fun _ _ _ h => h) ?_ (HS.out _ HB0.out) ?_
              · rw [if_pos (by rfl)]
                rintro W ⟨r0, r1, r2, r3, r4⟩
                go_simp
              try simp only [Act.put, List.getElem_toArray, List.getElem_cons_succ, List.getElem_cons_zero, List.setIfInBounds_toArray, List.set_cons_zero, List.set_cons_succ]
              refine heldTill_take 7 (.slice r.cells.ad rn r.cells.c) rfl (by kernel_rfl) (by kernel_rfl) (by kernel_rfl) (by kernel_rfl) (fun _ _ _ h => h) ?_ (HS.out _ HB0.out) ?_
              · rw [if_pos (by rfl)]
                rintro W ⟨r0, r1, r2, r3, r4⟩
                go_simp
              try simp only [Act.put, List.getElem_toArray, List.getElem_cons_succ, List.getElem_cons_zero, List.setIfInBounds_toArray, List.set_cons_zero, List.set_cons_succ]
              refine heldTill_take 10 (.int .i64 (k : Int)) rfl (by kernel_rfl) (by kernel_rfl) (by kernel_rfl) (by kernel_rfl) (fun _ _ _ h => h) ?_ (HS.out _ HB0.out) ?_
              · rw [if_pos (by rfl)]
                rintro W ⟨r0, r1, r2, r3, r4⟩
                go_simp
              try simp only [Act.put, List.getElem_toArray, List.getElem_cons_succ, List.getElem_cons_zero, List.setIfInBounds_toArray, List.set_cons_zero, List.set_cons_succ]
              refine heldTill_only 8 (by kernel_rfl) ?_
              refine wpOp_step rfl (fun K' hK => ?_)
              go_simp
              obtain ⟨M, hM⟩ : ∃ M, M = W0.alloc (.cells #[.slice Ab nb cb, .slice r.cells.ad rn r.cells.c] 26) := ⟨_, rfl⟩
              have HM1 := hide (show Below W0.heap.size W0 M by rw [hM]; exact below_alloc W0 _)
              have MB := hide (show Blk M W0.heap.size 26 #[.slice Ab nb cb, .slice r.cells.ad rn r.cells.c] by rw [hM]; exact Blk.new W0 _ _)
              have HM := hide (HB0.out.trans (HM1.out.mono HB0.out.size))
              rw [← hM]
              clear hM
              refine hK _ _ ⟨fun _ => HS.out _ HM.out, ?_⟩
              clear hK K'
              try simp only [Act.put, List.getElem_toArray, List.getElem_cons_succ, List.getElem_cons_zero, List.setIfInBounds_toArray, List.set_cons_zero, List.set_cons_succ]
              refine heldTill_only 9 (by kernel_rfl) ?_
              refine wpOp_step rfl (fun K' hK => ?_)
              go_simp
              go_at_call 64
              have hba := (HBS2.out.same HM.out).1
              have hra := ((HRB2.out.below HM.out).more HM.out.size).1
              refine (concat_any W0.heap.size Ab r.cells.ad cb r.cells.c bf r.cells.l M (by rw [← HNB.out, ← HRN.out]; exact MB.out) hba hra (by have := HRLC.out; have := HRN.out; omega) (by have := HRLC.out; have := HRN.out; have := HNB.out; have := HBFL.out; omega)).mono ?_
              rintro e N ⟨A', c', rfl, hbs3, hab3, hb3⟩
              have HN := hide (HM.out.trans (hb3.mono HM.out.size))
              have HBS3 := hide hbs3
              have hms := HM.out.size
              have hAB : ∀ a, A' = some a → w2.heap.size ≤ a.block := fun a ha => by have := hab3 a ha; omega
              obtain ⟨na, hna⟩ : ∃ na, na = (bf ++ r.cells.l).length := ⟨_, rfl⟩
              have HNA := hide hna
              rw [← hna]
              clear hbs3 hb3 hab3 hba hra hna
              refine hK _ _ ⟨fun _ => HS.out _ HN.out, ?_⟩
              clear hK K'
              try simp only [Act.put, List.getElem_toArray, List.getElem_cons_succ, List.getElem_cons_zero, List.setIfInBounds_toArray, List.set_cons_zero, List.set_cons_succ]
              refine heldTill_only 11 (by kernel_rfl) ?_
              refine wpOp_step rfl (fun K' hK => ?_)
              go_simp
              refine hK _ _ ⟨fun _ => HS.out _ HN.out, ?_⟩
              clear hK K'
              try simp only [Act.put, List.getElem_toArray, List.getElem_cons_succ, List.getElem_cons_zero, List.setIfInBounds_toArray, List.set_cons_zero, List.set_cons_succ]
              refine heldTill_only 12 (by kernel_rfl) ?_
              refine wpOp_step rfl (fun K' hK => ?_)
              go_simp
              obtain ⟨O, hO⟩ : ∃ O, O = N.alloc (.cells #[.int .i64 0, .bool false, .bool le, .int .i64 (tl : Int), .slice A' na c', .int .i64 (k : Int)] 69) := ⟨_, rfl⟩
              have HO1 := hide (show Below N.heap.size N O by rw [hO]; exact below_alloc N _)
              have OB := hide (show Blk O N.heap.size 69 #[.int .i64 0, .bool false, .bool le, .int .i64 (tl : Int), .slice A' na c', .int .i64 (k : Int)] by rw [hO]; exact Blk.new N _ _)
              have HOB := hide (HN.out.trans (HO1.out.mono HN.out.size))
              rw [← hO]
              clear hO
              refine hK _ _ ⟨fun _ => HS.out _ HOB.out, ?_⟩
              clear hK K'
              try simp only [Act.put, List.getElem_toArray, List.getElem_cons_succ, List.getElem_cons_zero, List.setIfInBounds_toArray, List.set_cons_zero, List.set_cons_succ]
              refine heldTill_only 13 (by kernel_rfl) ?_
              refine wpOp_step rfl (fun K' hK => ?_)
              have hosz := HOB.out.size
              have hxl : xs.length ≤ 96 := by have := HXL.out; have := HLT.out; omega
              obtain ⟨x, hx⟩ : ∃ x : Stp, x = ⟨⟨⟨0, false, le⟩, r.text.length, bf ++ r.cells.l, (k : Int)⟩, A', c'⟩ := ⟨_, rfl⟩
              have HX := hide hx
              have hspx : spC x = [.int .i64 0, .bool false, .bool le, .int .i64 (tl : Int), .slice A' na c', .int .i64 (k : Int)] := by rw [hx, HTL.out, HNA.out]; rfl
              obtain ⟨v', w', hrun, hown', hgrow', hat'⟩ := run_append_any (P := Try.prog) O w1.heap.size 58 58 69 j0 (.agg #[.int .i64 0, .bool false, .bool false, .int .i64 0, .slice none 0 0, .int .i64 0]) 6 56 Try.underlying58 HJ.out HY0.out HY1.out HY2.out rfl (by omega)
                s15 xs.length (STC xs) (own_below HO2.out HOB.out) O.heap.size (some ⟨N.heap.size, 0, none⟩) 1 1 (spC x)
                ⟨by rw [hspx]; rfl, fun _ => ⟨_, rfl, OB.out.lt, fun j u hu => by
                  have h2 := Blk.cell OB.out j
                  rw [show ((⟨N.heap.size, 0, none⟩ : Addr).add j) = ⟨N.heap.size, j, none⟩ by unfold Addr.add; split <;> simp_all, h2, ← hu, hspx]
                  rw [List.getElem?_toArray]⟩⟩
                (fun u hu => STC_one [x] u (by unfold STC; simpa using hu)) (by unfold maxLen; omega) (by omega) (by omega)
              refine step_run_append (by rfl) (.tmp 64) (.tmp 76) 58 rfl s15 (.slice (some ⟨N.heap.size, 0, none⟩) 1 1) rfl rfl v' w' hrun ?_
              have hne13 : ∀ g, s15.ownBlock = some g → g ≠ g13 ∧ g ≠ gu := fun g hg => by have := hown15 g hg; omega
              have P13 := hide ((G13.out.below HOB.out (by omega)).grown hgrow' (fun h => (hne13 _ h.symm).1 rfl))
              have PU := hide ((GU.out.below HOB.out (by omega)).grown hgrow' (fun h => (hne13 _ h.symm).2 rfl))
              have HWP := hide (((HF2.out.trans (HOB.out.mono (by omega))).grown hgrow' (by omega) (fun g hg => (hown15 g hg).1)))
              have hxb : BsAt O O.heap.size (bsOf x) := by rw [hx]; exact HBS3.out.same HO1.out
              have HSP := hide ((HSF2.out.below HOB.out).snoc hxb (by
                rw [hx]
                intro a ha
                have h1 := hAB a ha
                intro hc
                have h2 := hown15 _ hc.symm
                omega) (by rw [hx]; show 0 < (bf ++ r.cells.l).length; rw [List.length_append]; have := HRLC.out; have := HRN.out; omega) hgrow' hat')
              have HOP := hide (show w'.ownsRow w1.heap.size 69 6 v' (xs ++ [x]).length (STC (xs ++ [x])) by
                rw [STC_append, List.length_append]
                have e : STC [x] = spC x := by unfold STC; simp
                rw [e]
                exact hown')
              refine hK _ _ ⟨fun _ => ⟨P13.out.cell 0, P13.out.cell 1, P13.out.cell 2, PU.out.cell 0, PU.out.cell 2⟩, ?_⟩
              clear hK K' hrun hown' hgrow' hat' hxb hne13
              try simp only [Act.put, List.getElem_toArray, List.getElem_cons_succ, List.getElem_cons_zero, List.setIfInBounds_toArray, List.set_cons_zero, List.set_cons_succ]
              refine heldTill_only 14 (by kernel_rfl) ?_
              refine wpOp_step rfl (fun K' hK => ?_)
              go_simp
              refine hK _ _ ⟨fun h => absurd rfl h, heldTill_done (by kernel_rfl) ?_⟩
              clear hK K'
              go_wp2
              exact ⟨⟨k + 1, xs ++ [x], _, HLT.out, by go_num, rfl, HOP.out, by rw [HPN.out, List.map_append, HXS.out, HX.out]; exact rfl, by have := HXL.out; simp [Hid]; omega, HSP.out, HWP.out⟩, by have := HLT.out; simp [intOf]; omega⟩
          · obtain rfl : k = nr := by omega
            have HPF := hide (show xs.map (·.sp) = pcs by rw [HXS.out, HPC.out])
            have hnt : ¬ ((k : Int) < (k : Int)) := by omega
            clear hlt HXS HPC HPS HPA
            go_wp2
            go_ret
            first
              | exact ⟨_, xs, rfl, own_lower HO.out (by omega), HPF.out, HSF.out, WD.out⟩
              | exact ⟨_, rfl, xs, own_lower HO.out (by omega), HPF.out, HSF.out, WD.out⟩
end Go.Proofs.Ytbcfndhnopmbbaa
