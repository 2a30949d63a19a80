/-
  Tables as bytes: Encode of the reference, by contract.
-/
import Derived.Test.YtjnnohghgkjhcaaDoorM6
import Derived.Test.YtjnnohghgkjhcaaDoorM2
import Derived.StillTailTactics
import Derived.Lib.LazyBuf
namespace Go.Proofs.YtjnnohghgkjhcaaDoor
open Go.RowKit
set_option linter.unusedVariables false
set_option linter.unusedSimpArgs false
set_option maxHeartbeats 4000000 in
set_option maxRecDepth 100000 in
theorem refEncode_any (v : Value) (t : Tb.Tab) (w : World) (h : TabX w w.heap.size v t) (hbig : (Wr.encT (taOf t)).length ≤ 1099511627700) :
  Calls Tryd.prog 8 #[v] w fun e w' => ∃ u, e = .returned u ∧ w'.ownsRow w.heap.size 5 1 u (Wr.encT (taOf t)).length (BV (Wr.encT (taOf t))) ∧ Below w.heap.size w w' := by
 obtain ⟨A0, A1, c0, c1, rfl, hr0, hr1, hd, hc, hn, hf, hs⟩ := h
 have HFV := hide (encT_parts t)
 have HKN := hide (encK_next t)
 have HKL := hide (fun k (hk : k ≤ 2) => (show (encK t k).length ≤ 1099511627700 from by have := encK_le t k hk; omega))
 have HFL := hide (show (Wr.encN Wr.encB (fiveOf t)).length ≤ 1099511627700 from by rw [HFV.out, List.length_append] at hbig; omega)
 obtain ⟨cs, hcs⟩ : ∃ cs : Array Value, cs = #[.slice A0 t.r0.length c0, .slice A1 t.r1.length c1, .slice t.dig.ad t.dig.l.length t.dig.c, .slice t.cap.ad t.cap.l.length t.cap.c, .slice t.num.ad t.num.l.length t.num.c, .slice t.fin.ad t.fin.l.length t.fin.c, .slice t.sw.ad t.sw.l.length t.sw.c] := ⟨_, rfl⟩
 have HLK := hide (show ∀ k, k < 2 → ∃ A c, cs[k]? = some (.slice A (Tb.rulesN t k).length c) ∧ RulesX w w.heap.size A (Tb.rulesN t k) from fun k hk => by
  rcases Tb.rulesN_two (t := t) hk with ⟨e0, e⟩ | ⟨e0, e⟩
  ·subst e0; rw [e, hcs]; exact ⟨A0, c0, rfl, hr0⟩
  ·subst e0; rw [e, hcs]; exact ⟨A1, c1, rfl, hr1⟩)
 have HD := hide hd
 have HC := hide hc
 have HN := hide hn
 have HF := hide hf
 have HS := hide hs
 obtain ⟨E, hE⟩ : ∃ E, E = Wr.encT (taOf t) := ⟨_, rfl⟩
 have HE := hide hE
 rw [← hE]
 clear hr0 hr1 hd hc hn hf hs hE hbig
 go_enter Tryd.func8, Tryd.ntmps8
 go_upto_region 1 with fail
 refine name_world fun B hB => ?_
 have BT := hide (show Blk B w.heap.size 29 cs by rw [← hB.out, hcs]; exact Blk.new w _ _)
 have HWB := hide (show Below w.heap.size w B by rw [← hB.out]; exact below_alloc w _)
 have hws := HWB.out.size
 clear hB
 have HO0 := hide (World.ownsRow_nil B B.heap.size 5 1)
 obtain ⟨gb, hgb⟩ : ∃ gb, gb = w.heap.size := ⟨_, rfl⟩
 rw [← hgb] at BT ⊢
 have HGB := hide hgb
 clear hgb
 have HBB := hide (Below.refl B.heap.size B)
 have HCK := hide (fun (k : Nat) (hk : k < 2) => (show ∃ A c, (∀ W, Below B.heap.size B W → W.cell? ⟨gb, k, none⟩ = some (.slice A (Tb.rulesN t k).length c)) ∧ RulesX w w.heap.size A (Tb.rulesN t k) from by
  obtain ⟨A, c, h1, h2⟩ := HLK.out k hk
  exact ⟨A, c, fun W hb => by rw [(BT.out.below hb BT.out.lt).cell k]; exact h1, h2⟩))
 clear HLK
 go_wp2
 go_loopw [3, 4] (fun s3 s wr => ∃ (k : Nat) (y3 : Value), k ≤ 2 ∧ s = .int .i64 (k : Int) ∧ y3 = s3 ∧ wr.ownsRow B.heap.size 5 1 y3 (encK t k).length (BV (encK t k)) ∧ Below B.heap.size B wr) (fun _ s _ => 2 - (intOf s).toNat)
 case atStart => exact ⟨0, .slice none 0 0, by omega, rfl, rfl, HO0.out, HBB.out⟩
 case round =>
  obtain ⟨k, y3, hk, rfl, rfl, hown, hbel⟩ := hrel
  obtain ⟨wd, rfl⟩ : ∃ wd, wd = wr := ⟨wr, rfl⟩
  have HO := hide hown
  have HB := hide hbel
  have hk0 : (0 : Int) ≤ (k : Int) := by omega
  by_cases hk2 : (k : Int) < 2
  ·obtain ⟨Ak, ck, hcell, hrk⟩ := HCK.out k (by omega)
   have hcl := hcell wd hbel
   have HRK := hide (hrk.below (show Below w.heap.size w B from HWB.out))
   have HK1 := hide (HKN.out k (by omega))
   have HKL1 := hide (HKL.out (k + 1) (by omega))
   have HKL0 := hide (HKL.out k (by omega))
   have hk3 : k + 1 ≤ 2 := by omega
   obtain ⟨rs, hrs⟩ : ∃ rs, rs = Tb.rulesN t k := ⟨_, rfl⟩
   rw [← hrs] at HK1 HRK hcl
   obtain ⟨m, hm⟩ : ∃ m, m = rs.length := ⟨_, rfl⟩
   have HM := hide hm
   rw [← hm] at hcl
   obtain ⟨ek, hek⟩ : ∃ ek, ek = encK t k := ⟨_, rfl⟩
   obtain ⟨ek1, hek1⟩ : ∃ ek1, ek1 = encK t (k + 1) := ⟨_, rfl⟩
   rw [← hek, ← hek1] at HK1
   rw [← hek] at HO HKL0
   rw [← hek1] at HKL1
   have HEK1 := hide hek1
   have HKE := hide (show ek1 = ek ++ (Wr.enc (m : Int) ++ Wr.encL Wr.encR (rs.map ru)) from by rw [HK1.out, hm]; unfold Wr.encN; rw [List.length_map])
   have hmx : m ≤ 1099511627700 := by
    have h1 := HKL1.out
    have h2 := Wr.encL_least (size := 3) (e := Wr.encR) (ok := fun _ => True) (fun x _ => by
     show 3 ≤ (Wr.encB x.1 ++ (Wr.enc x.2.1 ++ Wr.encB x.2.2)).length
     rw [List.length_append, List.length_append, encB_is, encB_is, List.length_append, List.length_append]
     have := Wr.enc_pos x.2.1
     have := Wr.enc_pos (x.1.length : Int)
     have := Wr.enc_pos (x.2.2.length : Int)
     omega) (rs.map ru) (fun _ _ => trivial)
    rw [HKE.out, List.length_append, List.length_append] at h1
    rw [List.length_map, ← hm] at h2
    omega
   have hmi : (m : Int) ≤ 1099511627700 := by omega
   have HEI := hide (fun W => refInt_any (m : Int) W (by unfold Wr.inI; omega))
   have HLY := hide (show (ek ++ Wr.enc (m : Int)).length ≤ 1099511627700 from by have h1 := HKL1.out; rw [HKE.out, ← List.append_assoc, List.length_append] at h1; omega)
   have hlp := HLY.out
   rw [List.length_append] at hlp
   have hbs := hbel.size
   clear hown hbel hcell hrk hrs hm hek hek1 HCK HKN HKL
   generalize Wr.enc (m : Int) = y at *
   go_wp2_with (first
    | (go_at_call 26; (with_reducible refine (unhide HEI _).mono ?_); rintro e w1 ⟨v1, rfl, hown1, hb1⟩; have HO1 := hide hown1; have HP1 := hide (own_below HO.out hb1); have HB1 := hide (HB.out.trans (hb1.mono hbs)); clear hown1 hb1)
    | (at_builtin; refine wpList_push rfl (.tmp 16) (.tmp 19) rfl rfl B.heap.size wd.heap.size _ v1 ek y rfl HP1.out rfl HO1.out (by omega) HB1.out.size ?_; intro v2 w2 hown2 hb2; have HO2 := hide hown2; have HB2 := hide (HB1.out.trans hb2); clear hown2 hb2))
   have HPRE := hide (show ek1 = (ek ++ y) ++ Wr.encL Wr.encR (rs.map ru) from by rw [HKE.out, List.append_assoc])
   obtain ⟨pre, hpre⟩ : ∃ pre, pre = ek ++ y := ⟨_, rfl⟩
   rw [← hpre] at HO2 HPRE
   have hw2 := HB2.out.size
   clear hpre hlp
   obtain ⟨RR, hRR⟩ : ∃ RR, RR = rs.map ru := ⟨_, rfl⟩
   rw [← hRR] at HPRE
   have HRR := hide hRR
   have hrl : RR.length = m := by rw [hRR, List.length_map]; exact HM.out.symm
   have HRL := hide hrl
   clear hRR hrl
   go_loopw [3, 6] (fun s3 s wr => ∃ (j : Nat) (z3 : Value), j ≤ m ∧ s = .int .i64 (j : Int) ∧ z3 = s3 ∧ wr.ownsRow B.heap.size 5 1 z3 (pre ++ Wr.encL Wr.encR (RR.take j)).length (BV (pre ++ Wr.encL Wr.encR (RR.take j))) ∧ Below B.heap.size B wr) (fun _ s _ => m - (intOf s).toNat)
   case atStart => exact ⟨0, v2, by omega, rfl, rfl, by rw [List.take_zero, Wr.encL_nil, List.append_nil]; exact HO2.out, HB2.out⟩
   case round =>
    obtain ⟨j, z3, hj, rfl, rfl, hown, hbel⟩ := hrel
    obtain ⟨wq, rfl⟩ : ∃ wq, wq = wr := ⟨wr, rfl⟩
    have HQ := hide hown
    have HBQ := hide hbel
    have hqs := hbel.size
    have hj0 : (0 : Int) ≤ (j : Int) := by omega
    by_cases hlt : (j : Int) < (m : Int)
    ·have hjr : j < rs.length := by have := HM.out; omega
     have hjR : j < RR.length := by have := HRL.out; omega
     obtain ⟨ad, rfl, hab, hx0, hx1, hx2, hx3⟩ := ruleX_fields HRK.out j hjr
     have hgs : w.heap.size ≤ B.heap.size := hws
     have HX0 := hide (fun (W : World) (hb : Below B.heap.size B W) => (show W.cell? (ad.add (j * 3)) = some (.string (S rs[j].text)) from by rw [hb.cell (block_lt_of_cell hx0)]; exact hx0))
     have HX1 := hide (fun (W : World) (hb : Below B.heap.size B W) => (show W.cell? ⟨(ad.add (j * 3)).block, (ad.add (j * 3)).off + 1, none⟩ = some (.int .i64 rs[j].wh) from by rw [hb.cell (block_lt_of_cell hx1)]; exact hx1))
     have HX2 := hide (fun (W : World) (hb : Below B.heap.size B W) => (show W.cell? ⟨(ad.add (j * 3)).block, (ad.add (j * 3)).off + 2, none⟩ = some (.slice rs[j].cells.ad rs[j].cells.l.length rs[j].cells.c) from by rw [hb.cell (block_lt_of_cell hx2)]; exact hx2))
     obtain ⟨⟨hrd, hrc⟩, hwh⟩ := HRK.out.2 rs[j] (List.getElem_mem hjr)
     have HCV := hide (fun (W : World) (hb : Below B.heap.size B W) => (show (convert 23 9 (.slice rs[j].cells.ad rs[j].cells.l.length rs[j].cells.c)).run Tryd.prog W = .ok (.string (S rs[j].cells.l)) W from run_conv_reads ((hrd.more hgs).below hb) 23 9 5 rs[j].cells.c Tryd.underlying23 Tryd.underlying5 Tryd.underlying9))
     have HST := hide (show Wr.encL Wr.encR (RR.take (j + 1)) = Wr.encL Wr.encR (RR.take j) ++ (Wr.encB rs[j].text ++ (Wr.enc rs[j].wh ++ Wr.encB rs[j].cells.l)) from by
      rw [Wr.encL_take Wr.encR RR j hjR, ← encR_ru]
      congr 2
      have h1 : RR = rs.map ru := HRR.out
      subst h1
      rw [List.getElem_map])
     have hle := Wr.encL_take_le Wr.encR RR (j + 1)
     have hk1 := HKL1.out
     rw [HPRE.out, List.length_append] at hk1
     rw [HST.out, List.length_append, List.length_append, List.length_append] at hle
     have htl : rs[j].text.length ≤ 1099511627776 := by have := Wr.encB_len rs[j].text; omega
     have hcl2 : rs[j].cells.l.length ≤ 1099511627776 := by have := Wr.encB_len rs[j].cells.l; omega
     have HT := hide (fun W => refBytes_any rs[j].text W htl)
     have HU := hide (fun W => refBytes_any rs[j].cells.l W hcl2)
     have HW := hide (fun W => refInt_any rs[j].wh W hwh)
     simp only [← encB_is] at HT HU
     obtain ⟨cur, hcur⟩ : ∃ cur, cur = pre ++ Wr.encL Wr.encR (RR.take j) := ⟨_, rfl⟩
     have hcl3 : cur.length + (Wr.encB rs[j].text).length + (Wr.enc rs[j].wh).length + (Wr.encB rs[j].cells.l).length ≤ 1099511627700 := by rw [hcur, List.length_append]; omega
     have HCUR := hide (show pre ++ Wr.encL Wr.encR (RR.take (j + 1)) = cur ++ Wr.encB rs[j].text ++ Wr.enc rs[j].wh ++ Wr.encB rs[j].cells.l from by rw [HST.out, hcur]; simp only [List.append_assoc])
     rw [← hcur] at HQ
     have hc0 := HX0.out wq hbel
     have HLT := hide (show j + 1 ≤ m by omega)
     clear hown hbel hx0 hx1 hx2 hx3 hrd hrc hwh hle hk1 htl hcl2 hcur hjR HST HKE
     generalize Wr.encB rs[j].text = e0 at *
     generalize Wr.enc rs[j].wh = e1 at *
     generalize Wr.encB rs[j].cells.l = e2 at *
     generalize rs[j].cells.l.length = l2 at *
     generalize S rs[j].text = s0 at *
     generalize S rs[j].cells.l = s2 at *
     generalize rs[j].cells.ad = a2 at *
     generalize rs[j].cells.c = c2 at *
     generalize rs[j].wh = wh at *
     clear hjr
     go_wp2_with (first
      | (go_at_call 27; (with_reducible refine (unhide HT _).mono ?_); rintro e w4 ⟨v4, rfl, hown4, hb4⟩; have HN4 := hide hown4; have HO4 := hide (own_below HQ.out hb4); have HB4 := hide (HBQ.out.trans (hb4.mono hqs)); clear hown4 hb4)
      | (at_builtin; refine wpList_push rfl (.tmp 27) (.tmp 33) rfl rfl B.heap.size wq.heap.size _ v4 cur e0 rfl HO4.out rfl HN4.out (by omega) HB4.out.size ?_; intro v5 w5 hown5 hb5; have HO5 := hide hown5; have HB5 := hide (HB4.out.trans hb5); have hc1 := HX1.out w5 HB5.out; clear hown5 hb5)
      | (go_at_call 26; (with_reducible refine (unhide HW _).mono ?_); rintro e w6 ⟨v6, rfl, hown6, hb6⟩; have HN6 := hide hown6; have HO6 := hide (own_below HO5.out hb6); have HB6 := hide (HB5.out.trans (hb6.mono HB5.out.size)); clear hown6 hb6)
      | (at_builtin; refine wpList_push rfl (.tmp 35) (.tmp 41) rfl rfl B.heap.size w5.heap.size _ v6 (cur ++ e0) e1 rfl HO6.out rfl HN6.out (by rw [List.length_append]; omega) HB6.out.size ?_; intro v7 w7 hown7 hb7; have HO7 := hide hown7; have HB7 := hide (HB6.out.trans hb7); have hc2 := HX2.out w7 HB7.out; have hcv := HCV.out w7 HB7.out; clear hown7 hb7)
      | (go_at_call 27; (with_reducible refine (unhide HU _).mono ?_); rintro e w8 ⟨v8, rfl, hown8, hb8⟩; have HN8 := hide hown8; have HO8 := hide (own_below HO7.out hb8); have HB8 := hide (HB7.out.trans (hb8.mono HB7.out.size)); clear hown8 hb8)
      | (at_builtin; refine wpList_push rfl (.tmp 43) (.tmp 50) rfl rfl B.heap.size w7.heap.size _ v8 (cur ++ e0 ++ e1) e2 rfl HO8.out rfl HN8.out (by rw [List.length_append, List.length_append]; omega) HB8.out.size ?_; intro v9 w9 hown9 hb9; have HO9 := hide hown9; have HB9 := hide (HB8.out.trans hb9); clear hown9 hb9))
     exact ⟨⟨j + 1, v9, HLT.out, by go_num, rfl, by rw [HCUR.out]; exact HO9.out, HB9.out⟩, by have := HLT.out; simp only [intOf]; omega⟩
    ·obtain rfl : j = m := by omega
     have HFIN := hide (show wq.ownsRow B.heap.size 5 1 z3 ek1.length (BV ek1) from by
      have h := hown
      rw [List.take_of_length_le (by have := HRL.out; omega), ← HPRE.out] at h
      exact h)
     clear hown hbel HQ
     go_wp2
     exact ⟨⟨k + 1, z3, hk3, by go_num, rfl, by rw [← HEK1.out]; exact HFIN.out, HBQ.out⟩, by simp only [intOf]; omega⟩
  ·obtain rfl : k = 2 := by omega
   have hwb := HWB.out
   have HCELLS := hide (fun j => (BT.out.below hbel BT.out.lt).cell j)
   have hcd : wd.cell? ⟨gb, 2, none⟩ = some (.slice t.dig.ad t.dig.l.length t.dig.c) := by rw [HCELLS.out, hcs]; rfl
   have hcc : wd.cell? ⟨gb, 3, none⟩ = some (.slice t.cap.ad t.cap.l.length t.cap.c) := by rw [HCELLS.out, hcs]; rfl
   have hcn : wd.cell? ⟨gb, 4, none⟩ = some (.slice t.num.ad t.num.l.length t.num.c) := by rw [HCELLS.out, hcs]; rfl
   have hcf : wd.cell? ⟨gb, 5, none⟩ = some (.slice t.fin.ad t.fin.l.length t.fin.c) := by rw [HCELLS.out, hcs]; rfl
   have hcw : wd.cell? ⟨gb, 6, none⟩ = some (.slice t.sw.ad t.sw.l.length t.sw.c) := by rw [HCELLS.out, hcs]; rfl
   have HCO := hide (fun (b : Tb.Bs) (hb : BsX w w.heap.size b) => (show (convert 23 9 (.slice b.ad b.l.length b.c)).run Tryd.prog wd = .ok (.string (S b.l)) wd from run_conv_reads (((hb.1.below hwb).more hws).below hbel) 23 9 5 b.c Tryd.underlying23 Tryd.underlying5 Tryd.underlying9))
   have hod := HCO.out t.dig HD.out
   have hoc := HCO.out t.cap HC.out
   have hon := HCO.out t.num HN.out
   have hof := HCO.out t.fin HF.out
   have how := HCO.out t.sw HS.out
   have hfl := HFL.out
   unfold Wr.encN at hfl
   rw [List.length_append] at hfl
   have CS := hide (fun (W : World) (hr : Reads W W.heap.size 1 (some ⟨wd.heap.size, 0, none⟩) 5 ((fiveOf t).map VS)) => refStrings_any (some ⟨wd.heap.size, 0, none⟩) 5 5 (fiveOf t) W hr (by omega) (by omega))
   have hcs5 : (fiveOf t).map VS = [.string (S t.dig.l), .string (S t.cap.l), .string (S t.num.l), .string (S t.fin.l), .string (S t.sw.l)] := rfl
   rw [hcs5] at CS
   have HE2 := hide (show E = encK t 2 ++ Wr.encN Wr.encB (fiveOf t) from by rw [HE.out, HFV.out])
   have hk2l := HKL.out 2 (by omega)
   have hfl2 := HFL.out
   rw [show Wr.enc (fiveOf t).length ++ Wr.encL Wr.encB (fiveOf t) = Wr.encN Wr.encB (fiveOf t) from rfl] at CS
   obtain ⟨fv, hfv⟩ : ∃ fv, fv = Wr.encN Wr.encB (fiveOf t) := ⟨_, rfl⟩
   obtain ⟨k2, hk2'⟩ : ∃ k2, k2 = encK t 2 := ⟨_, rfl⟩
   rw [← hfv] at CS HE2 hfl2
   rw [← hk2'] at HE2 hk2l HO
   have HWD := hide (hwb.trans (hbel.mono hws))
   have hbs := hbel.size
   clear hfv hk2' hfl hcs5 hown hbel hwb HCK HKN HKL HFL HFV HE HCO HCELLS
   generalize S t.dig.l = s1 at *
   generalize S t.cap.l = s2 at *
   generalize S t.num.l = s3 at *
   generalize S t.fin.l = s4 at *
   generalize S t.sw.l = s5 at *
   clear hcs HD HC HN HF HS
   go_wp2_with (first
    | (go_at_call 28; refine (unhide CS _ (reads_five wd _ _ _ _ _ _)).mono ?_; rintro e w4 ⟨v4, rfl, hown4, hb4⟩; have HN4 := hide hown4; have HA4 := hide ((below_alloc wd _).trans (hb4.mono (by simp))); have HO4 := hide (own_below HO.out HA4.out); have HB4 := hide (HB.out.trans (HA4.out.mono hbs)); clear hown4 hb4)
    | (at_builtin; refine wpList_push rfl (.tmp 52) (.tmp 69) rfl rfl B.heap.size _ _ v4 k2 fv rfl HO4.out rfl HN4.out (by omega) HB4.out.size ?_; intro v5 w5 hown5 hb5; have HO5 := hide hown5; have HB5 := hide (HB4.out.trans hb5); clear hown5 hb5))
   go_ret
   refine ⟨_, rfl, ?_, HWB.out.trans (HB5.out.mono hws)⟩
   rw [HE2.out]
   exact own_lower HO5.out hws
set_option maxHeartbeats 4000000 in
set_option maxRecDepth 100000 in
theorem encode_any (v : Value) (t : Tb.Tab) (w : World) (h : TabX w w.heap.size v t) (hbig : (Wr.encT (taOf t)).length ≤ 1099511627700) :
  Calls Tryd.prog 6 #[v] w fun e w' => ∃ u, e = .returned u ∧ w'.ownsRow w.heap.size 5 1 u (Wr.encT (taOf t)).length (BV (Wr.encT (taOf t))) ∧ Below w.heap.size w w' := by
 obtain ⟨A0, A1, c0, c1, rfl, hr0, hr1, hd, hc, hn, hf, hs⟩ := h
 have HFV := hide (encT_parts t)
 have HKN := hide (encK_next t)
 have HKL := hide (fun k (hk : k ≤ 2) => (show (encK t k).length ≤ 1099511627700 from by have := encK_le t k hk; omega))
 have HFL := hide (show (Wr.encN Wr.encB (fiveOf t)).length ≤ 1099511627700 from by rw [HFV.out, List.length_append] at hbig; omega)
 obtain ⟨cs, hcs⟩ : ∃ cs : Array Value, cs = #[.slice A0 t.r0.length c0, .slice A1 t.r1.length c1, .slice t.dig.ad t.dig.l.length t.dig.c, .slice t.cap.ad t.cap.l.length t.cap.c, .slice t.num.ad t.num.l.length t.num.c, .slice t.fin.ad t.fin.l.length t.fin.c, .slice t.sw.ad t.sw.l.length t.sw.c] := ⟨_, rfl⟩
 have HR0 := hide hr0
 have HR1 := hide hr1
 have HD := hide hd
 have HC := hide hc
 have HN := hide hn
 have HF := hide hf
 have HS := hide hs
 obtain ⟨E, hE⟩ : ∃ E, E = Wr.encT (taOf t) := ⟨_, rfl⟩
 have HE := hide hE
 rw [← hE]
 clear hr0 hr1 hd hc hn hf hs hE hbig
 go_enter Tryd.func6, Tryd.ntmps6
 go_upto_region 1 with fail
 refine name_world fun B hB => ?_
 have BT := hide (show Blk B w.heap.size 29 cs by rw [← hB.out, hcs]; exact Blk.new w _ _)
 have HWB := hide (show Below w.heap.size w B by rw [← hB.out]; exact below_alloc w _)
 have hws := HWB.out.size
 clear hB
 have HO0 := hide (World.ownsRow_nil B B.heap.size 5 1)
 obtain ⟨gb, hgb⟩ : ∃ gb, gb = w.heap.size := ⟨_, rfl⟩
 rw [← hgb] at BT ⊢
 have HGB := hide hgb
 clear hgb
 have HBB := hide (Below.refl B.heap.size B)
 have HIX := hide (fun (k : Nat) (hk : k < 2) => (show ∃ A c, (∀ W, (Instr.index 27 (.agg #[.slice A0 t.r0.length c0, .slice A1 t.r1.length c1]) (.int .i64 (k : Int))).run Tryd.prog W = .ok (.agg #[.slice A (Tb.rulesN t k).length c]) W) ∧ RulesX w w.heap.size A (Tb.rulesN t k) from by
  rcases Tb.rulesN_two (t := t) hk with ⟨e0, e⟩ | ⟨e0, e⟩
  ·subst e0; rw [e]; exact ⟨A0, c0, fun W => run_index_lang0 _ _ W, HR0.out⟩
  ·subst e0; rw [e]; exact ⟨A1, c1, fun W => run_index_lang1 _ _ W, HR1.out⟩))
 have k0 : B.cell? ⟨gb, 0, none⟩ = some (.slice A0 t.r0.length c0) := by rw [BT.out.cell, hcs]; rfl
 have k1 : B.cell? ⟨gb, 1, none⟩ = some (.slice A1 t.r1.length c1) := by rw [BT.out.cell, hcs]; rfl
 go_wp2
 clear k0 k1
 go_loopw [3, 10] (fun s3 s wr => ∃ (k : Nat) (y3 : Value), k ≤ 2 ∧ s = .int .i64 (k : Int) ∧ y3 = s3 ∧ wr.ownsRow B.heap.size 5 1 y3 (encK t k).length (BV (encK t k)) ∧ Below B.heap.size B wr) (fun _ s _ => 2 - (intOf s).toNat)
 case atStart => exact ⟨0, .slice none 0 0, by omega, rfl, rfl, HO0.out, HBB.out⟩
 case round =>
  obtain ⟨k, y3, hk, rfl, rfl, hown, hbel⟩ := hrel
  obtain ⟨wd, rfl⟩ : ∃ wd, wd = wr := ⟨wr, rfl⟩
  have HO := hide hown
  have HB := hide hbel
  have hk0 : (0 : Int) ≤ (k : Int) := by omega
  by_cases hk2 : (k : Int) < 2
  ·obtain ⟨Ak, ck, hix, hrk⟩ := HIX.out k (by omega)
   have HRK := hide (hrk.below (show Below w.heap.size w B from HWB.out))
   have HK1 := hide (HKN.out k (by omega))
   have HKL1 := hide (HKL.out (k + 1) (by omega))
   have HKL0 := hide (HKL.out k (by omega))
   have hk3 : k + 1 ≤ 2 := by omega
   obtain ⟨rs, hrs⟩ : ∃ rs, rs = Tb.rulesN t k := ⟨_, rfl⟩
   rw [← hrs] at HK1 HRK hix
   obtain ⟨m, hm⟩ : ∃ m, m = rs.length := ⟨_, rfl⟩
   have HM := hide hm
   rw [← hm] at hix
   obtain ⟨ek, hek⟩ : ∃ ek, ek = encK t k := ⟨_, rfl⟩
   obtain ⟨ek1, hek1⟩ : ∃ ek1, ek1 = encK t (k + 1) := ⟨_, rfl⟩
   rw [← hek, ← hek1] at HK1
   rw [← hek] at HO HKL0
   rw [← hek1] at HKL1
   have HEK1 := hide hek1
   have HKE := hide (show ek1 = ek ++ (Wr.enc (m : Int) ++ Wr.encL Wr.encR (rs.map ru)) from by rw [HK1.out, hm]; unfold Wr.encN; rw [List.length_map])
   have hmx : m ≤ 1099511627700 := by
    have h1 := HKL1.out
    have h2 := Wr.encL_least (size := 3) (e := Wr.encR) (ok := fun _ => True) (fun x _ => by
     show 3 ≤ (Wr.encB x.1 ++ (Wr.enc x.2.1 ++ Wr.encB x.2.2)).length
     rw [List.length_append, List.length_append, encB_is, encB_is, List.length_append, List.length_append]
     have := Wr.enc_pos x.2.1
     have := Wr.enc_pos (x.1.length : Int)
     have := Wr.enc_pos (x.2.2.length : Int)
     omega) (rs.map ru) (fun _ _ => trivial)
    rw [HKE.out, List.length_append, List.length_append] at h1
    rw [List.length_map, ← hm] at h2
    omega
   have hmi : (m : Int) ≤ 1099511627700 := by omega
   have HEI := hide (fun W => int_any (m : Int) W (by unfold Wr.inI; omega))
   have HLY := hide (show (ek ++ Wr.enc (m : Int)).length ≤ 1099511627700 from by have h1 := HKL1.out; rw [HKE.out, ← List.append_assoc, List.length_append] at h1; omega)
   have hlp := HLY.out
   rw [List.length_append] at hlp
   have hbs := hbel.size
   clear hown hbel hrk hrs hm hek hek1 HIX HKN HKL
   generalize Wr.enc (m : Int) = y at *
   go_upto_region 5 with fail
   refine name_world fun X hX => ?_
   have XB := hide (show Blk X wd.heap.size 26 #[.slice Ak m ck] by rw [← hX.out]; exact Blk.new wd _ _)
   have HXB := hide (show Below wd.heap.size wd X by rw [← hX.out]; exact below_alloc wd _)
   have HX := hide (HB.out.trans (HXB.out.mono hbs))
   have HOX := hide (own_below HO.out HXB.out)
   have hxs := HX.out.size
   have NEX := hide (own_ne HO.out (Nat.le_refl _))
   obtain ⟨gx, hgx⟩ : ∃ gx, gx = wd.heap.size := ⟨_, rfl⟩
   rw [← hgx] at XB NEX ⊢
   have e0 : X.cell? ⟨gx, 0, none⟩ = some (.slice Ak m ck) := XB.out.cell 0
   clear hX hgx hix
   go_wp2_with (first
    | (go_at_call 23; (with_reducible refine (unhide HEI _).mono ?_); rintro e w1 ⟨v1, rfl, hown1, hb1⟩; have HO1 := hide hown1; have HP1 := hide (own_below HOX.out hb1); have HB1 := hide (HX.out.trans (hb1.mono hxs)); have XB1 := hide (XB.out.below hb1 XB.out.lt); clear hown1 hb1)
    | (at_builtin; refine wpList_pushG rfl (.tmp 13) (.tmp 17) rfl rfl B.heap.size _ _ v1 ek y rfl HP1.out rfl HO1.out (by omega) HB1.out.size ?_; intro v2 w2 hown2 hgr2 hat2; have HO2 := hide hown2; have HB2 := hide (HB1.out.trans (below_grown hgr2 HP1.out HB1.out.size)); have e2 : w2.cell? ⟨gx, 0, none⟩ = some (.slice Ak m ck) := (XB1.out.grown hgr2 (Ne.symm NEX.out)).cell 0; clear hown2 hgr2 hat2))
   have HPRE := hide (show ek1 = (ek ++ y) ++ Wr.encL Wr.encR (rs.map ru) from by rw [HKE.out, List.append_assoc])
   obtain ⟨pre, hpre⟩ : ∃ pre, pre = ek ++ y := ⟨_, rfl⟩
   rw [← hpre] at HO2 HPRE
   have hw2 := HB2.out.size
   clear hpre hlp
   obtain ⟨RR, hRR⟩ : ∃ RR, RR = rs.map ru := ⟨_, rfl⟩
   rw [← hRR] at HPRE
   have HRR := hide hRR
   have hrl : RR.length = m := by rw [hRR, List.length_map]; exact HM.out.symm
   have HRL := hide hrl
   clear hRR hrl
   clear e2
   go_loopw [3, 22] (fun s3 s wr => ∃ (j : Nat) (z3 : Value), j ≤ m ∧ s = .int .i64 (j : Int) ∧ z3 = s3 ∧ wr.ownsRow B.heap.size 5 1 z3 (pre ++ Wr.encL Wr.encR (RR.take j)).length (BV (pre ++ Wr.encL Wr.encR (RR.take j))) ∧ Below B.heap.size B wr) (fun _ s _ => m - (intOf s).toNat)
   case atStart => exact ⟨0, v2, by omega, rfl, rfl, by rw [List.take_zero, Wr.encL_nil, List.append_nil]; exact HO2.out, HB2.out⟩
   case round =>
    obtain ⟨j, z3, hj, rfl, rfl, hown, hbel⟩ := hrel
    obtain ⟨wq, rfl⟩ : ∃ wq, wq = wr := ⟨wr, rfl⟩
    have HQ := hide hown
    have HBQ := hide hbel
    have hqs := hbel.size
    have hj0 : (0 : Int) ≤ (j : Int) := by omega
    by_cases hlt : (j : Int) < (m : Int)
    ·have hjr : j < rs.length := by have := HM.out; omega
     have hjR : j < RR.length := by have := HRL.out; omega
     obtain ⟨ad, rfl, hab, hx0, hx1, hx2, hx3⟩ := ruleX_fields HRK.out j hjr
     have hgs : w.heap.size ≤ B.heap.size := hws
     have HEC := hide (show ∀ (i : Nat) (v : Value), ([.string (S rs[j].text), .int .i64 rs[j].wh, .slice rs[j].cells.ad rs[j].cells.l.length rs[j].cells.c] : List Value)[i]? = some v → wq.cell? ((ad.add (j * 3)).add i) = some v from fun i v hv => by
      rw [hbel.cell (by rw [block_of_add, block_of_add]; omega)]
      exact hx3 i v hv)
     obtain ⟨⟨hrd, hrc⟩, hwh⟩ := HRK.out.2 rs[j] (List.getElem_mem hjr)
     have HCV := hide (fun (W : World) (hb : Below B.heap.size B W) => (show (convert 23 9 (.slice rs[j].cells.ad rs[j].cells.l.length rs[j].cells.c)).run Tryd.prog W = .ok (.string (S rs[j].cells.l)) W from run_conv_reads ((hrd.more hgs).below hb) 23 9 5 rs[j].cells.c Tryd.underlying23 Tryd.underlying5 Tryd.underlying9))
     have HST := hide (show Wr.encL Wr.encR (RR.take (j + 1)) = Wr.encL Wr.encR (RR.take j) ++ (Wr.encB rs[j].text ++ (Wr.enc rs[j].wh ++ Wr.encB rs[j].cells.l)) from by
      rw [Wr.encL_take Wr.encR RR j hjR, ← encR_ru]
      congr 2
      have h1 : RR = rs.map ru := HRR.out
      subst h1
      rw [List.getElem_map])
     have hle := Wr.encL_take_le Wr.encR RR (j + 1)
     have hk1 := HKL1.out
     rw [HPRE.out, List.length_append] at hk1
     rw [HST.out, List.length_append, List.length_append, List.length_append] at hle
     have htl : rs[j].text.length ≤ 1099511627776 := by have := Wr.encB_len rs[j].text; omega
     have hcl2 : rs[j].cells.l.length ≤ 1099511627776 := by have := Wr.encB_len rs[j].cells.l; omega
     have HT := hide (fun W => bytes_anyX rs[j].text W htl)
     have HU := hide (fun W => bytes_anyX rs[j].cells.l W hcl2)
     have HW := hide (fun W => int_any rs[j].wh W hwh)
     simp only [← encB_is] at HT HU
     obtain ⟨cur, hcur⟩ : ∃ cur, cur = pre ++ Wr.encL Wr.encR (RR.take j) := ⟨_, rfl⟩
     have hcl3 : cur.length + (Wr.encB rs[j].text).length + (Wr.enc rs[j].wh).length + (Wr.encB rs[j].cells.l).length ≤ 1099511627700 := by rw [hcur, List.length_append]; omega
     have HCUR := hide (show pre ++ Wr.encL Wr.encR (RR.take (j + 1)) = cur ++ Wr.encB rs[j].text ++ Wr.enc rs[j].wh ++ Wr.encB rs[j].cells.l from by rw [HST.out, hcur]; simp only [List.append_assoc])
     rw [← hcur] at HQ
     have HLT := hide (show j + 1 ≤ m by omega)
     clear hown hbel hx0 hx1 hx2 hx3 hrd hrc hwh hle hk1 htl hcl2 hcur hjR HST HKE
     generalize Wr.encB rs[j].text = e0 at *
     generalize Wr.enc rs[j].wh = e1 at *
     generalize Wr.encB rs[j].cells.l = e2 at *
     generalize rs[j].cells.l.length = l2 at *
     generalize S rs[j].text = s0 at *
     generalize S rs[j].cells.l = s2 at *
     generalize rs[j].cells.ad = a2 at *
     generalize rs[j].cells.c = c2 at *
     generalize rs[j].wh = wh at *
     clear hjr
     go_upto_region 9 with (with_reducible refine wpList_load_at rfl 45 (.tmp 24) rfl (ad.add (j * 3)) rfl [.string s0, .int .i64 wh, .slice a2 l2 c2] _ HEC.out Tryd.underlying45 rfl ?c1 ?_)
     case c1 => exact ruleInfo
     refine name_world fun Y hY => ?_
     have YB := hide (show Blk Y wq.heap.size 45 #[.string s0, .int .i64 wh, .slice a2 l2 c2] by rw [← hY.out]; exact Blk.new wq _ _)
     have HYB := hide (show Below wq.heap.size wq Y by rw [← hY.out]; exact below_alloc wq _)
     have HBY := hide (HBQ.out.trans (HYB.out.mono hqs))
     have HOY := hide (own_below HQ.out HYB.out)
     have hys := HBY.out.size
     have NEY := hide (own_ne HQ.out (Nat.le_refl _))
     have hyq : wq.heap.size < Y.heap.size := YB.out.lt
     obtain ⟨gy, hgy⟩ : ∃ gy, gy = wq.heap.size := ⟨_, rfl⟩
     rw [← hgy] at YB NEY hyq ⊢
     have f0 : Y.cell? ⟨gy, 0, none⟩ = some (.string s0) := YB.out.cell 0
     clear hY hgy HEC
     go_wp2_with (first
      | (go_at_call 24; (with_reducible refine (unhide HT _).mono ?_); rintro e w4 ⟨v4, rfl, hown4, hb4⟩; have HN4 := hide hown4; have HO4 := hide (own_below HOY.out hb4); have HB4 := hide (HBY.out.trans (hb4.mono hys)); have YB4 := hide (YB.out.below hb4 YB.out.lt); have hs4 := hb4.size; clear hown4 hb4)
      | (at_builtin; refine wpList_pushG rfl (.tmp 26) (.tmp 29) rfl rfl B.heap.size _ _ v4 cur e0 rfl HO4.out rfl HN4.out (by omega) HB4.out.size ?_; intro v5 w5 hown5 hgr5 hat5; have HO5 := hide hown5; have HB5 := hide (HB4.out.trans (below_grown hgr5 HO4.out HB4.out.size)); have YB5 := hide (YB4.out.grown hgr5 (Ne.symm NEY.out)); have hc1 : w5.cell? ⟨gy, 1, none⟩ = some (.int .i64 wh) := YB5.out.cell 1; have NE5 := hide (show v5.ownBlock ≠ some gy from by rcases hat5 with h | h <;> rw [h]; exact NEY.out; intro he; injection he with he; omega); clear hown5 hgr5 hat5)
      | (go_at_call 23; (with_reducible refine (unhide HW _).mono ?_); rintro e w6 ⟨v6, rfl, hown6, hb6⟩; have HN6 := hide hown6; have HO6 := hide (own_below HO5.out hb6); have HB6 := hide (HB5.out.trans (hb6.mono HB5.out.size)); have YB6 := hide (YB5.out.below hb6 YB5.out.lt); clear hown6 hb6)
      | (at_builtin; refine wpList_pushG rfl (.tmp 31) (.tmp 34) rfl rfl B.heap.size _ _ v6 (cur ++ e0) e1 rfl HO6.out rfl HN6.out (by rw [List.length_append]; omega) HB6.out.size ?_; intro v7 w7 hown7 hgr7 hat7; have HO7 := hide hown7; have HB7 := hide (HB6.out.trans (below_grown hgr7 HO6.out HB6.out.size)); have hc2 : w7.cell? ⟨gy, 2, none⟩ = some (.slice a2 l2 c2) := (YB6.out.grown hgr7 (Ne.symm NE5.out)).cell 2; have hcv := HCV.out w7 HB7.out; clear hown7 hgr7 hat7)
      | (go_at_call 24; (with_reducible refine (unhide HU _).mono ?_); rintro e w8 ⟨v8, rfl, hown8, hb8⟩; have HN8 := hide hown8; have HO8 := hide (own_below HO7.out hb8); have HB8 := hide (HB7.out.trans (hb8.mono HB7.out.size)); clear hown8 hb8)
      | (at_builtin; refine wpList_push rfl (.tmp 36) (.tmp 40) rfl rfl B.heap.size _ _ v8 (cur ++ e0 ++ e1) e2 rfl HO8.out rfl HN8.out (by rw [List.length_append, List.length_append]; omega) HB8.out.size ?_; intro v9 w9 hown9 hb9; have HO9 := hide hown9; have HB9 := hide (HB8.out.trans hb9); clear hown9 hb9))
     exact ⟨⟨j + 1, v9, HLT.out, by go_num, rfl, by rw [HCUR.out]; exact HO9.out, HB9.out⟩, by have := HLT.out; simp only [intOf]; omega⟩
    ·obtain rfl : j = m := by omega
     have HFIN := hide (show wq.ownsRow B.heap.size 5 1 z3 ek1.length (BV ek1) from by
      have h := hown
      rw [List.take_of_length_le (by have := HRL.out; omega), ← HPRE.out] at h
      exact h)
     clear hown hbel HQ
     go_wp2
     exact ⟨⟨k + 1, z3, hk3, by go_num, rfl, by rw [← HEK1.out]; exact HFIN.out, HBQ.out⟩, by simp only [intOf]; omega⟩
  ·obtain rfl : k = 2 := by omega
   have hwb := HWB.out
   have HCELLS := hide (fun j => (BT.out.below hbel BT.out.lt).cell j)
   have hcd : wd.cell? ⟨gb, 2, none⟩ = some (.slice t.dig.ad t.dig.l.length t.dig.c) := by rw [HCELLS.out, hcs]; rfl
   have hcc : wd.cell? ⟨gb, 3, none⟩ = some (.slice t.cap.ad t.cap.l.length t.cap.c) := by rw [HCELLS.out, hcs]; rfl
   have hcn : wd.cell? ⟨gb, 4, none⟩ = some (.slice t.num.ad t.num.l.length t.num.c) := by rw [HCELLS.out, hcs]; rfl
   have hcf : wd.cell? ⟨gb, 5, none⟩ = some (.slice t.fin.ad t.fin.l.length t.fin.c) := by rw [HCELLS.out, hcs]; rfl
   have hcw : wd.cell? ⟨gb, 6, none⟩ = some (.slice t.sw.ad t.sw.l.length t.sw.c) := by rw [HCELLS.out, hcs]; rfl
   have HCO := hide (fun (b : Tb.Bs) (hb : BsX w w.heap.size b) => (show (convert 23 9 (.slice b.ad b.l.length b.c)).run Tryd.prog wd = .ok (.string (S b.l)) wd from run_conv_reads (((hb.1.below hwb).more hws).below hbel) 23 9 5 b.c Tryd.underlying23 Tryd.underlying5 Tryd.underlying9))
   have hod := HCO.out t.dig HD.out
   have hoc := HCO.out t.cap HC.out
   have hon := HCO.out t.num HN.out
   have hof := HCO.out t.fin HF.out
   have how := HCO.out t.sw HS.out
   have hfl := HFL.out
   unfold Wr.encN at hfl
   rw [List.length_append] at hfl
   have CS := hide (fun (W : World) (hr : Reads W W.heap.size 1 (some ⟨wd.heap.size, 0, none⟩) 5 ((fiveOf t).map VS)) => strings_anyX (some ⟨wd.heap.size, 0, none⟩) 5 5 (fiveOf t) W hr (by omega) (by omega) (by omega))
   have hcs5 : (fiveOf t).map VS = [.string (S t.dig.l), .string (S t.cap.l), .string (S t.num.l), .string (S t.fin.l), .string (S t.sw.l)] := rfl
   rw [hcs5] at CS
   have HE2 := hide (show E = encK t 2 ++ Wr.encN Wr.encB (fiveOf t) from by rw [HE.out, HFV.out])
   have hk2l := HKL.out 2 (by omega)
   have hfl2 := HFL.out
   rw [show Wr.enc (fiveOf t).length ++ Wr.encL Wr.encB (fiveOf t) = Wr.encN Wr.encB (fiveOf t) from rfl] at CS
   obtain ⟨fv, hfv⟩ : ∃ fv, fv = Wr.encN Wr.encB (fiveOf t) := ⟨_, rfl⟩
   obtain ⟨k2, hk2'⟩ : ∃ k2, k2 = encK t 2 := ⟨_, rfl⟩
   rw [← hfv] at CS HE2 hfl2
   rw [← hk2'] at HE2 hk2l HO
   have HWD := hide (hwb.trans (hbel.mono hws))
   have hbs := hbel.size
   clear hfv hk2' hfl hcs5 hown hbel hwb HIX HKN HKL HFL HFV HE HCO HCELLS
   generalize S t.dig.l = s1 at *
   generalize S t.cap.l = s2 at *
   generalize S t.num.l = s3 at *
   generalize S t.fin.l = s4 at *
   generalize S t.sw.l = s5 at *
   clear hcs HD HC HN HF HS
   go_wp2_with (first
    | (go_at_call 25; refine (unhide CS _ (reads_five wd _ _ _ _ _ _)).mono ?_; rintro e w4 ⟨v4, rfl, hown4, hb4⟩; have HN4 := hide hown4; have HA4 := hide ((below_alloc wd _).trans (hb4.mono (by simp))); have HO4 := hide (own_below HO.out HA4.out); have HB4 := hide (HB.out.trans (HA4.out.mono hbs)); clear hown4 hb4)
    | (at_builtin; refine wpList_push rfl (.tmp 44) (.tmp 61) rfl rfl B.heap.size _ _ v4 k2 fv rfl HO4.out rfl HN4.out (by omega) HB4.out.size ?_; intro v5 w5 hown5 hb5; have HO5 := hide hown5; have HB5 := hide (HB4.out.trans hb5); clear hown5 hb5))
   go_ret
   refine ⟨_, rfl, ?_, HWB.out.trans (HB5.out.mono hws)⟩
   rw [HE2.out]
   exact own_lower HO5.out hws
end Go.Proofs.YtjnnohghgkjhcaaDoor
namespace Go.Proofs.YtjnnohghgkjhcaaDoor.Sha
def rotr (x : UInt32) (n : UInt32) : UInt32 := x >>> n ||| x <<< (32 - n)
def K : List UInt32 := [
 0x428a2f98, 0x71374491, 0xb5c0fbcf, 0xe9b5dba5, 0x3956c25b, 0x59f111f1, 0x923f82a4, 0xab1c5ed5,
 0xd807aa98, 0x12835b01, 0x243185be, 0x550c7dc3, 0x72be5d74, 0x80deb1fe, 0x9bdc06a7, 0xc19bf174,
 0xe49b69c1, 0xefbe4786, 0x0fc19dc6, 0x240ca1cc, 0x2de92c6f, 0x4a7484aa, 0x5cb0a9dc, 0x76f988da,
 0x983e5152, 0xa831c66d, 0xb00327c8, 0xbf597fc7, 0xc6e00bf3, 0xd5a79147, 0x06ca6351, 0x14292967,
 0x27b70a85, 0x2e1b2138, 0x4d2c6dfc, 0x53380d13, 0x650a7354, 0x766a0abb, 0x81c2c92e, 0x92722c85,
 0xa2bfe8a1, 0xa81a664b, 0xc24b8b70, 0xc76c51a3, 0xd192e819, 0xd6990624, 0xf40e3585, 0x106aa070,
 0x19a4c116, 0x1e376c08, 0x2748774c, 0x34b0bcb5, 0x391c0cb3, 0x4ed8aa4a, 0x5b9cca4f, 0x682e6ff3,
 0x748f82ee, 0x78a5636f, 0x84c87814, 0x8cc70208, 0x90befffa, 0xa4506ceb, 0xbef9a3f7, 0xc67178f2]
def H0 : List UInt32 := [0x6a09e667, 0xbb67ae85, 0x3c6ef372, 0xa54ff53a, 0x510e527f, 0x9b05688c, 0x1f83d9ab, 0x5be0cd19]
def pw (l : List UInt8) : UInt32 := l.foldl (fun a c => a <<< 8 ||| c.toUInt32) 0
def s0 (x : UInt32) : UInt32 := rotr x 7 ^^^ rotr x 18 ^^^ x >>> 3
def s1 (x : UInt32) : UInt32 := rotr x 17 ^^^ rotr x 19 ^^^ x >>> 10
def word (b : List UInt8) (k : Nat) : UInt32 := pw ((b.drop (4 * k)).take 4)
def next (p : List UInt32) (t : Nat) : UInt32 := p.getD (t - 16) 0 + s0 (p.getD (t - 15) 0) + p.getD (t - 7) 0 + s1 (p.getD (t - 2) 0)
def sched (ws : List UInt32) : Nat → List UInt32
 | 0 => ws
 | n + 1 => sched ws n ++ [next (sched ws n) (16 + n)]
def words (b : List UInt8) : List UInt32 := sched ((List.range 16).map (word b)) 48
structure R where
 (a b c d e f g h : UInt32)
def stepX (s : R) (k w : UInt32) : UInt32 := s.h + (rotr s.e 6 ^^^ rotr s.e 11 ^^^ rotr s.e 25) + (s.e &&& s.f ^^^ ~~~ s.e &&& s.g) + k + w
def stepY (s : R) : UInt32 := (rotr s.a 2 ^^^ rotr s.a 13 ^^^ rotr s.a 22) + (s.a &&& s.b ^^^ s.a &&& s.c ^^^ s.b &&& s.c)
def step (s : R) (k w : UInt32) : R := ⟨stepX s k w + stepY s, s.a, s.b, s.c, s.d + stepX s k w, s.e, s.f, s.g⟩
def rounds (ws : List UInt32) (s : R) : Nat → R
 | 0 => s
 | n + 1 => step (rounds ws s n) (K.getD n 0) (ws.getD n 0)
def ofList (v : List UInt32) : R := ⟨v.getD 0 0, v.getD 1 0, v.getD 2 0, v.getD 3 0, v.getD 4 0, v.getD 5 0, v.getD 6 0, v.getD 7 0⟩
def R.list (s : R) : List UInt32 := [s.a, s.b, s.c, s.d, s.e, s.f, s.g, s.h]
def compress (v : List UInt32) (b : List UInt8) : List UInt32 := List.zipWith (· + ·) v (rounds (words b) (ofList v) 64).list
def blocks (v : List UInt32) (m : List UInt8) : Nat → List UInt32
 | 0 => v
 | n + 1 => compress (blocks v m n) ((m.drop (64 * n)).take 64)
def be8 (n : Nat) : List UInt8 := (List.range 8).map fun i => UInt8.ofNat (n / 2 ^ (56 - 8 * i))
def pad (m : List UInt8) : List UInt8 := m ++ 128 :: List.replicate ((119 - m.length % 64) % 64) 0 ++ be8 (8 * m.length % 2 ^ 64)
def bytes (v : List UInt32) : List UInt8 := v.flatMap fun x => [UInt8.ofNat (x.toNat / 2 ^ 24), UInt8.ofNat (x.toNat / 2 ^ 16), UInt8.ofNat (x.toNat / 2 ^ 8), UInt8.ofNat x.toNat]
def sum (m : List UInt8) : List UInt8 := bytes (blocks H0 (pad m) ((pad m).length / 64))
end Go.Proofs.YtjnnohghgkjhcaaDoor.Sha
namespace Go.Proofs.YtjnnohghgkjhcaaDoor
open Go.RowKit
set_option linter.unusedVariables false
set_option linter.unusedSimpArgs false
abbrev U (x : UInt32) : Value := .int .u32 (x.toNat : Int)
theorem U_xor (a b : UInt32) : bits .xor .u32 (a.toNat : Int) (b.toNat : Int) = ((a ^^^ b).toNat : Int) := by rw [u32_xor_nat _ _ a.toNat_lt b.toNat_lt, UInt32.toNat_xor]
theorem U_and (a b : UInt32) : bits .and .u32 (a.toNat : Int) (b.toNat : Int) = ((a &&& b).toNat : Int) := by rw [u32_and_nat _ _ a.toNat_lt b.toNat_lt, UInt32.toNat_and]
theorem U_or (a b : UInt32) : bits .or .u32 (a.toNat : Int) (b.toNat : Int) = ((a ||| b).toNat : Int) := by rw [u32_or_nat _ _ a.toNat_lt b.toNat_lt, UInt32.toNat_or]
theorem U_add (a b : UInt32) : ((a.toNat : Int) + (b.toNat : Int)) % 4294967296 = ((a + b).toNat : Int) := by
 rw [UInt32.toNat_add]; omega
theorem U_addw (a b : UInt32) : IntKind.u32.wrap ((a.toNat : Int) + (b.toNat : Int)) = ((a + b).toNat : Int) := by
 rw [IntKind.wrap_u32', U_add]
theorem U_shr (x : UInt32) (k : Nat) (h : k < 32) : (x.toNat : Int) / 2 ^ k = ((x >>> UInt32.ofNat k).toNat : Int) := by
 rw [UInt32.toNat_shiftRight, UInt32.toNat_ofNat', Nat.mod_eq_of_lt (show k < 2 ^ 32 by omega), Nat.mod_eq_of_lt h, Nat.shiftRight_eq_div_pow]
 simp
theorem U_shl (x : UInt32) (k : Nat) (h : k < 32) : (x.toNat : Int) * 2 ^ k % 4294967296 = ((x <<< UInt32.ofNat k).toNat : Int) := by
 rw [UInt32.toNat_shiftLeft, UInt32.toNat_ofNat', Nat.mod_eq_of_lt (show k < 2 ^ 32 by omega), Nat.mod_eq_of_lt h, Nat.shiftLeft_eq]
 simp
theorem rot_count (n s : Nat) (h1 : 1 ≤ n) (h2 : n ≤ 31) (hs : s = 32 - n) : bits .and .u64 (IntKind.u64.wrap (-(n : Int))) 31 = (s : Int) := by
 subst hs
 have H : ∀ k : Fin 32, 1 ≤ k.val → bits .and .u64 (IntKind.u64.wrap (-(k.val : Int))) 31 = ((32 - k.val : Nat) : Int) := by decide +kernel
 exact H ⟨n, by omega⟩ h1
theorem rot_is (x : UInt32) (n s : Nat) (h1 : 1 ≤ n) (h2 : n ≤ 31) (hs : s = 32 - n) :
  bits .or .u32 ((x.toNat : Int) * 2 ^ s % 4294967296) ((x.toNat : Int) / 2 ^ (32 - s)) = ((Sha.rotr x (UInt32.ofNat n)).toNat : Int) := by
 rw [U_shl x s (by omega), show 32 - s = n by omega, U_shr x n (by omega), U_or]
 unfold Sha.rotr
 rw [show (32 : UInt32) - UInt32.ofNat n = UInt32.ofNat s from by
  subst hs
  have H : ∀ k : Fin 32, (32 : UInt32) - UInt32.ofNat k.val = UInt32.ofNat (32 - k.val) := by decide +kernel
  exact H ⟨n, by omega⟩, UInt32.or_comm]
set_option maxHeartbeats 400000 in
set_option maxRecDepth 100000 in
theorem rotl_any (x : UInt32) (n s : Nat) (w : World) (h1 : 1 ≤ n) (h2 : n ≤ 31) (hs : s = 32 - n) :
  Calls Tryd.prog 86 #[U x, .int .i64 (-(n : Int))] w fun e w' => e = .returned (U (Sha.rotr x (UInt32.ofNat n))) ∧ w = w' := by
 have hx := x.toNat_lt
 have hc := rot_count n s h1 h2 hs
 have hs1 : 1 ≤ s := by omega
 have hs2 : s ≤ 31 := by omega
 have HS := hide (rot_is x n s h1 h2 hs)
 clear hs
 go_enter Tryd.func86, Tryd.ntmps86
 go_wp2
 go_ret
 exact ⟨by show Ending.returned (.int .u32 _) = _; rw [HS.out], rfl⟩
set_option maxHeartbeats 400000 in
set_option maxRecDepth 100000 in
theorem rotr_any (x : UInt32) (n : Nat) (w : World) (h1 : 1 ≤ n) (h2 : n ≤ 31) :
  Calls Tryd.prog 84 #[U x, .int .i64 (n : Int)] w fun e w' => e = .returned (U (Sha.rotr x (UInt32.ofNat n))) ∧ w = w' := by
 have H := hide (rotl_any x n (32 - n) w h1 h2 rfl)
 go_enter Tryd.func84, Tryd.ntmps84
 go_wp2_with (go_at_call 86; refine (unhide H).mono ?_; rintro e w' ⟨rfl, rfl⟩)
 go_ret
 exact ⟨rfl, rfl⟩
set_option maxHeartbeats 400000 in
set_option maxRecDepth 100000 in
theorem refRotr_any (x : UInt32) (n : Nat) (w : World) (h1 : 1 ≤ n) (h2 : n ≤ 31) :
  Calls Tryd.prog 82 #[U x, .int .i64 (n : Int)] w fun e w' => e = .returned (U (Sha.rotr x (UInt32.ofNat n))) ∧ ∃ k, w' = w.drewN k := by
 have hx := x.toNat_lt
 have g1 : (0 : Int) ≤ (n : Int) := by omega
 have g2 : (n : Int) ≤ 31 := by omega
 have g3 : (0 : Int) ≤ 32 - (n : Int) := by omega
 go_enter Tryd.func82, Tryd.ntmps82
 go_wp2
 have g4 : IntKind.i64.wrap (32 - (n : Int)) = 32 - (n : Int) := IntWalk.i64_in _ (by omega)
 go_quiet (fail)
 clear g4
 go_wp2
 go_ret
 refine ⟨?_, _, rfl⟩
 show Ending.returned (.int .u32 _) = _
 rw [U_shl x (32 - n) (by omega), U_shr x n (by omega), U_or]
 unfold Sha.rotr
 rw [show (32 : UInt32) - UInt32.ofNat n = UInt32.ofNat (32 - n) from by
  have H : ∀ k : Fin 32, (32 : UInt32) - UInt32.ofNat k.val = UInt32.ofNat (32 - k.val) := by decide +kernel
  exact H ⟨n, by omega⟩]
theorem rotr_2 (x : UInt32) (w : World) : Calls Tryd.prog 84 #[U x, .int .i64 2] w fun e w' => e = .returned (U (Sha.rotr x 2)) ∧ w = w' := rotr_any x 2 w (by omega) (by omega)
theorem refRotr_2 (x : UInt32) (w : World) : Calls Tryd.prog 82 #[U x, .int .i64 2] w fun e w' => e = .returned (U (Sha.rotr x 2)) ∧ ∃ k, w' = w.drewN k := refRotr_any x 2 w (by omega) (by omega)
theorem rotr_6 (x : UInt32) (w : World) : Calls Tryd.prog 84 #[U x, .int .i64 6] w fun e w' => e = .returned (U (Sha.rotr x 6)) ∧ w = w' := rotr_any x 6 w (by omega) (by omega)
theorem refRotr_6 (x : UInt32) (w : World) : Calls Tryd.prog 82 #[U x, .int .i64 6] w fun e w' => e = .returned (U (Sha.rotr x 6)) ∧ ∃ k, w' = w.drewN k := refRotr_any x 6 w (by omega) (by omega)
theorem rotr_7 (x : UInt32) (w : World) : Calls Tryd.prog 84 #[U x, .int .i64 7] w fun e w' => e = .returned (U (Sha.rotr x 7)) ∧ w = w' := rotr_any x 7 w (by omega) (by omega)
theorem refRotr_7 (x : UInt32) (w : World) : Calls Tryd.prog 82 #[U x, .int .i64 7] w fun e w' => e = .returned (U (Sha.rotr x 7)) ∧ ∃ k, w' = w.drewN k := refRotr_any x 7 w (by omega) (by omega)
theorem rotr_11 (x : UInt32) (w : World) : Calls Tryd.prog 84 #[U x, .int .i64 11] w fun e w' => e = .returned (U (Sha.rotr x 11)) ∧ w = w' := rotr_any x 11 w (by omega) (by omega)
theorem refRotr_11 (x : UInt32) (w : World) : Calls Tryd.prog 82 #[U x, .int .i64 11] w fun e w' => e = .returned (U (Sha.rotr x 11)) ∧ ∃ k, w' = w.drewN k := refRotr_any x 11 w (by omega) (by omega)
theorem rotr_13 (x : UInt32) (w : World) : Calls Tryd.prog 84 #[U x, .int .i64 13] w fun e w' => e = .returned (U (Sha.rotr x 13)) ∧ w = w' := rotr_any x 13 w (by omega) (by omega)
theorem refRotr_13 (x : UInt32) (w : World) : Calls Tryd.prog 82 #[U x, .int .i64 13] w fun e w' => e = .returned (U (Sha.rotr x 13)) ∧ ∃ k, w' = w.drewN k := refRotr_any x 13 w (by omega) (by omega)
theorem rotr_17 (x : UInt32) (w : World) : Calls Tryd.prog 84 #[U x, .int .i64 17] w fun e w' => e = .returned (U (Sha.rotr x 17)) ∧ w = w' := rotr_any x 17 w (by omega) (by omega)
theorem refRotr_17 (x : UInt32) (w : World) : Calls Tryd.prog 82 #[U x, .int .i64 17] w fun e w' => e = .returned (U (Sha.rotr x 17)) ∧ ∃ k, w' = w.drewN k := refRotr_any x 17 w (by omega) (by omega)
theorem rotr_18 (x : UInt32) (w : World) : Calls Tryd.prog 84 #[U x, .int .i64 18] w fun e w' => e = .returned (U (Sha.rotr x 18)) ∧ w = w' := rotr_any x 18 w (by omega) (by omega)
theorem refRotr_18 (x : UInt32) (w : World) : Calls Tryd.prog 82 #[U x, .int .i64 18] w fun e w' => e = .returned (U (Sha.rotr x 18)) ∧ ∃ k, w' = w.drewN k := refRotr_any x 18 w (by omega) (by omega)
theorem rotr_19 (x : UInt32) (w : World) : Calls Tryd.prog 84 #[U x, .int .i64 19] w fun e w' => e = .returned (U (Sha.rotr x 19)) ∧ w = w' := rotr_any x 19 w (by omega) (by omega)
theorem refRotr_19 (x : UInt32) (w : World) : Calls Tryd.prog 82 #[U x, .int .i64 19] w fun e w' => e = .returned (U (Sha.rotr x 19)) ∧ ∃ k, w' = w.drewN k := refRotr_any x 19 w (by omega) (by omega)
theorem rotr_22 (x : UInt32) (w : World) : Calls Tryd.prog 84 #[U x, .int .i64 22] w fun e w' => e = .returned (U (Sha.rotr x 22)) ∧ w = w' := rotr_any x 22 w (by omega) (by omega)
theorem refRotr_22 (x : UInt32) (w : World) : Calls Tryd.prog 82 #[U x, .int .i64 22] w fun e w' => e = .returned (U (Sha.rotr x 22)) ∧ ∃ k, w' = w.drewN k := refRotr_any x 22 w (by omega) (by omega)
theorem rotr_25 (x : UInt32) (w : World) : Calls Tryd.prog 84 #[U x, .int .i64 25] w fun e w' => e = .returned (U (Sha.rotr x 25)) ∧ w = w' := rotr_any x 25 w (by omega) (by omega)
theorem refRotr_25 (x : UInt32) (w : World) : Calls Tryd.prog 82 #[U x, .int .i64 25] w fun e w' => e = .returned (U (Sha.rotr x 25)) ∧ ∃ k, w' = w.drewN k := refRotr_any x 25 w (by omega) (by omega)
end Go.Proofs.YtjnnohghgkjhcaaDoor
namespace Go.Proofs.YtjnnohghgkjhcaaDoor
open Go.RowKit
set_option linter.unusedVariables false
set_option linter.unusedSimpArgs false
def UV (l : List UInt32) : List Value := l.map U
theorem UV_len (l : List UInt32) : (UV l).length = l.length := by simp [UV]
theorem UV_get (l : List UInt32) (i : Nat) (h : i < l.length) : (UV l)[i]? = some (U l[i]) := by simp [UV, h]
def wx (a b : UInt32) : UInt32 := a ^^^ b
def wa (a b : UInt32) : UInt32 := a &&& b
def wp (a b : UInt32) : UInt32 := a + b
def wn (a : UInt32) : UInt32 := ~~~ a
def ws (a : UInt32) (k : UInt32) : UInt32 := a >>> k
theorem wx_is (a b : UInt32) : bits .xor .u32 (a.toNat : Int) (b.toNat : Int) = ((wx a b).toNat : Int) := U_xor a b
theorem wa_is (a b : UInt32) : bits .and .u32 (a.toNat : Int) (b.toNat : Int) = ((wa a b).toNat : Int) := U_and a b
theorem wp_is (a b : UInt32) : ((a.toNat : Int) + (b.toNat : Int)) % 4294967296 = ((wp a b).toNat : Int) := U_add a b
theorem wp_isw (a b : UInt32) : IntKind.u32.wrap ((a.toNat : Int) + (b.toNat : Int)) = ((wp a b).toNat : Int) := U_addw a b
theorem wn_eq (a : UInt32) : (4294967295 : UInt32) ^^^ a = ~~~ a := by
 apply UInt32.toBitVec_inj.1
 rw [UInt32.toBitVec_xor, UInt32.toBitVec_not, BitVec.not_def]
 rfl
theorem wn_is (a : UInt32) : bits .xor .u32 (if IntKind.u32.signed = true then -1 else IntKind.u32.max) (a.toNat : Int) = ((wn a).toNat : Int) := by
 have := U_xor 4294967295 a
 rw [wn_eq] at this
 exact this
theorem results_cell0h {P : Program} {fn : Func} {p : Tmp} {ty : TypeId} (h : fn.results = #[.cell p ty]) (tmps : Array Value) (w : World) (a : Addr) (v : Value)
  (hp : tmps.getD p undef = .pointer (some a)) (hl : (loadVar ty a).run P w = .ok v w) : (results fn tmps).run P w = .ok v w := by
 have hp' : tmps[p]?.getD undef = .pointer (some a) := by simpa using hp
 simp [results, h, hp', asAddr, hl]
theorem below_setRowh {B g : Nat} {w0 w : World} (h : Below B w0 w) (hg : B ≤ g) (cs : Array Value) : Below B w0 (w.setRow g cs) :=
 ⟨h.os, h.tape, h.output, by simpa using h.size, fun i hi => (setRow_other w g i cs (by omega)).trans (h.block i hi)⟩
theorem name_worldh {P : Program} {c : Code} {Q : Exit → Act → World → Prop} {a : Act} {w : World} (h : ∀ W, Hid (w = W) → c.wp P Q a W) : c.wp P Q a w := h w rfl
def wst (b : List UInt8) (i : Nat) : List UInt32 := (List.range 64).map (Sha.word (b.take i))
theorem wst_len (b : List UInt8) (i : Nat) : (wst b i).length = 64 := by simp [wst]
theorem wst_zero (b : List UInt8) : wst b 0 = List.replicate 64 0 := by
 unfold wst Sha.word
 simp only [List.take_zero, List.drop_nil, List.take_nil]
 rfl
theorem zeros64 : UV (List.replicate 64 0) = List.replicate 64 (.int .u32 0) := by simp [UV, U]
theorem pw_snoc (l : List UInt8) (c : UInt8) : Sha.pw (l ++ [c]) = Sha.pw l <<< 8 ||| c.toUInt32 := by simp [Sha.pw, List.foldl_append]
theorem word_other (b : List UInt8) (i k : Nat) (h : i < b.length) (hk : k ≠ i / 4) : Sha.word (b.take (i + 1)) k = Sha.word (b.take i) k := by
 unfold Sha.word
 congr 1
 rw [List.take_succ_eq_append_getElem h]
 rcases Nat.lt_or_ge k (i / 4) with hlt | hge
 ·rw [List.drop_append_of_le_length (by rw [List.length_take]; omega), List.take_append_of_le_length (by rw [List.length_drop, List.length_take]; omega)]
 ·rw [List.drop_eq_nil_of_le (show (List.take i b).length ≤ 4 * k by rw [List.length_take]; omega), List.drop_eq_nil_of_le (by rw [List.length_append, List.length_take]; simp; omega)]
theorem word_same (b : List UInt8) (i : Nat) (h : i < b.length) : Sha.word (b.take (i + 1)) (i / 4) = Sha.word (b.take i) (i / 4) <<< 8 ||| (b[i]).toUInt32 := by
 unfold Sha.word
 rw [← pw_snoc]
 congr 1
 rw [List.take_succ_eq_append_getElem h, List.drop_append_of_le_length (by rw [List.length_take]; omega)]
 rw [List.take_of_length_le (l := List.drop (4 * (i / 4)) (List.take i b)) (by rw [List.length_drop, List.length_take]; omega)]
 rw [List.take_of_length_le (by rw [List.length_append, List.length_drop, List.length_take]; simp; omega)]
theorem wst_succ (b : List UInt8) (i : Nat) (h : i < b.length) (h64 : b.length ≤ 256) : wst b (i + 1) = (wst b i).set (i / 4) (Sha.word (b.take i) (i / 4) <<< 8 ||| (b[i]).toUInt32) := by
 apply List.ext_getElem?
 intro k
 by_cases hk : k < 64
 ·rw [List.getElem?_set]
  by_cases hki : i / 4 = k
  ·subst hki
   rw [if_pos rfl, if_pos (by rw [wst_len]; exact hk)]
   simp only [wst, List.getElem?_map, List.getElem?_range hk, Option.map_some]
   rw [word_same b i h]
  ·rw [if_neg hki]
   simp only [wst, List.getElem?_map, List.getElem?_range hk, Option.map_some]
   rw [word_other b i k h (fun e => hki e.symm)]
 ·rw [List.getElem?_eq_none (by rw [wst_len]; omega), List.getElem?_eq_none (by rw [List.length_set, wst_len]; omega)]
theorem wst_get (b : List UInt8) (i k : Nat) (h : k < 64) : (wst b i)[k]? = some (Sha.word (b.take i) k) := by
 simp only [wst, List.getElem?_map, List.getElem?_range h, Option.map_some]
theorem pw_or (x : UInt32) (c : UInt8) : bits .or .u32 ((x.toNat : Int) * 256 % 4294967296) (c.toNat : Int) = ((x <<< 8 ||| c.toUInt32).toNat : Int) := by
 have := U_shl x 8 (by omega)
 rw [show (2 : Int) ^ 8 = 256 from rfl] at this
 rw [this, show ((c.toNat : Nat) : Int) = ((c.toUInt32).toNat : Int) by simp, U_or]
 rfl
def sst (b : List UInt8) (n : Nat) : List UInt32 := Sha.sched ((List.range 16).map (Sha.word b)) n ++ List.replicate (48 - n) 0
theorem sched_len (ws : List UInt32) (n : Nat) : (Sha.sched ws n).length = ws.length + n := by
 induction n with
 | zero => rfl
 | succ n ih => simp [Sha.sched, ih]; omega
theorem sst_len (b : List UInt8) (n : Nat) (h : n ≤ 48) : (sst b n).length = 64 := by simp [sst, sched_len]; omega
theorem sst_zero (b : List UInt8) (hb : b.length = 64) : wst b 64 = sst b 0 := by
 unfold wst sst
 rw [List.take_of_length_le (by omega), show 64 = 16 + 48 from rfl, List.range_add, List.map_append, List.map_map]
 show _ = (List.range 16).map (Sha.word b) ++ List.replicate 48 0
 congr 1
 apply List.ext_getElem?
 intro k
 by_cases hk : k < 48
 ·rw [List.getElem?_map, List.getElem?_range hk, List.getElem?_replicate, if_pos hk]
  show some (Sha.word b (16 + k)) = _
  unfold Sha.word
  rw [List.drop_eq_nil_of_le (by omega)]
  rfl
 ·rw [List.getElem?_eq_none (by simp; omega), List.getElem?_eq_none (by simp; omega)]
theorem sst_get (b : List UInt8) (n j : Nat) (h : j < 16 + n) : (sst b n)[j]? = some ((Sha.sched ((List.range 16).map (Sha.word b)) n).getD j 0) := by
 have hl : j < (Sha.sched ((List.range 16).map (Sha.word b)) n).length := by rw [sched_len]; simpa using h
 unfold sst
 rw [List.getElem?_append_left hl, List.getD_eq_getElem?_getD, List.getElem?_eq_getElem hl]
 rfl
theorem sst_succ (b : List UInt8) (n : Nat) (h : n < 48) : sst b (n + 1) = (sst b n).set (16 + n) (Sha.next (Sha.sched ((List.range 16).map (Sha.word b)) n) (16 + n)) := by
 have hl : (Sha.sched ((List.range 16).map (Sha.word b)) n).length = 16 + n := by rw [sched_len]; simp
 unfold sst
 rw [List.set_append_right _ _ (by omega), hl, Nat.sub_self, show 48 - n = (48 - (n + 1)) + 1 by omega, List.replicate_succ, List.set_cons_zero]
 simp [Sha.sched]
theorem sst_full (b : List UInt8) : sst b 48 = Sha.words b := by simp [sst, Sha.words]
theorem UV_set (l : List UInt32) (i : Nat) (x : UInt32) : (UV l).set i (U x) = UV (l.set i x) := by simp [UV, List.map_set]
theorem blk_UV {w : World} {g : Nat} {t : TypeId} {l : List UInt32} (h : Blk w g t (UV l).toArray) (i : Nat) (x : UInt32) (hx : l[i]? = some x) : w.cell? ⟨g, i, none⟩ = some (U x) := by
 rw [h.cell]
 simp [UV, hx]
theorem blk_UV_set {w : World} {g : Nat} {t : TypeId} {l : List UInt32} (h : Blk w g t (UV l).toArray) (i : Nat) (x : UInt32) : Blk (w.setCell ⟨g, i, none⟩ (U x)) g t (UV (l.set i x)).toArray := by
 have := h.set_ i (U x)
 rwa [List.setIfInBounds_toArray, UV_set] at this
theorem run_index_agg (w : World) (t e : TypeId) (n : Nat) (cs : Array Value) (i : Nat) (v : Value) (ht : Tryd.prog.underlying t = some (.array n e)) (ha : ∀ W, (isAgg e).run Tryd.prog W = .ok false W) (hs : ∀ W, (sizeOf e).run Tryd.prog W = .ok 1 W)
  (hi : i < n) (hv : cs[i]? = some v) : (Instr.index t (.agg cs) (.int .i64 (i : Int))).run Tryd.prog w = .ok v w := by
 unfold Instr.index
 have h2 : (0 : Int) ≤ (i : Int) ∧ (i : Int) < (n : Int) := by omega
 have h3 : ¬ n ≤ i := by omega
 simp [asIntOf, run_underlying ht, part, ha, hs, h2, h3, hv]
theorem byteAgg (W : World) : (isAgg 5).run Tryd.prog W = .ok false W := by kernel_rfl
theorem byteOne (W : World) : (sizeOf 5).run Tryd.prog W = .ok 1 W := by kernel_rfl
theorem wordAgg (W : World) : (isAgg 64).run Tryd.prog W = .ok false W := by kernel_rfl
theorem wordOne (W : World) : (sizeOf 64).run Tryd.prog W = .ok 1 W := by kernel_rfl
theorem blockSize : (Tryd.prog.info? 66).map (·.size) = some 64 := by kernel_rfl
theorem wordsSize : (Tryd.prog.info? 128).map (·.size) = some 64 := by kernel_rfl
set_option maxHeartbeats 400000 in
set_option maxRecDepth 100000 in
theorem words_any (b : List UInt8) (w : World) (hb : b.length = 64) :
  Calls Tryd.prog 83 #[.agg (BV b).toArray] w fun e w' => e = .returned (.agg (UV (Sha.words b)).toArray) ∧ Below w.heap.size w w' := by
 have hcs : (BV b).length = 64 := by rw [BV_len]; exact hb
 have HBG := hide (BV_get b)
 generalize BV b = cs at *
 have HC := hide hcs
 have HB := hide hb
 clear hcs hb
 go_enter Tryd.func83, Tryd.ntmps83
 go_upto_region 2 with fail
 refine name_worldh fun W hW => ?_
 have H1 := hide (show W.heap[w.heap.size]? = some (.cells cs.toArray 66 (0, 0)) by rw [← hW.out]; exact ((Blk.new w _ _).alloc _).alloc _)
 have H2 := hide (show Blk W (w.heap.size + 1) 128 (UV (wst b 0)).toArray by
  rw [← hW.out, wst_zero, zeros64]
  have := (Blk.new (w.alloc (.cells cs.toArray 66)) 128 (List.replicate 64 (.int .u32 0)).toArray).alloc (.cells (List.replicate 64 (.int .u32 0)).toArray 128)
  rw [show (w.alloc (.cells cs.toArray 66)).heap.size = w.heap.size + 1 by simp] at this
  exact this)
 have H3 := hide (show Blk W (w.heap.size + 1 + 1) 128 (UV (wst b 0)).toArray by
  rw [← hW.out, wst_zero, zeros64]
  have := Blk.new ((w.alloc (.cells cs.toArray 66)).alloc (.cells (List.replicate 64 (.int .u32 0)).toArray 128)) 128 (List.replicate 64 (.int .u32 0)).toArray
  rw [show ((w.alloc (.cells cs.toArray 66)).alloc (.cells (List.replicate 64 (.int .u32 0)).toArray 128)).heap.size = w.heap.size + 1 + 1 by simp] at this
  exact this)
 have HW := hide (show Below w.heap.size w W by rw [← hW.out]; exact (((Below.refl _ _).alloc (Nat.le_refl _) _).alloc (by simp) _).alloc (by simp; omega) _)
 clear hW
 go_wp2_with (with_reducible refine wpList_load_row rfl 66 (.tmp 1) rfl w.heap.size rfl 66 cs.toArray (0, 0) _ H1.out Tryd.underlying66 rfl ?c1 ?_)
 case c1 => rw [List.size_toArray, HC.out]; exact blockSize
 go_loopw [12] (fun i wr => ∃ k : Nat, k ≤ 64 ∧ i = .int .i64 (k : Int) ∧ Blk wr (w.heap.size + 1 + 1) 128 (UV (wst b k)).toArray ∧ Blk wr (w.heap.size + 1) 128 (UV (wst b 0)).toArray ∧ Below w.heap.size w wr) (fun i _ => 64 - (intOf i).toNat)
 case atStart => exact ⟨0, Nat.zero_le _, rfl, H3.out, H2.out, HW.out⟩
 case round =>
  obtain ⟨k, hk, rfl, hB3, hB2, hbel⟩ := hrel
  by_cases hlt : k < 64
  ·have hkb : k < b.length := by have := HB.out; omega
   have hix := fun W => run_index_agg W 66 5 64 cs.toArray k _ Tryd.underlying66 byteAgg byteOne hlt (by rw [List.getElem?_toArray]; exact HBG.out k hkb)
   have hcell := blk_UV hB3 (k / 4) _ (wst_get b k (k / 4) (by omega))
   have hfz := hB3.frozen (k / 4)
   have hpw := pw_or (Sha.word (b.take k) (k / 4)) b[k]
   have HS := hide (wst_succ b k hkb (by have := HB.out; omega))
   have hby := (b[k]).toNat_lt
   have HS := HS.out
   generalize Sha.word (b.take k) (k / 4) <<< 8 ||| (b[k]).toUInt32 = nw at *
   have HS := hide HS
   generalize (b[k]).toNat = cb at *
   have H3' := hide hB3
   have H2' := hide hB2
   clear hB3 hB2
   go_wp2
   go_roundw
   case rel =>
    refine ⟨k + 1, by omega, by go_num, ?_, ?_, ?_⟩
    ·rw [HS.out]; exact blk_UV_set H3'.out _ _
    ·exact H2'.out.far (by show w.heap.size + 1 ≠ w.heap.size + 1 + 1; omega) _
    ·exact hbel.setCell (by show w.heap.size ≤ w.heap.size + 1 + 1; omega) _
   case measure => simp [intOf]; omega
  ·obtain rfl : k = 64 := by omega
   rw [show ((64 : Nat) : Int) = 64 from rfl]
   rw [sst_zero b HB.out] at hB3
   obtain ⟨wd, rfl⟩ : ∃ wd, wd = wr := ⟨wr, rfl⟩
   have H3' := hide hB3
   have H2' := hide hB2
   have HW' := hide hbel
   clear hB3 hB2 hbel
   go_wp2_with fail
   go_loopw [6] (fun i wr => ∃ n t : Nat, n ≤ 48 ∧ t = 16 + n ∧ i = .int .i64 (t : Int) ∧ Blk wr (w.heap.size + 1 + 1) 128 (UV (sst b n)).toArray ∧ Blk wr (w.heap.size + 1) 128 (UV (wst b 0)).toArray ∧ Below w.heap.size w wr) (fun i _ => 64 - (intOf i).toNat)
   case atStart => exact ⟨0, 16, Nat.zero_le _, rfl, rfl, H3'.out, H2'.out, HW'.out⟩
   case round =>
    obtain ⟨n, t, hn, htn, rfl, hB3, hB2, hbel⟩ := hrel
    by_cases hlt : t < 64
    ·have c16 := blk_UV hB3 (t - 16) _ (sst_get b n (t - 16) (by omega))
     have c15 := blk_UV hB3 (t - 15) _ (sst_get b n (t - 15) (by omega))
     have c7 := blk_UV hB3 (t - 7) _ (sst_get b n (t - 7) (by omega))
     have c2 := blk_UV hB3 (t - 2) _ (sst_get b n (t - 2) (by omega))
     have hfz := hB3.frozen t
     have hct : wr.cell? ⟨w.heap.size + 1 + 1, t, none⟩ = some (U ((sst b n)[t]'(by rw [sst_len b n hn]; exact hlt))) := blk_UV hB3 t _ (List.getElem?_eq_getElem (by rw [sst_len b n hn]; exact hlt))
     generalize (sst b n)[t]'(by rw [sst_len b n hn]; exact hlt) = old at *
     have hst := sst_succ b n (by omega)
     rw [← htn] at hst
     unfold Sha.next at hst
     generalize (Sha.sched ((List.range 16).map (Sha.word b)) n).getD (t - 16) 0 = x16 at *
     generalize (Sha.sched ((List.range 16).map (Sha.word b)) n).getD (t - 15) 0 = x15 at *
     generalize (Sha.sched ((List.range 16).map (Sha.word b)) n).getD (t - 7) 0 = x7 at *
     generalize (Sha.sched ((List.range 16).map (Sha.word b)) n).getD (t - 2) 0 = x2 at *
     have HS := hide hst
     have H3'' := hide hB3
     have H2'' := hide hB2
     have HT := hide htn
     clear hB3 hB2 hst htn
     have t16 : 16 ≤ t := by have := HT.out; omega
     have b1 : (0 : Int) ≤ (t : Int) - 16 := by omega
     have b2 : (0 : Int) ≤ (t : Int) - 15 := by omega
     have b3 : (0 : Int) ≤ (t : Int) - 7 := by omega
     have b4 : (0 : Int) ≤ (t : Int) - 2 := by omega
     have b5 : (t : Int) < 64 := by omega
     have e1 : ((t : Int) - 16).toNat = t - 16 := by omega
     have e2 : ((t : Int) - 15).toNat = t - 15 := by omega
     have e3 : ((t : Int) - 7).toNat = t - 7 := by omega
     have e4 : ((t : Int) - 2).toNat = t - 2 := by omega
     go_wp2
     have v1 : IntKind.i64.wrap ((t : Int) - 16) = (t : Int) - 16 := IntWalk.i64_in _ (by omega)
     have v2 : IntKind.i64.wrap ((t : Int) - 15) = (t : Int) - 15 := IntWalk.i64_in _ (by omega)
     have v3 : IntKind.i64.wrap ((t : Int) - 7) = (t : Int) - 7 := IntWalk.i64_in _ (by omega)
     have v4 : IntKind.i64.wrap ((t : Int) - 2) = (t : Int) - 2 := IntWalk.i64_in _ (by omega)
     go_quiet (fail)
     clear v1 v2 v3 v4
     have s3 : (x15.toNat : Int) / 8 = ((ws x15 3).toNat : Int) := by have := U_shr x15 3 (by omega); exact this
     have s10 : (x2.toNat : Int) / 1024 = ((ws x2 10).toNat : Int) := by have := U_shr x2 10 (by omega); exact this
     have rx := wx_is
     have H7 := hide (fun W => rotr_7 x15 W)
     have H18 := hide (fun W => rotr_18 x15 W)
     have H17 := hide (fun W => rotr_17 x2 W)
     have H19 := hide (fun W => rotr_19 x2 W)
     go_wp2_with (first
      | (go_at_call_of 84 (Value.int .i64 7); refine (unhide H7 _).mono ?_; rintro e w' ⟨rfl, rfl⟩)
      | (go_at_call_of 84 (Value.int .i64 18); refine (unhide H18 _).mono ?_; rintro e w' ⟨rfl, rfl⟩)
      | (go_at_call_of 84 (Value.int .i64 17); refine (unhide H17 _).mono ?_; rintro e w' ⟨rfl, rfl⟩)
      | (go_at_call_of 84 (Value.int .i64 19); refine (unhide H19 _).mono ?_; rintro e w' ⟨rfl, rfl⟩))
     have rp := wp_is
     have rpw := wp_isw
     have v1 : IntKind.i64.wrap ((t : Int) - 16) = (t : Int) - 16 := IntWalk.i64_in _ (by omega)
     have v3 : IntKind.i64.wrap ((t : Int) - 7) = (t : Int) - 7 := IntWalk.i64_in _ (by omega)
     have d1 : (16 : Int) ≤ (t : Int) := by omega
     have d2 : (7 : Int) ≤ (t : Int) := by omega
     have d3 : (t : Int) - 16 < 64 := by omega
     have d4 : (t : Int) - 7 < 64 := by omega
     have d5 : (0 : Int) ≤ (t : Int) := by omega
     have C16 : ∀ tp dr o out, ({ heap := wr.heap, tape := tp, drawn := dr, os := o, output := out } : World).cell? ⟨w.heap.size + 1 + 1, t - 16, none⟩ = some (U x16) := fun _ _ _ _ => c16
     have C7 : ∀ tp dr o out, ({ heap := wr.heap, tape := tp, drawn := dr, os := o, output := out } : World).cell? ⟨w.heap.size + 1 + 1, t - 7, none⟩ = some (U x7) := fun _ _ _ _ => c7
     go_still_tail 15, (by kernel_rfl)
     clear v1 v3
     change wpList _ _ _ _ _ (wr.drewN nq).drew
     go_wp2
     go_roundw
     case rel =>
      have ht := HT.out
      refine ⟨n + 1, t + 1, by omega, by omega, by go_num, ?_, ?_, ?_⟩
      ·rw [HS.out]; exact blk_UV_set (w := (wr.drewN nq).drew) H3''.out t _
      ·exact Blk.far (w := (wr.drewN nq).drew) H2''.out (by show w.heap.size + 1 ≠ w.heap.size + 1 + 1; omega) _
      ·exact (below_drewN hbel nq).drew.setCell (by show w.heap.size ≤ w.heap.size + 1 + 1; omega) _
     case measure => simp [intOf]; omega
    ·obtain rfl : n = 48 := by omega
     rw [sst_full] at hB3
     have hlen : (UV (Sha.words b)).length = 64 := by rw [UV_len, ← sst_full, sst_len b 48 (by omega)]
     have hlen0 : (UV (wst b 0)).length = 64 := by rw [UV_len, wst_len]
     have hone : ∀ v ∈ UV (Sha.words b), v.oneCell' = true := by
      intro v hv
      simp only [UV, List.mem_map] at hv
      obtain ⟨c, _, rfl⟩ := hv
      rfl
     have HL := hide hlen
     have HL0 := hide hlen0
     have H1' := hide hone
     have H3'' := hide (show wr.heap[w.heap.size + 1 + 1]? = some (.cells (UV (Sha.words b)).toArray 128 (0, 0)) from hB3)
     have H2'' := hide (show wr.heap[w.heap.size + 1]? = some (.cells (UV (wst b 0)).toArray 128 (0, 0)) from hB2)
     clear hB3 hB2 hlen hlen0 hone
     generalize hout : UV (Sha.words b) = out at *
     have HOUT := hide hout
     clear hout
     generalize UV (wst b 0) = zer at *
     go_wp2_with (first | (with_reducible refine wpList_load_row rfl 128 (.tmp 3) rfl (w.heap.size + 1 + 1) rfl 128 out.toArray (0, 0) _ H3''.out Tryd.underlying128 rfl ?c1 ?_) | (with_reducible refine wpList_store_row rfl 128 (.tmp 2) (.tmp 71) rfl (w.heap.size + 1) out.toArray rfl rfl 128 zer.toArray H2''.out ?d1 ?d2 ?d3 ?_))
     case c1 => rw [List.size_toArray, HL.out]; exact wordsSize
     case d1 => rw [List.size_toArray, HL.out]; exact wordsSize
     case d2 => rw [List.size_toArray, List.size_toArray, HL.out, HL0.out]
     case d3 => simpa using H1'.out
     have hload : (loadVar 128 ⟨w.heap.size + 1, 0, none⟩).run Tryd.prog (wr.setRow (w.heap.size + 1) out.toArray) = .ok (.agg out.toArray) (wr.setRow (w.heap.size + 1) out.toArray) :=
      run_loadVar_row _ _ _ _ _ _ _ (setRow_heap wr (w.heap.size + 1) _ out.toArray _ _ H2''.out) Tryd.underlying128 rfl (by rw [List.size_toArray, HL.out]; exact wordsSize)
     exact bodyPost_ret (v := .agg out.toArray) (results_cell0h Tryd.results83 _ _ ⟨w.heap.size + 1, 0, none⟩ _ rfl hload) rfl ⟨by rw [HOUT.out], below_setRowh hbel (by omega) _⟩
end Go.Proofs.YtjnnohghgkjhcaaDoor
namespace Go.Proofs.YtjnnohghgkjhcaaDoor
open Go.RowKit
set_option linter.unusedVariables false
set_option linter.unusedSimpArgs false
def KLaid (w : World) : Prop := ∀ t, t < 64 → w.cell? ⟨1, t, none⟩ = some (U (Sha.K.getD t 0))
theorem KLaid.below {w w' : World} {B : Nat} (h : KLaid w) (hb : Below B w w') (hB : w.heap.size ≤ B) : KLaid w' := fun t ht => by
 have := h t ht
 have hl := block_lt_of_cell this
 rw [hb.cell (p := ⟨1, t, none⟩) (by simp at hl ⊢; omega)]
 exact this
theorem UV_one (l : List UInt32) : ∀ v ∈ UV l, v.oneCell' = true := by
 intro v hv
 simp only [UV, List.mem_map] at hv
 obtain ⟨c, _, rfl⟩ := hv
 rfl
theorem words_lenh (b : List UInt8) : (Sha.words b).length = 64 := by rw [← sst_full, sst_len b 48 (by omega)]
theorem mix_get (Z v : List UInt32) (hZ : Z.length = 8) (hv : v.length = 8) (k : Nat) (hk : k < 8) : (Z.take k ++ v.drop k)[k]? = some (v.getD k 0) := by
 rw [List.getElem?_append_right (by rw [List.length_take]; omega), List.length_take, show k - min k Z.length = 0 by omega, List.getElem?_drop]
 simp [List.getD, hv, hk]
theorem mix_set (Z v : List UInt32) (hZ : Z.length = 8) (hv : v.length = 8) (k : Nat) (hk : k < 8) : (Z.take k ++ v.drop k).set k (Z.getD k 0) = Z.take (k + 1) ++ v.drop (k + 1) := by
 have hl : (Z.take k).length = k := by rw [List.length_take]; omega
 rw [List.set_append_right _ _ (by omega), hl, Nat.sub_self, List.drop_eq_getElem_cons (by omega : k < v.length), List.set_cons_zero, List.take_succ_eq_append_getElem (by omega : k < Z.length), List.append_assoc]
 simp [List.getD, hZ, hk]
theorem zip_get (v r : List UInt32) (hv : v.length = 8) (hr : r.length = 8) (k : Nat) (hk : k < 8) : (List.zipWith (· + ·) v r).getD k 0 = v.getD k 0 + r.getD k 0 := by
 simp [List.getD, List.getElem?_zipWith, hv, hr, hk]
theorem zip_len (v r : List UInt32) (hv : v.length = 8) (hr : r.length = 8) : (List.zipWith (· + ·) v r).length = 8 := by simp [hv, hr]
theorem UV_items (l : List UInt32) (k : Nat) (h : k < l.length) : (UV l).toArray[k]? = some (U (l.getD k 0)) := by
 simp [UV, List.getD, h]
theorem valueSize : (Tryd.prog.info? 65).map (·.size) = some 8 := by kernel_rfl
set_option maxHeartbeats 400000 in
set_option maxRecDepth 100000 in
theorem compress_any (v : List UInt32) (b : List UInt8) (w : World) (hv : v.length = 8) (hb : b.length = 64) (hK : KLaid w) :
  Calls Tryd.prog 67 #[.agg (UV v).toArray, .agg (BV b).toArray] w fun e w' => e = .returned (.agg (UV (Sha.compress v b)).toArray) ∧ Below w.heap.size w w' := by
 have HWD := hide (fun W => words_any b W hb)
 have hcs : (BV b).length = 64 := by rw [BV_len]; exact hb
 have hwl := words_lenh b
 have hdef : Sha.compress v b = List.zipWith (· + ·) v (Sha.rounds (Sha.words b) (Sha.ofList v) 64).list := rfl
 have HDEF := hide hdef
 clear hdef
 generalize Sha.words b = ws at *
 generalize BV b = cs at *
 have HC := hide hcs
 have HV := hide hv
 have HWL := hide hwl
 have HK := hide hK
 clear hcs hb hv hwl hK
 go_enter Tryd.func67, Tryd.ntmps67
 go_upto_region 1 with fail
 refine name_worldh fun W hW => ?_
 have H2 := hide (show Blk W w.heap.size 65 (UV v).toArray by rw [← hW.out]; exact ((Blk.new w _ _).alloc _).alloc _)
 have H3 := hide (show W.heap[w.heap.size + 1]? = some (.cells cs.toArray 66 (0, 0)) by
  rw [← hW.out]
  have := (Blk.new (w.alloc (.cells (UV v).toArray 65)) 66 cs.toArray).alloc (.cells (List.replicate 8 (.int .u32 0)).toArray 65)
  rw [show (w.alloc (.cells (UV v).toArray 65)).heap.size = w.heap.size + 1 by simp] at this
  exact this)
 have H4 := hide (show Blk W (w.heap.size + 1 + 1) 65 (List.replicate 8 (.int .u32 0)).toArray by
  rw [← hW.out]
  have := Blk.new ((w.alloc (.cells (UV v).toArray 65)).alloc (.cells cs.toArray 66)) 65 (List.replicate 8 (.int .u32 0)).toArray
  rw [show ((w.alloc (.cells (UV v).toArray 65)).alloc (.cells cs.toArray 66)).heap.size = w.heap.size + 1 + 1 by simp] at this
  exact this)
 have HW := hide (show Below w.heap.size w W by rw [← hW.out]; exact (((Below.refl _ _).alloc (Nat.le_refl _) _).alloc (by simp) _).alloc (by simp; omega) _)
 have hsz : W.heap.size = w.heap.size + 1 + 1 + 1 := by rw [← hW.out]; simp
 have HSZ := hide hsz
 clear hW hsz
 go_wp2_with (first
  | (with_reducible refine wpList_load_row rfl 66 (.tmp 3) rfl (w.heap.size + 1) rfl 66 cs.toArray (0, 0) _ H3.out Tryd.underlying66 rfl ?c1 ?_)
  | (go_at_call 83; refine (unhide HWD _).mono ?_; rintro e w1 ⟨rfl, hb1⟩; have HB1 := hide hb1; clear hb1)
  | (with_reducible refine wpList_store_row rfl 128 (.tmp 5) (.tmp 20) rfl w1.heap.size (UV ws).toArray rfl rfl 128 _ (heap_alloc_new w1 _) ?d1 ?d2 ?d3 ?_))
 case c1 => rw [List.size_toArray, HC.out]; exact blockSize
 case d1 => rw [List.size_toArray, UV_len, HWL.out]; exact wordsSize
 case d2 => rw [show (UV ws).toArray.size = 64 by rw [List.size_toArray, UV_len, HWL.out]]; rfl
 case d3 => simpa using UV_one ws
 rw [World.setRow_alloc_new]
 refine name_worldh fun X hX => ?_
 have hsz := HSZ.out
 have hb1 := HB1.out
 have hg5 : W.heap.size ≤ w1.heap.size := hb1.size
 have B2 := hide (show Blk X w.heap.size 65 (UV v).toArray by rw [← hX.out]; exact (H2.out.below hb1 (by omega)).alloc _)
 have B4 := hide (show Blk X (w.heap.size + 1 + 1) 65 (List.replicate 8 (.int .u32 0)).toArray by rw [← hX.out]; exact (H4.out.below hb1 (by omega)).alloc _)
 have B5 := hide (show Blk X w1.heap.size 128 (UV ws).toArray by rw [← hX.out]; exact Blk.new w1 _ _)
 have hXw : Below w.heap.size w X := by rw [← hX.out]; exact (HW.out.trans (hb1.mono (by omega))).alloc (by omega) _
 have HXK := hide (HK.out.below hXw (Nat.le_refl _))
 have HX := hide hXw
 have hg : w.heap.size + 3 ≤ w1.heap.size := by omega
 generalize w1.heap.size = g at *
 clear hX hsz hb1 hg5 hXw HWD HB1 H2 H3 H4 HW HSZ
 have c0 := blk_UV B2.out 0 (v.getD 0 0) (by have := HV.out; simp [List.getD, this])
 have c1 := blk_UV B2.out 1 (v.getD 1 0) (by have := HV.out; simp [List.getD, this])
 have c2 := blk_UV B2.out 2 (v.getD 2 0) (by have := HV.out; simp [List.getD, this])
 have c3 := blk_UV B2.out 3 (v.getD 3 0) (by have := HV.out; simp [List.getD, this])
 have c4 := blk_UV B2.out 4 (v.getD 4 0) (by have := HV.out; simp [List.getD, this])
 have c5 := blk_UV B2.out 5 (v.getD 5 0) (by have := HV.out; simp [List.getD, this])
 have c6 := blk_UV B2.out 6 (v.getD 6 0) (by have := HV.out; simp [List.getD, this])
 have c7 := blk_UV B2.out 7 (v.getD 7 0) (by have := HV.out; simp [List.getD, this])
 go_quiet (fail)
 clear c0 c1 c2 c3 c4 c5 c6 c7
 have HRS := hide (show ∀ n, Sha.rounds ws (Sha.ofList v) (n + 1) = Sha.step (Sha.rounds ws (Sha.ofList v) n) (Sha.K.getD n 0) (ws.getD n 0) from fun n => rfl)
 have HR0 := hide (show Sha.rounds ws (Sha.ofList v) 0 = Sha.ofList v from rfl)
 generalize Sha.rounds ws (Sha.ofList v) = rs at *
 go_wp2_with fail
 go_loopw [6, 7, 8, 9, 10, 11, 12, 13, 37] (fun t6 t7 t8 t9 t10 t11 t12 t13 i wr => ∃ n m : Nat, n ≤ 64 ∧ i = .int .i64 (n : Int) ∧ wr = X.drewN m ∧ t6 = U (rs n).a ∧ t7 = U (rs n).b ∧ t8 = U (rs n).c ∧ t9 = U (rs n).d ∧ t10 = U (rs n).e ∧ t11 = U (rs n).f ∧ t12 = U (rs n).g ∧ t13 = U (rs n).h) (fun _ _ _ _ _ _ _ _ i _ => 64 - (intOf i).toNat)
 case atStart => exact ⟨0, _, Nat.zero_le _, rfl, rfl, by rw [HR0.out]; rfl, by rw [HR0.out]; rfl, by rw [HR0.out]; rfl, by rw [HR0.out]; rfl, by rw [HR0.out]; rfl, by rw [HR0.out]; rfl, by rw [HR0.out]; rfl, by rw [HR0.out]; rfl⟩
 case round =>
  obtain ⟨n, m, hn, rfl, hwr, rfl, rfl, rfl, rfl, rfl, rfl, rfl, rfl⟩ := hrel
  subst hwr
  by_cases hlt : n < 64
  ·have hnext := HRS.out n
   have cK : X.cell? ⟨1, n, none⟩ = some (U (Sha.K.getD n 0)) := HXK.out n hlt
   have cW := blk_UV B5.out n (ws.getD n 0) (by have := HWL.out; simp [List.getD, this, hlt])
   generalize Sha.K.getD n 0 = kn at *
   generalize ws.getD n 0 = wn at *
   have HN := hide hnext
   generalize hrn : rs n = r at *
   have HRN := hide hrn
   clear hnext hrn
   obtain ⟨ra, rb, rc, rd, re, rf, rg, rh⟩ := r
   have n0 : (0 : Int) ≤ (n : Int) := by omega
   have n64 : (n : Int) < 64 := by omega
   have H6 := hide (fun W => rotr_6 re W)
   have H11 := hide (fun W => rotr_11 re W)
   have H25 := hide (fun W => rotr_25 re W)
   have H2 := hide (fun W => rotr_2 ra W)
   have H13 := hide (fun W => rotr_13 ra W)
   have H22 := hide (fun W => rotr_22 ra W)
   go_wp2_with fail
   have rx := wx_is
   have ra' := wa_is
   have rn := wn_is
   have rp := wp_is
   have rpw := wp_isw
   go_quiet ((first
    | (go_at_call_of 84 (Value.int .i64 6); exact quiet_add_left (unhide H6 _))
    | (go_at_call_of 84 (Value.int .i64 11); exact quiet_add_left (unhide H11 _))
    | (go_at_call_of 84 (Value.int .i64 25); exact quiet_add_left (unhide H25 _))))
   go_wp2_with (first
    | (go_at_call_of 84 (Value.int .i64 2); refine (unhide H2 _).mono ?_; rintro e w' ⟨rfl, rfl⟩)
    | (go_at_call_of 84 (Value.int .i64 13); refine (unhide H13 _).mono ?_; rintro e w' ⟨rfl, rfl⟩)
    | (go_at_call_of 84 (Value.int .i64 22); refine (unhide H22 _).mono ?_; rintro e w' ⟨rfl, rfl⟩))
   refine ⟨⟨n + 1, m + nq, by omega, by go_num, rfl, ?_, ?_, ?_, ?_, ?_, ?_, ?_, ?_⟩, by simp [intOf]; omega⟩
   all_goals (rw [HN.out]; rfl)
  ·obtain rfl : n = 64 := by omega
   rw [show ((64 : Nat) : Int) = 64 from rfl]
   generalize rs 64 = r at *
   obtain ⟨ra, rb, rc, rd, re, rf, rg, rh⟩ := r
   go_wp2_with fail
   have hrl : (Sha.R.list ⟨ra, rb, rc, rd, re, rf, rg, rh⟩).length = 8 := rfl
   have hix : ∀ (k : Nat) (hk : k < 8) (W : World), (Instr.index 65 (.agg #[U ra, U rb, U rc, U rd, U re, U rf, U rg, U rh]) (.int .i64 (k : Int))).run Tryd.prog W = .ok (U ((Sha.R.list ⟨ra, rb, rc, rd, re, rf, rg, rh⟩).getD k 0)) W := fun k hk W =>
    run_index_agg W 65 64 8 _ k _ Tryd.underlying65 wordAgg wordOne hk (UV_items (Sha.R.list ⟨ra, rb, rc, rd, re, rf, rg, rh⟩) k (by rw [hrl]; exact hk))
   have HIX := hide hix
   have hzl := zip_len v (Sha.R.list ⟨ra, rb, rc, rd, re, rf, rg, rh⟩) HV.out hrl
   have hzg := fun k hk => zip_get v (Sha.R.list ⟨ra, rb, rc, rd, re, rf, rg, rh⟩) HV.out hrl k hk
   generalize hZ : List.zipWith (· + ·) v (Sha.R.list ⟨ra, rb, rc, rd, re, rf, rg, rh⟩) = Z at *
   have HZL := hide hzl
   have HZG := hide hzg
   have HZ := hide hZ
   clear hix hrl hzl hzg hZ
   go_loopw [109] (fun i wr => ∃ k : Nat, k ≤ 8 ∧ i = .int .i64 (k : Int) ∧ Blk wr w.heap.size 65 (UV (Z.take k ++ v.drop k)).toArray ∧ Blk wr (w.heap.size + 1 + 1) 65 (List.replicate 8 (.int .u32 0)).toArray ∧ Below w.heap.size w wr) (fun i _ => 8 - (intOf i).toNat)
   case atStart => exact ⟨0, Nat.zero_le _, rfl, B2.out, B4.out, below_drewN HX.out m⟩
   case round =>
    obtain ⟨k, hk, rfl, hB2, hB4, hbel⟩ := hrel
    by_cases hlt : k < 8
    ·have hix := HIX.out k hlt
     have hcell := blk_UV hB2 k _ (mix_get Z v HZL.out HV.out k hlt)
     have hfz := hB2.frozen k
     have hst := mix_set Z v HZL.out HV.out k hlt
     rw [HZG.out k hlt] at hst
     have HS := hide hst
     have rp := wp_is
     clear hst
     have H2' := hide hB2
     have H4' := hide hB4
     clear hB2 hB4
     go_wp2
     refine ⟨⟨k + 1, by omega, by go_num, ?_, ?_, ?_⟩, by simp [intOf]; omega⟩
     ·rw [← HS.out]; exact blk_UV_set H2'.out k _
     ·exact H4'.out.far (by show w.heap.size + 1 + 1 ≠ w.heap.size; omega) _
     ·exact hbel.setCell (by show w.heap.size ≤ w.heap.size; omega) _
    ·obtain rfl : k = 8 := by omega
     rw [List.take_of_length_le (by have := HZL.out; omega), List.drop_eq_nil_of_le (by have := HV.out; omega), List.append_nil] at hB2
     have hlen : (UV Z).length = 8 := by rw [UV_len, HZL.out]
     have hone := UV_one Z
     have hfin : Sha.compress v b = Z := HDEF.out
     have HFIN := hide hfin
     have HL := hide hlen
     have H1' := hide hone
     have H2'' := hide (show wr.heap[w.heap.size]? = some (.cells (UV Z).toArray 65 (0, 0)) from hB2)
     have H4'' := hide (show wr.heap[w.heap.size + 1 + 1]? = some (.cells (List.replicate 8 (.int .u32 0)).toArray 65 (0, 0)) from hB4)
     clear hB2 hB4 hlen hone hfin
     generalize hout : UV Z = out at *
     have HOUT := hide hout
     clear hout
     go_wp2_with (first | (with_reducible refine wpList_load_row rfl 65 (.tmp 2) rfl w.heap.size rfl 65 out.toArray (0, 0) _ H2''.out Tryd.underlying65 rfl ?c1 ?_) | (with_reducible refine wpList_store_row rfl 65 (.tmp 4) (.tmp 120) rfl (w.heap.size + 1 + 1) out.toArray rfl rfl 65 _ H4''.out ?d1 ?d2 ?d3 ?_))
     case c1 => rw [List.size_toArray, HL.out]; exact valueSize
     case d1 => rw [List.size_toArray, HL.out]; exact valueSize
     case d2 => rw [List.size_toArray, List.size_toArray, HL.out]; rfl
     case d3 => simpa using H1'.out
     have hload : (loadVar 65 ⟨w.heap.size + 1 + 1, 0, none⟩).run Tryd.prog (wr.setRow (w.heap.size + 1 + 1) out.toArray) = .ok (.agg out.toArray) (wr.setRow (w.heap.size + 1 + 1) out.toArray) :=
      run_loadVar_row _ _ _ _ _ _ _ (setRow_heap wr (w.heap.size + 1 + 1) _ out.toArray _ _ H4''.out) Tryd.underlying65 rfl (by rw [List.size_toArray, HL.out]; exact valueSize)
     exact bodyPost_ret (v := .agg out.toArray) (results_cell0h Tryd.results67 _ _ ⟨w.heap.size + 1 + 1, 0, none⟩ _ rfl hload) rfl ⟨by rw [HFIN.out, HOUT.out], below_setRowh hbel (by omega) _⟩
def SCh (v : List UInt32) (blk : List UInt8) (n : Nat) : List Value := UV v ++ (BV blk ++ [.int .u64 (n : Int)])
theorem SC_lenh (v : List UInt32) (blk : List UInt8) (n : Nat) : (SCh v blk n).length = v.length + blk.length + 1 := by simp [SCh, UV_len, BV_len]; omega
theorem SC_oneh (v : List UInt32) (blk : List UInt8) (n : Nat) : ∀ x ∈ SCh v blk n, x.oneCell' = true := by
 intro x hx
 unfold SCh at hx
 rcases List.mem_append.1 hx with h | h
 ·exact UV_one v x h
 ·rcases List.mem_append.1 h with h | h
  ·exact BV_one blk x h
  ·simp at h; subst h; rfl
def setL : List Value → Nat → List Value → List Value
 | xs, _, [] => xs
 | xs, o, v :: r => setL (xs.set o v) (o + 1) r
theorem setL_append (vs : List Value) : ∀ (A X : List Value), vs.length ≤ X.length → setL (A ++ X) A.length vs = A ++ (vs ++ X.drop vs.length) := by
 induction vs with
 | nil => intro A X _; simp [setL]
 | cons v r ih =>
  intro A X h
  cases X with
  | nil => simp at h
  | cons x X =>
   simp only [setL]
   rw [List.set_append_right _ _ (Nat.le_refl _), Nat.sub_self, List.set_cons_zero]
   have := ih (A ++ [v]) X (by simpa using h)
   simp only [List.length_append, List.length_singleton, List.append_assoc, List.singleton_append, List.cons_append, List.nil_append] at this
   rw [this]
   simp
theorem Blk.setL_ {g : Nat} {t : TypeId} (vs : List Value) : ∀ {w : World} {cs : List Value} (o : Nat), Blk w g t cs.toArray → Blk (w.setCells g o vs) g t (setL cs o vs).toArray := by
 induction vs with
 | nil => intro w cs o h; exact h
 | cons v r ih =>
  intro w cs o h
  have := h.set_ o v
  rw [List.setIfInBounds_toArray] at this
  exact ih (o + 1) this
theorem Blk.part {w : World} {g : Nat} {t : TypeId} (A X B vs : List Value) (h : Blk w g t (A ++ (X ++ B)).toArray) (o : Nat) (ho : A.length = o) (hl : vs.length = X.length) : Blk (w.setCells g o vs) g t (A ++ (vs ++ B)).toArray := by
 have := Blk.setL_ vs o h
 rw [← ho, setL_append vs A (X ++ B) (by rw [List.length_append]; omega), hl, List.drop_left' rfl] at this
 rw [← ho]
 exact this
theorem Blk.range {w : World} {g : Nat} {t : TypeId} (A X B : List Value) (h : Blk w g t (A ++ (X ++ B)).toArray) (o : Nat) (ho : A.length = o) : w.rangeAt g o X := fun j v hj => by
 have hl : j < X.length := by
  rcases Nat.lt_or_ge j X.length with h | h
  ·exact h
  ·rw [List.getElem?_eq_none h] at hj; cases hj
 rw [h.cell, List.getElem?_toArray, List.getElem?_append_right (by omega), List.getElem?_append_left (by omega), ← hj]
 congr 1
 omega
theorem Blk.there_ {w : World} {g : Nat} {t : TypeId} {cs : List Value} (h : Blk w g t cs.toArray) (o n : Nat) (hn : o + n ≤ cs.length) : w.there g o n := fun j hj => by
 refine ⟨?_, h.frozen _⟩
 rw [h.cell, List.getElem?_toArray, List.getElem?_eq_getElem (by omega)]
 rfl
theorem streamSize : (Tryd.prog.info? 69).map (·.size) = some 73 := by kernel_rfl
theorem compress_len (v : List UInt32) (b : List UInt8) (hv : v.length = 8) : (Sha.compress v b).length = 8 := by unfold Sha.compress; exact zip_len _ _ hv rfl
def Z64 : List UInt8 := List.replicate 64 0
def W8 : List UInt32 := List.replicate 8 0
theorem zeroStream (W : World) : (zeroValue 69).run Tryd.prog W = .ok (.agg (SCh W8 Z64 0).toArray) W := by kernel_rfl
set_option maxHeartbeats 400000 in
set_option maxRecDepth 100000 in
theorem closed_any (v : List UInt32) (b : List UInt8) (n : Nat) (w : World) (hv : v.length = 8) (hb : b.length = 64) (hK : KLaid w) :
  Calls Tryd.prog 54 #[.agg (SCh v b n).toArray] w fun e w' => e = .returned (.agg (SCh (Sha.compress v b) Z64 n).toArray) ∧ Below w.heap.size w w' := by
 have HCP := hide (fun W hW => compress_any v b W hv hb hW)
 have hl := compress_len v b hv
 generalize Sha.compress v b = v' at *
 have HV := hide hv
 have HB := hide hb
 have HL := hide hl
 have HK := hide hK
 clear hv hb hl hK
 have HSC := hide (show SCh v b n = UV v ++ (BV b ++ [.int .u64 (n : Int)]) from rfl)
 generalize hcs : SCh v b n = cs at *
 have hcsl : cs.length = 73 := by rw [← hcs, SC_lenh, HV.out, HB.out]
 have HCL := hide hcsl
 clear hcs hcsl
 have hzs := zeroStream
 go_enter Tryd.func54, Tryd.ntmps54
 go_upto_region 1 with fail
 refine name_worldh fun W hW => ?_
 have B1 := hide (show Blk W w.heap.size 69 (UV v ++ (BV b ++ [Value.int .u64 (n : Int)])).toArray by rw [← hW.out, ← HSC.out]; exact (Blk.new w _ _).alloc _)
 have B2 := hide (show W.heap[w.heap.size + 1]? = some (.cells (SCh W8 Z64 0).toArray 69 (0, 0)) by
  rw [← hW.out]
  have := Blk.new (w.alloc (.cells cs.toArray 69)) 69 (SCh W8 Z64 0).toArray
  rw [show (w.alloc (.cells cs.toArray 69)).heap.size = w.heap.size + 1 by simp] at this
  exact this)
 have HW := hide (show Below w.heap.size w W by rw [← hW.out]; exact ((Below.refl _ _).alloc (Nat.le_refl _) _).alloc (by simp) _)
 have hWs : W.heap.size = w.heap.size + 1 + 1 := by rw [← hW.out]; simp
 have HWS := hide hWs
 have R0 := hide (Blk.range [] (UV v) _ B1.out 0 rfl)
 have R8 := hide (Blk.range (UV v) (BV b) _ B1.out 8 (by rw [UV_len, HV.out]))
 have HKW := hide (HK.out.below HW.out (Nat.le_refl _))
 clear hW hWs
 go_upto_region 2 with (first
  | (with_reducible refine wpList_load_mid rfl 65 (.tmp 3) rfl w.heap.size 0 rfl (UV v) _ R0.out Tryd.underlying65 rfl ?c1 ?_)
  | (with_reducible refine wpList_load_mid rfl 66 (.tmp 5) rfl w.heap.size 8 rfl (BV b) _ R8.out Tryd.underlying66 rfl ?c2 ?_)
  | (go_at_call 67; refine (unhide HCP W HKW.out).mono ?_; rintro e w1 ⟨rfl, hb1⟩; have HB1 := hide hb1; have T0 := hide (Blk.there_ (B1.out.below hb1 (by have := HWS.out; omega)) 0 8 (by have h1 := HV.out; simp [UV_len]; omega)); clear hb1)
  | (with_reducible refine wpList_store_mid rfl 65 (.tmp 8) (.tmp 7) rfl w.heap.size 0 (UV v').toArray rfl rfl ?d1 ?d2 ?d3 ?_))
 case c1 => rw [UV_len, HV.out]; exact valueSize
 case c2 => rw [BV_len, HB.out]; exact blockSize
 case d1 => rw [show (UV v').toArray.size = 8 by rw [List.size_toArray, UV_len, HL.out]]; exact T0.out
 case d2 => rw [List.size_toArray, UV_len, HL.out]; exact valueSize
 case d3 => exact all_oneCell_toArray (UV_one v')
 refine name_worldh fun X hX => ?_
 have hws := HWS.out
 have hb1 := HB1.out
 have C1 := hide (show Blk X w.heap.size 69 (UV v' ++ (BV b ++ [Value.int .u64 (n : Int)])).toArray by
  rw [← hX.out]; exact Blk.part [] (UV v) _ (UV v') (B1.out.below hb1 (by omega)) 0 rfl (by rw [UV_len, UV_len, HV.out, HL.out]))
 have C2 := hide (show X.heap[w.heap.size + 1]? = some (.cells (SCh W8 Z64 0).toArray 69 (0, 0)) by
  rw [← hX.out]; exact Blk.farCells _ 0 (Blk.below (show Blk W _ _ _ from B2.out) hb1 (by omega)) (by omega))
 have HX := hide (show Below w.heap.size w X by rw [← hX.out]; exact below_setCells (Nat.le_refl _) _ _ _ (HW.out.trans (hb1.mono (by omega))))
 have T8 := hide (Blk.there_ C1.out 8 64 (by have h1 := HB.out; have h2 := HL.out; simp [UV_len, BV_len]; omega))
 clear hX hws hb1
 go_upto_region 3 with (with_reducible refine wpList_store_mid rfl 66 (.tmp 10) (.tmp 9) rfl w.heap.size 8 (BV Z64).toArray rfl ?e4 ?e1 ?e2 ?e3 ?_)
 case e4 => rfl
 case e1 => exact T8.out
 case e2 => exact blockSize
 case e3 => exact all_oneCell_toArray (BV_one Z64)
 refine name_worldh fun Y hY => ?_
 have D1 := hide (show Y.heap[w.heap.size]? = some (.cells (SCh v' Z64 n).toArray 69 (0, 0)) by
  rw [← hY.out]; exact Blk.part (UV v') (BV b) _ (BV Z64) C1.out 8 (by rw [UV_len, HL.out]) (by rw [BV_len, BV_len, HB.out]; rfl))
 have D2 := hide (show Y.heap[w.heap.size + 1]? = some (.cells (SCh W8 Z64 0).toArray 69 (0, 0)) by
  rw [← hY.out]; exact Blk.farCells _ 8 (show Blk X _ _ _ from C2.out) (by omega))
 have HY := hide (show Below w.heap.size w Y by rw [← hY.out]; exact below_setCells (Nat.le_refl _) _ _ _ HX.out)
 have hlen : (SCh v' Z64 n).length = 73 := by rw [SC_lenh, HL.out]; rfl
 have HLN := hide hlen
 have H1 := hide (SC_oneh v' Z64 n)
 clear hY hlen
 generalize hout : SCh v' Z64 n = out at *
 have HOUT := hide hout
 clear hout
 go_wp2_with (first | (with_reducible refine wpList_load_row rfl 69 (.tmp 1) rfl w.heap.size rfl 69 out.toArray (0, 0) _ D1.out Tryd.underlying69 rfl ?f1 ?_) | (with_reducible refine wpList_store_row rfl 69 (.tmp 2) (.tmp 11) rfl (w.heap.size + 1) out.toArray rfl rfl 69 _ D2.out ?g1 ?g2 ?g3 ?_))
 case f1 => rw [List.size_toArray, HLN.out]; exact streamSize
 case g1 => rw [List.size_toArray, HLN.out]; exact streamSize
 case g2 => rw [show out.toArray.size = 73 by rw [List.size_toArray, HLN.out]]; rfl
 case g3 => simpa using H1.out
 have hload : (loadVar 69 ⟨w.heap.size + 1, 0, none⟩).run Tryd.prog (Y.setRow (w.heap.size + 1) out.toArray) = .ok (.agg out.toArray) (Y.setRow (w.heap.size + 1) out.toArray) :=
  run_loadVar_row _ _ _ _ _ _ _ (setRow_heap Y (w.heap.size + 1) _ out.toArray _ _ D2.out) Tryd.underlying69 rfl (by rw [List.size_toArray, HLN.out]; exact streamSize)
 exact bodyPost_ret (v := .agg out.toArray) (results_cell0h Tryd.results54 _ _ ⟨w.heap.size + 1, 0, none⟩ _ rfl hload) rfl ⟨by rw [HOUT.out], below_setRowh HY.out (by omega) _⟩
end Go.Proofs.YtjnnohghgkjhcaaDoor
namespace Go.Proofs.YtjnnohghgkjhcaaDoor
open Go.RowKit
set_option linter.unusedVariables false
set_option linter.unusedSimpArgs false
theorem built_begin : Tryd.prog.built 69 [(0, .agg #[Value.int .u32 1779033703, Value.int .u32 3144134277, Value.int .u32 1013904242, Value.int .u32 2773480762, Value.int .u32 1359893119, Value.int .u32 2600822924, Value.int .u32 528734635, Value.int .u32 1541459225])] = some (SCh Sha.H0 Z64 0).toArray := by kernel_rfl
set_option maxHeartbeats 400000 in
set_option maxRecDepth 100000 in
theorem begin_any (w : World) : Calls Tryd.prog 30 #[] w fun e w' => e = .returned (.agg (SCh Sha.H0 Z64 0).toArray) ∧ Below w.heap.size w w' := by
 have hzs := zeroStream
 have HB := hide built_begin
 have H2 := hide (show (w.alloc (.cells (SCh W8 Z64 0).toArray 69)).heap[w.heap.size]? = some (.cells (SCh W8 Z64 0).toArray 69 (0, 0)) from Blk.new w _ _)
 have HL := hide (show (SCh Sha.H0 Z64 0).length = 73 from rfl)
 have H1 := hide (SC_oneh Sha.H0 Z64 0)
 generalize hout : SCh Sha.H0 Z64 0 = out at *
 have HOUT := hide hout
 clear hout
 go_enter Tryd.func30, Tryd.ntmps30
 go_wp2_with (first
  | (with_reducible refine wpList_build rfl 69 #[(0, .tmp 1)] rfl ?b1 ?_)
  | (with_reducible refine wpList_store_row rfl 69 (.tmp 0) (.tmp 2) rfl w.heap.size out.toArray rfl ?b2 69 _ H2.out ?g1 ?g2 ?g3 ?_))
 case b1 => rw [HB.out]; rfl
 case b2 => rw [HB.out]; rfl
 case g1 => rw [List.size_toArray, HL.out]; exact streamSize
 case g2 => rw [show out.toArray.size = 73 by rw [List.size_toArray, HL.out]]; rfl
 case g3 => simpa using H1.out
 have hload : (loadVar 69 ⟨w.heap.size, 0, none⟩).run Tryd.prog ((w.alloc (.cells (SCh W8 Z64 0).toArray 69)).setRow w.heap.size out.toArray) = .ok (.agg out.toArray) ((w.alloc (.cells (SCh W8 Z64 0).toArray 69)).setRow w.heap.size out.toArray) :=
  run_loadVar_row _ _ _ _ _ _ _ (setRow_heap _ w.heap.size _ out.toArray _ _ H2.out) Tryd.underlying69 rfl (by rw [List.size_toArray, HL.out]; exact streamSize)
 exact bodyPost_ret (v := .agg out.toArray) (results_cell0h Tryd.results30 _ _ ⟨w.heap.size, 0, none⟩ _ rfl hload) rfl ⟨rfl, below_setRowh ((Below.refl _ _).alloc (Nat.le_refl _) _) (Nat.le_refl _) _⟩
theorem run_copy_text {P : Program} (w : World) (dT sT ty elem : TypeId) (b o dLen dCap : Nat) (l : List UInt8)
  (hu : P.underlying dT = some (.slice elem)) (hz : ∀ w, (Go.sizeOf elem).run P w = .ok 1 w) (n : Nat) (hn : n = min l.length dLen)
  (ht : w.there b o n) :
  (Builtin.copy_ #[dT, sT] ty #[.slice (some ⟨b, o, none⟩) dLen dCap, .string (S l)]).run P w = .ok (goInt n) (w.setCells b o (BV (l.take n))) := by
 subst hn
 have hl : (BV (l.take (min l.length dLen))).length = min l.length dLen := by rw [BV_len, List.length_take]; omega
 have hst := run_storeCells_cells (P := P) b o (BV (l.take (min l.length dLen))) 0 w (by rw [hl]; intro j hj; simpa using (ht j hj).1) (by rw [hl]; intro j hj; simpa using (ht j hj).2) (BV_one _)
 rw [Nat.add_zero] at hst
 have hsz : (S l).size = l.length := rfl
 have hdata : (S l).data.toList = l := rfl
 have hmin : Nat.min l.length dLen = min l.length dLen := rfl
 simp [Builtin.copy_, run_underlying hu, Builtin.lenOf, Builtin.firstCells, hz, hsz, hdata, hmin]
 rw [show List.take (min l.length dLen) (List.map (fun b => Value.int IntKind.u8 (b.toNat : Int)) l) = BV (l.take (min l.length dLen)) by simp [BV, List.map_take], hst]
 rfl
theorem wpList_copy_text {P : Program} {w : World} {ops : Array Oper} {rest : List Oper} {o : Oper} {a : Act} {Q : Exit → Act → World → Prop} (hgd : o.guard = none) (d s : Operand) (dT sT : TypeId)
  (ho : o.op = .call { callee := .builtin .copy, args := #[d, s], argTypes := #[dT, sT] }) (elem : TypeId) (hu : P.underlying dT = some (.slice elem)) (hz : ∀ w, (Go.sizeOf elem).run P w = .ok 1 w)
  (b off dLen dCap : Nat) (hd : a.eval d = .slice (some ⟨b, off, none⟩) dLen dCap) (l : List UInt8) (hs : a.eval s = .string (S l)) (n : Nat) (hn : n = min l.length dLen) (ht : w.there b off n)
  (h : ∀ w', Hid (w.setCells b off (BV (l.take n)) = w') → wpList P ops Q rest (a.put o.dst (goInt n)) w') : wpList P ops Q (o :: rest) a w := by
 refine wpList_plain hgd fun _ hK => ?_
 unfold Oper.wp execOp
 simp only [ho, resolve, invoke, builtin, Sem.run_bind, Sem.run_pure, Result.andThen_ok, List.map_toArray, List.map_cons, List.map_nil, hd, hs, run_copy_text (P := P) w dT sT o.type elem b off dLen dCap l hu hz n hn ht]
 exact hK _ _ (h _ rfl)
end Go.Proofs.YtjnnohghgkjhcaaDoor
namespace Go.Proofs.YtjnnohghgkjhcaaDoor
open Go.RowKit
set_option linter.unusedVariables false
set_option linter.unusedSimpArgs false
namespace Sha
def restOf (m : List UInt8) : List UInt8 := m.drop (64 * (m.length / 64))
def pad64 (l : List UInt8) : List UInt8 := l ++ List.replicate (64 - l.length) 0
theorem restOf_len (m : List UInt8) : (restOf m).length = m.length % 64 := by unfold restOf; rw [List.length_drop]; omega
theorem pad64_len (l : List UInt8) (h : l.length ≤ 64) : (pad64 l).length = 64 := by unfold pad64; simp; omega
theorem blocks_append (v : List UInt32) (m x : List UInt8) (q : Nat) (h : 64 * q ≤ m.length) : blocks v (m ++ x) q = blocks v m q := by
 induction q with
 | zero => rfl
 | succ q ih =>
  simp only [blocks]
  rw [ih (by omega), List.drop_append_of_le_length (by omega), List.take_append_of_le_length (by rw [List.length_drop]; omega)]
theorem blocks_len (v : List UInt32) (m : List UInt8) (q : Nat) (hv : v.length = 8) : (blocks v m q).length = 8 := by
 induction q with
 | zero => exact hv
 | succ q ih => simp only [blocks]; exact compress_len _ _ ih
theorem add_full (m x : List UInt8) (hx : m.length % 64 + x.length = 64) :
  blocks H0 (m ++ x) ((m ++ x).length / 64) = compress (blocks H0 m (m.length / 64)) (restOf m ++ x) ∧ restOf (m ++ x) = [] := by
 have hq : (m ++ x).length / 64 = m.length / 64 + 1 := by rw [List.length_append]; omega
 constructor
 ·rw [hq]
  simp only [blocks]
  rw [blocks_append _ _ _ _ (by omega), List.drop_append_of_le_length (by omega)]
  congr 1
  rw [List.take_of_length_le (by rw [List.length_append, List.length_drop]; omega)]
  rfl
 ·unfold restOf
  rw [hq]
  exact List.drop_eq_nil_of_le (by rw [List.length_append]; omega)
theorem add_part (m x : List UInt8) (hx : m.length % 64 + x.length < 64) :
  blocks H0 (m ++ x) ((m ++ x).length / 64) = blocks H0 m (m.length / 64) ∧ restOf (m ++ x) = restOf m ++ x := by
 have hq : (m ++ x).length / 64 = m.length / 64 := by rw [List.length_append]; omega
 constructor
 ·rw [hq, blocks_append _ _ _ _ (by omega)]
 ·unfold restOf
  rw [hq, List.drop_append_of_le_length (by omega)]
end Sha
def ST (m : List UInt8) : List Value := SCh (Sha.blocks Sha.H0 m (m.length / 64)) (Sha.pad64 (Sha.restOf m)) m.length
theorem ST_len (m : List UInt8) : (ST m).length = 73 := by
 unfold ST
 rw [SC_lenh, Sha.blocks_len _ _ _ rfl, Sha.pad64_len _ (by rw [Sha.restOf_len]; omega)]
theorem BV_zeros (k : Nat) : BV (List.replicate k 0) = List.replicate k (.int .u8 0) := by simp [BV]
theorem block_parted (l : List UInt8) (n : Nat) (h : l.length + n ≤ 64) : BV (Sha.pad64 l) = BV l ++ (BV (List.replicate n 0) ++ BV (List.replicate (64 - l.length - n) 0)) := by
 unfold Sha.pad64
 rw [BV_append l, ← BV_append (List.replicate n 0), List.replicate_append_replicate, show n + (64 - l.length - n) = 64 - l.length by omega]
theorem block_added (l x : List UInt8) (h : l.length + x.length ≤ 64) : BV (Sha.pad64 (l ++ x)) = BV l ++ (BV x ++ BV (List.replicate (64 - l.length - x.length) 0)) := by
 unfold Sha.pad64
 rw [BV_append, BV_append, List.append_assoc, List.length_append, show 64 - (l.length + x.length) = 64 - l.length - x.length by omega]
theorem added {w : World} {g : Nat} {t : TypeId} {v : List UInt32} {l x : List UInt8} {n : Nat} (h : Blk w g t (SCh v (Sha.pad64 l) n).toArray) (hv : v.length = 8) (hl : l.length + x.length ≤ 64) :
  Blk (w.setCells g (8 + l.length) (BV x)) g t (SCh v (Sha.pad64 (l ++ x)) n).toArray := by
 unfold SCh at h ⊢
 rw [block_parted l x.length hl] at h
 rw [block_added l x hl]
 have e1 : ∀ Y : List Value, UV v ++ (BV l ++ (Y ++ BV (List.replicate (64 - l.length - x.length) 0)) ++ [Value.int .u64 (n : Int)]) = (UV v ++ BV l) ++ (Y ++ (BV (List.replicate (64 - l.length - x.length) 0) ++ [Value.int .u64 (n : Int)])) := fun Y => by simp [List.append_assoc]
 rw [e1] at h ⊢
 exact Blk.part _ _ _ (BV x) h _ (by rw [List.length_append, UV_len, BV_len, hv]) (by rw [BV_len, BV_len]; simp)
theorem len_cell {w : World} {g : Nat} {t : TypeId} {v : List UInt32} {l : List UInt8} {n : Nat} (h : Blk w g t (SCh v l n).toArray) (hv : v.length = 8) (hl : l.length = 64) : w.cell? ⟨g, 72, none⟩ = some (.int .u64 (n : Int)) := by
 rw [h.cell, List.getElem?_toArray]
 unfold SCh
 rw [List.getElem?_append_right (by rw [UV_len]; omega), UV_len, hv, List.getElem?_append_right (by rw [BV_len]; omega), BV_len, hl]
 rfl
theorem len_set {w : World} {g : Nat} {t : TypeId} {v : List UInt32} {l : List UInt8} {n : Nat} (h : Blk w g t (SCh v l n).toArray) (hv : v.length = 8) (hl : l.length = 64) (n' : Nat) : Blk (w.setCell ⟨g, 72, none⟩ (.int .u64 (n' : Int))) g t (SCh v l n').toArray := by
 have := h.set_ 72 (.int .u64 (n' : Int))
 rw [List.setIfInBounds_toArray] at this
 unfold SCh at this ⊢
 rw [List.set_append_right _ _ (by rw [UV_len]; omega), UV_len, hv, List.set_append_right _ _ (by rw [BV_len]; omega), BV_len, hl] at this
 exact this
end Go.Proofs.YtjnnohghgkjhcaaDoor
