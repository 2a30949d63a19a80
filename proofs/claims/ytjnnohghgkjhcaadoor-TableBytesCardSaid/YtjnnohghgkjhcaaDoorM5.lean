/-
  Tables: steps in memory. (Written by tools/gen_tabq.py.)
-/
import Derived.Test.YtjnnohghgkjhcaaDoorM4
namespace Go.Proofs.YtjnnohghgkjhcaaDoor
open Go.RowKit
set_option linter.unusedVariables false
set_option linter.unusedSimpArgs false
structure Stp where
 sp : Tb.Sp
 ad : Option Addr
 c : Nat
def spC (x : Stp) : List Value := [.int .i64 x.sp.to.lang, .bool x.sp.to.num, .bool x.sp.to.inn, .int .i64 (x.sp.len : Int), .slice x.ad x.sp.cells.length x.c, .int .i64 x.sp.rule]
def STC (xs : List Stp) : List Value := xs.flatMap spC
theorem STC_len (es : List Stp) : (STC es).length = es.length * 6 := by
 induction es with
 | nil => rfl
 | cons e r ih =>
  unfold STC at ih ⊢
  rw [List.flatMap_cons, List.length_append, ih, List.length_cons]
  show 6 + _ = _
  omega
theorem STC_append (a b : List Stp) : STC (a ++ b) = STC a ++ STC b := by unfold STC; rw [List.flatMap_append]
theorem STC_one (es : List Stp) : ∀ v ∈ STC es, v.oneCell' = true := by
 intro v hv
 unfold STC at hv
 obtain ⟨x, _, hx⟩ := List.mem_flatMap.1 hv
 simp only [spC, List.mem_cons, List.not_mem_nil, or_false] at hx
 rcases hx with rfl | rfl | rfl | rfl | rfl | rfl <;> rfl
theorem STC_get (es : List Stp) (k j : Nat) (h : k < es.length) (hj : j < 6) : (STC es)[k * 6 + j]? = (spC es[k])[j]? := by
 induction es generalizing k with
 | nil => exact absurd h (by simp)
 | cons e r ih =>
  unfold STC at ih ⊢
  rw [List.flatMap_cons]
  cases k with
  | zero => rw [List.getElem?_append_left (by show 0 * 6 + j < 6; omega), Nat.zero_mul, Nat.zero_add]; rfl
  | succ k =>
   have h' : k < r.length := by simpa using h
   rw [List.getElem?_append_right (by show 6 ≤ _; omega)]
   show (r.flatMap spC)[(k + 1) * 6 + j - 6]? = _
   rw [show (k + 1) * 6 + j - 6 = k * 6 + j by omega, ih k h']
   rfl
def bsOf (x : Stp) : Tb.Bs := ⟨x.sp.cells, x.ad, x.c⟩
def StepsF (w : World) (v : Value) (xs : List Stp) : Prop := ∀ x ∈ xs, BsAt w w.heap.size (bsOf x) ∧ (∀ a, x.ad = some a → some a.block ≠ v.ownBlock) ∧ 0 < x.sp.cells.length
theorem BsAt.grown {w w' : World} {b : Tb.Bs} {row : Option Nat} (h : BsAt w w.heap.size b) (hg : w.grownBy w' row) (hne : ∀ a, b.ad = some a → some a.block ≠ row) : BsAt w' w'.heap.size b := by
 refine ⟨⟨h.1.1, fun hn => ?_⟩, h.2⟩
 obtain ⟨ad, e, hb, hc⟩ := h.1.2 hn
 refine ⟨ad, e, Nat.lt_of_lt_of_le hb hg.size, fun j u hu => ?_⟩
 rw [World.cell?_of_block (hg.block (ad.add j).block (by rw [block_of_add]; exact hb) (by rw [block_of_add]; exact hne ad e))]
 exact hc j u hu
theorem StepsF.below {w w' : World} {v : Value} {xs : List Stp} (h : StepsF w v xs) (hb : Below w.heap.size w w') : StepsF w' v xs := fun x hx => ⟨(h x hx).1.same hb, (h x hx).2⟩
theorem StepsF.nil (w : World) (v : Value) : StepsF w v [] := fun x hx => by cases hx
theorem StepsF.snoc {w w' : World} {v v' : Value} {xs : List Stp} {x : Stp} (h : StepsF w v xs) (hx : BsAt w w.heap.size (bsOf x)) (hxb : ∀ a, x.ad = some a → some a.block ≠ v.ownBlock) (hx0 : 0 < x.sp.cells.length) (hg : w.grownBy w' v.ownBlock)
  (hat : v'.ownBlock = v.ownBlock ∨ v'.ownBlock = some w.heap.size) : StepsF w' v' (xs ++ [x]) := by
 have one : ∀ y : Stp, BsAt w w.heap.size (bsOf y) → (∀ a, y.ad = some a → some a.block ≠ v.ownBlock) → 0 < y.sp.cells.length → BsAt w' w'.heap.size (bsOf y) ∧ (∀ a, y.ad = some a → some a.block ≠ v'.ownBlock) ∧ 0 < y.sp.cells.length := fun y hy hyb hl => by
  obtain ⟨ad, e, hb, _⟩ := hy.1.2 hl
  have e' : y.ad = some ad := e
  refine ⟨hy.grown hg (fun a ha => hyb a ha), fun a ha => ?_, hl⟩
  rcases hat with h1 | h1
  ·rw [h1]; exact hyb a ha
  ·rw [h1]
   rw [e'] at ha
   injection ha with ha
   subst ha
   intro hc
   injection hc with hc
   omega
 intro y hy
 rcases List.mem_append.1 hy with hy | hy
 ·exact one y (h y hy).1 (h y hy).2.1 (h y hy).2.2
 ·rw [List.mem_singleton] at hy
  subst hy
  exact one y hx hxb hx0
theorem stepInfo3 : (Tryd.prog.info? 88).map (fun i => (i.zero, i.size, i.bytes)) = some (some (.agg #[.int .i64 0, .bool false, .bool false, .int .i64 0, .slice none 0 0, .int .i64 0]), 6, 56) := by kernel_rfl
set_option maxHeartbeats 8000000 in
set_option maxRecDepth 100000 in
theorem pieces_0 (v : Value) (t : Tb.Tab) (s : Tb.St) (A : Option Addr) (c : Nat) (l : Tb.Text) (p : Nat) (w : World) (h : TabAt w w.heap.size v t) (hr : TextAt w w.heap.size A l) (hp : p < l.length) (hc : l.length ≤ c)
  (hlang : s.lang = 0) (hrl : t.r0.length ≤ 96) (hri : ∀ r ∈ t.r0, Tb.right r = true) (hfl : t.fin.l.length ≤ 4) (hcl : t.cap.l.length ≤ 4) :
  Calls Tryd.prog 45 #[v, stV s, .slice A l.length c, .int .i64 (p : Int)] w fun e w' => ∃ v' xs, e = .returned v' ∧ w'.ownsRow w.heap.size 88 6 v' xs.length (STC xs) ∧ xs.map (·.sp) = Tb.pieces t.r0 t s l p ∧ StepsF w' v' xs ∧ Below w.heap.size w w' := by
 obtain ⟨i0, hi, hz0, hz1, hz2⟩ := info_parts byteInfo'
 have HI := hide hi
 have HZ0 := hide hz0
 have HZ1 := hide hz1
 have HZ2 := hide hz2
 obtain ⟨j0, hj, hy0, hy1, hy2⟩ := info_parts stepInfo3
 have HJ := hide hj
 have HY0 := hide hy0
 have HY1 := hide hy1
 have HY2 := hide hy2
 clear hi hz0 hz1 hz2 hj hy0 hy1 hy2
 have HR := hide hr
 obtain ⟨ad, rfl, hadb, hc0, hc1⟩ := reads_sym' hr p hp
 have CL := hide (fun W => letter_any (Tb.at_ l p).2 W)
 have CF := hide (fun (W : World) (hb : Below w.heap.size w W) => fitting_any (some ad) c l p W (hr.same hb) hp)
 have C1 := hide (fun (r : Tb.Rl) (hm : r ∈ t.r0) (W : World) (hb : Below w.heap.size w W) => fun g0 g1 g2 B hF => fit_any g0 g1 g2 (some ad) c l p r W (hr.same hb) hp hc (Tb.right_text (hri r hm)).1 (by have := (Tb.right_text (hri r hm)).2; omega) B hF)
 have HRC := hide (fun (r : Tb.Rl) (hm : r ∈ t.r0) => Tb.right_cells (hri r hm))
 have HPC := hide (show Tb.pieces t.r0 t s l p = (List.range t.r0.length).filterMap (Tb.pieceAt t.r0 t s l p) from rfl)
 have HPS := hide (Tb.pieces_step t.r0 t s l p)
 have HPA := hide (fun (k : Nat) (hk : k < t.r0.length) => (show Tb.pieceAt t.r0 t s l p k = if Tb.fits t.r0[k] l p then some ⟨⟨0, false, Tb.letter (Tb.at_ l p).2⟩, t.r0[k].text.length, Tb.before t s (Tb.at_ l p).2 ++ t.r0[k].cells.l, (k : Int)⟩ else none by
  unfold Tb.pieceAt
  rw [List.getElem?_eq_getElem hk, hlang]))
 have HBF := hide (show Tb.before t s (Tb.at_ l p).2 = (if Tb.letter (Tb.at_ l p).2 && s.num then t.fin.l else []) ++ (if Tb.capital (Tb.at_ l p).2 then t.cap.l else []) from rfl)
 obtain ⟨A0, A1, c0, c1, rfl, h0, h1, _, _, _, hcap, _, hfin, _⟩ := h
 have HRU := hide h0
 have HCAP := hide (fun (W : World) (hb : Below w.heap.size w W) => (hcap.1.below hb).more hb.size)
 have HFIN := hide (fun (W : World) (hb : Below w.heap.size w W) => (hfin.1.below hb).more hb.size)
 unfold stV
 rw [hlang]
 unfold VC at CL
 generalize Tb.pieces t.r0 t s l p = pcs at *
 generalize Tb.pieceAt t.r0 t s l p = pa at *
 generalize Tb.before t s (Tb.at_ l p).2 = bf at *
 generalize Tb.letter (Tb.at_ l p).2 = le at *
 generalize Tb.capital (Tb.at_ l p).2 = ca at *
 generalize (Tb.low (Tb.at_ l p).2).toNat = lo at *
 generalize (Tb.at_ l p).2.toNat = cn at *
 generalize (Tb.at_ l p).1 = la at *
 generalize s.num = sn at *
 generalize s.inn = si at *
 clear h0 h1 hcap hfin hlang hr hri
 obtain ⟨n4, hn4⟩ : ∃ n4, n4 = t.fin.l.length := ⟨_, rfl⟩
 obtain ⟨n3, hn3⟩ : ∃ n3, n3 = t.cap.l.length := ⟨_, rfl⟩
 have HN4 := hide hn4
 have HN3 := hide hn3
 rw [← hn4] at HFIN hfl ⊢
 rw [← hn3] at HCAP hcl ⊢
 generalize t.fin.l = fl at *
 generalize t.cap.l = cl at *
 obtain ⟨nr, hnr⟩ : ∃ nr, nr = t.r0.length := ⟨_, rfl⟩
 have HNR := hide hnr
 rw [← hnr] at HPC hrl ⊢
 generalize t.r1.length = no at *
 generalize t.r0 = rs at *
 generalize t.dig.l.length = nd at *
 generalize t.num.l.length = nn at *
 generalize t.sw.l.length = nw at *
 obtain ⟨n, hn⟩ : ∃ n, n = l.length := ⟨_, rfl⟩
 rw [← hn] at hp hc CF C1 ⊢
 have hp0 : (0 : Int) ≤ (p : Int) := by omega
 have hp1 : (p : Int) < (n : Int) := by omega
 have hrli : (nr : Int) ≤ 96 := by omega
 clear hn4 hn3 hnr hn
 go_enter Tryd.func45, Tryd.ntmps45
 go_upto_region 1 with fail
 refine name_world fun V hV => ?_
 have V4 := hide (show Blk V w.heap.size 29 #[.slice A0 nr c0, .slice A1 no c1, .slice t.dig.ad nd t.dig.c, .slice t.cap.ad n3 t.cap.c, .slice t.num.ad nn t.num.c, .slice t.fin.ad n4 t.fin.c, .slice t.sw.ad nw t.sw.c] by rw [← hV.out]; exact (Blk.new w _ _).alloc _)
 have V5 := hide (show Blk V (w.heap.size + 1) 54 #[.int .i64 0, .bool sn, .bool si] by rw [← hV.out]; exact Blk.new2 w _ _ _)
 have HV := hide (show Below w.heap.size w V by rw [← hV.out]; exact ((Below.refl _ _).alloc (Nat.le_refl _) _).alloc (by simp) _)
 have hgV := V5.out.lt
 have kc0 : V.cell? (ad.add (p * 2)) = some (.int .i64 la) := by rw [HV.out.cell (by rw [block_of_add]; exact hadb)]; exact hc0
 have kc1 : V.cell? ⟨(ad.add (p * 2)).block, (ad.add (p * 2)).off + 1, none⟩ = some (.int .u8 (cn : Int)) := by rw [HV.out.cell (by show (ad.add (p * 2)).block < _; rw [block_of_add]; exact hadb)]; exact hc1
 have k4 : V.cell? ⟨w.heap.size, 5, none⟩ = some (.slice t.fin.ad n4 t.fin.c) := V4.out.cell 5
 have k5 : V.cell? ⟨w.heap.size + 1, 1, none⟩ = some (.bool sn) := V5.out.cell 1
 have HVV := hide (Below.refl V.heap.size V)
 clear hV
 go_upto_region 3 with (go_at_call 63; refine (unhide CL _).mono ?_; rintro e w1 ⟨rfl, rfl⟩)
 go_cut [32] (fun s32 wx => s32 = .bool (le && sn) ∧ V = wx)
 case first =>
  cases le <;>
  ·go_wp2
   go_meet
   exact ⟨rfl, rfl⟩
 case rest =>
  obtain ⟨rfl, rfl⟩ := hcut
  go_upto_if 32 with fail
  go_cut [12] (fun s12 wx => wx.ownsRow V.heap.size 5 1 s12 (if le && sn then fl else []).length (BV (if le && sn then fl else [])) ∧ Below V.heap.size V wx)
  case first =>
   cases hls : (le && sn) with
   | true =>
    go_wp2_with (at_builtin; refine wpList_append_any _ rfl (.tmp 33) (.tmp 35) 23 rfl V.heap.size 5 i0 (.int .u8 0) 1 1 Tryd.underlying23 HI.out HZ0.out HZ1.out HZ2.out rfl (by omega) _ 0 [] rfl (own_nil _ _ _ _) _ t.fin.ad n4 t.fin.c (BV fl) rfl (HFIN.out V HV.out) (BV_one fl) (by unfold maxLen; omega) (by omega) (by simp) ?_; intro v2 w2 hown2 hgrow2 hat2; have HO2 := hide (own_count hown2); have HB2 := hide (below_grown hgrow2 (own_nil _ V.heap.size 5 1) (by simp)); clear hown2 hgrow2 hat2)
    go_meet
    exact ⟨by rw [hls, if_pos rfl]; exact HO2.out, HB2.out⟩
   | false =>
    go_wp2
    go_meet
    exact ⟨by rw [hls]; exact own_nil _ _ _ _, HVV.out⟩
  case rest =>
   obtain ⟨hown, hbel⟩ := hcut
   obtain ⟨X, rfl⟩ : ∃ X, X = wc := ⟨wc, rfl⟩
   obtain ⟨b1, hb1⟩ : ∃ b1, b1 = (if le && sn then fl else []) := ⟨_, rfl⟩
   have HB1L := hide (show b1.length ≤ 4 by rw [hb1]; split; (have := HN4.out; omega); simp)
   rw [← hb1] at hown HBF
   have HO := hide hown
   have HX := hide hbel
   have hxs := hbel.size
   have XW := hide (HV.out.trans (hbel.mono HV.out.size))
   have e4 : X.cell? ⟨w.heap.size, 3, none⟩ = some (.slice t.cap.ad n3 t.cap.c) := (V4.out.below hbel (by omega)).cell 3
   clear hown hbel hb1 kc0 kc1 k4 k5 HFIN
   go_upto_if 37 with fail
   go_cut [12] (fun s12 wx => wx.ownsRow V.heap.size 5 1 s12 bf.length (BV bf) ∧ Below V.heap.size V wx)
   case first =>
    cases ca with
    | true =>
     have HBF2 := hide (show bf = b1 ++ cl by rw [HBF.out]; rfl)
     clear HBF
     go_wp2_with (at_builtin; refine wpList_append_any _ rfl (.tmp 38) (.tmp 40) 23 rfl V.heap.size 5 i0 (.int .u8 0) 1 1 Tryd.underlying23 HI.out HZ0.out HZ1.out HZ2.out rfl (by omega) _ b1.length (BV b1) rfl HO.out _ t.cap.ad n3 t.cap.c (BV cl) rfl (HCAP.out X XW.out) (BV_one cl) (by have := HB1L.out; unfold maxLen; omega) (by have := HB1L.out; omega) hxs ?_; intro v2 w2 hown2 hgrow2 hat2; have HO2 := hide hown2; have HB2 := hide (HX.out.trans (below_grown hgrow2 HO.out hxs)); clear hown2 hgrow2 hat2)
     go_meet
     exact ⟨own_count (by rw [HBF2.out, BV_append]; exact HO2.out), HB2.out⟩
    | false =>
     have HBF2 := hide (show bf = b1 by rw [HBF.out]; simp)
     clear HBF
     go_wp2
     go_meet
     exact ⟨by rw [HBF2.out]; exact HO.out, HX.out⟩
   case rest =>
    obtain ⟨hown, hbel⟩ := hcut
    obtain ⟨Y, rfl⟩ : ∃ Y, Y = wc := ⟨wc, rfl⟩
    have HBFL := hide (show bf.length ≤ 8 by
     have h1 := HB1L.out
     rw [HBF.out, List.length_append]
     split
     ·have := HN3.out; omega
     ·simp; omega)
    obtain ⟨Ab, cb, hvb, hbs, _⟩ := bs_of_own hown (by have := HBFL.out; omega)
    subst hvb
    have HBS := hide hbs
    have HY := hide hbel
    have hys := hbel.size
    have YW := hide (HV.out.trans (hbel.mono HV.out.size))
    have Y4 := hide (V4.out.below hbel (by omega))
    have Y5 := hide (V5.out.below hbel (by omega))
    have e5 : Y.cell? ⟨w.heap.size + 1, 0, none⟩ = some (.int .i64 0) := Y5.out.cell 0
    obtain ⟨nb, hnb⟩ : ∃ nb, nb = bf.length := ⟨_, rfl⟩
    have HNB := hide hnb
    rw [← hnb] at HBFL ⊢
    clear hown hbel hbs e4 HO HX HCAP HBF XW hnb hxs
    go_upto_region 8 with fail
    refine name_world fun Z hZ => ?_
    have Z13 := hide (show Blk Z Y.heap.size 54 #[.int .i64 0, .bool false, .bool le] by rw [← hZ.out]; exact Blk.new Y _ _)
    have HZ := hide (show Below Y.heap.size Y Z by rw [← hZ.out]; exact below_alloc Y _)
    have ZW := hide (YW.out.trans (HZ.out.mono YW.out.size))
    have CFZ := hide (CF.out Z ZW.out)
    have hzl : Y.heap.size < Z.heap.size := Z13.out.lt
    clear hZ e5 CF
    go_upto_region 9 with (go_at_call 64; refine (unhide CFZ).mono ?_; rintro e w1 ⟨g0, g1, g2, rfl, hfit, hb1⟩; have HFI := hide hfit; have HB1 := hide hb1; clear hfit hb1)
    clear CFZ
    have hb1s := HB1.out.size
    have F4 := hide ((Y4.out.below HZ.out (by omega)).below HB1.out (by omega))
    have F5 := hide ((Y5.out.below HZ.out (by omega)).below HB1.out (by omega))
    have F13 := hide (Z13.out.below HB1.out (by omega))
    have HBSF := hide ((HBS.out.same HZ.out).same HB1.out)
    have WF := hide (ZW.out.trans (HB1.out.mono ZW.out.size))
    have e5 : w1.cell? ⟨w.heap.size + 1, 0, none⟩ = some (.int .i64 0) := F5.out.cell 0
    have e4 : w1.cell? ⟨w.heap.size, 0, none⟩ = some (.slice A0 nr c0) := F4.out.cell 0
    have hw1w : w.heap.size < w1.heap.size := F4.out.lt
    have hg13 : Y.heap.size < w1.heap.size := F13.out.lt
    have hl0 := HFI.out.l0.lt
    have hl1 := HFI.out.l1.lt
    have hl2 := HFI.out.l2.lt
    have HFF := hide (Below.refl w1.heap.size w1)
    unfold fitF
    generalize Y.heap.size = g13 at *
    clear HBS HY HVV HV Y4 Y5 F5 HZ Z13 ZW HB1 YW hgV hys V4 V5
    go_wp2
    go_loopw [15, 56] (fun s15 s wr => ∃ (k : Nat) (xs : List Stp) (y15 : Value), k ≤ nr ∧ s = .int .i64 (k : Int) ∧ y15 = s15 ∧ wr.ownsRow w1.heap.size 88 6 y15 xs.length (STC xs) ∧ Hid (xs.map (·.sp) = (List.range k).filterMap pa) ∧ Hid (xs.length ≤ k) ∧ StepsF wr y15 xs ∧ Below w1.heap.size w1 wr) (fun _ s _ => nr - (intOf s).toNat)
    case atStart => exact ⟨0, [], _, by omega, rfl, rfl, own_nil _ _ _ _, rfl, Nat.le_refl _, StepsF.nil _ _, HFF.out⟩
    case round =>
     obtain ⟨k, xs, s15, hk, rfl, rfl, hown, HXS, HXL, hsf, hbel⟩ := hrel
     obtain ⟨wd, rfl⟩ : ∃ wd, wd = wr := ⟨wr, rfl⟩
     have HO := hide hown
     have HSF := hide hsf
     have HB := hide hbel
     have WD := hide (WF.out.trans (hbel.mono WF.out.size))
     have hwd := hbel.size
     clear hown hsf hbel e4 e5
     by_cases hlt : k < nr
     ·have hil : k < rs.length := by rw [← HNR.out]; exact hlt
      obtain ⟨rad, hAr, hrb, hcs⟩ := reads_rule HRU.out k hil
      subst hAr
      have HEC := hide (show ∀ (j : Nat) (v : Value), ([.string (S rs[k].text), .int .i64 rs[k].wh, .slice rs[k].cells.ad rs[k].cells.l.length rs[k].cells.c] : List Value)[j]? = some v → wd.cell? ((rad.add (k * 3)).add j) = some v from fun j v hv => by
       rw [WD.out.cell (by rw [block_of_add, block_of_add]; exact hrb)]
       exact hcs j v hv)
      have hk0 : (0 : Int) ≤ (k : Int) := by omega
      have hk1 : (k : Int) < (nr : Int) := by omega
      have HLT := hide hlt
      have CFT := hide (C1.out rs[k] (List.getElem_mem hil))
      have HPK := hide (HPA.out k hil)
      have HRL := hide (HRC.out rs[k] (List.getElem_mem hil))
      have HRB := hide (fun (W : World) (hb : Below w.heap.size w W) => ((HRU.out.2.1 rs[k] (List.getElem_mem hil)).1.below hb).more hb.size)
      generalize rs[k] = r at *
      clear hcs hlt hil
      go_upto_region 13 with (with_reducible refine wpList_load_at rfl 45 (.tmp 59) rfl (rad.add (k * 3)) rfl [.string (S r.text), .int .i64 r.wh, .slice r.cells.ad r.cells.l.length r.cells.c] _ HEC.out Tryd.underlying45 rfl ?c1 ?_)
      case c1 => exact ruleInfo
      refine name_world fun U hU => ?_
      have UB := hide (show Blk U wd.heap.size 45 #[.string (S r.text), .int .i64 r.wh, .slice r.cells.ad r.cells.l.length r.cells.c] by rw [← hU.out]; exact Blk.new wd _ _)
      have HU1 := hide (show Below wd.heap.size wd U by rw [← hU.out]; exact below_alloc wd _)
      have HUF := hide (HB.out.trans (HU1.out.mono HB.out.size))
      have UW := hide (WD.out.trans (HU1.out.mono WD.out.size))
      have UF := hide (HFI.out.below HUF.out hl0 hl1 hl2)
      have U13 := hide (F13.out.below HUF.out hg13)
      have hUl : wd.heap.size < U.heap.size := UB.out.lt
      have f0 : U.cell? ⟨wd.heap.size, 0, none⟩ = some (.string (S r.text)) := UB.out.cell 0
      have f1 : U.cell? ⟨wd.heap.size, 1, none⟩ = some (.int .i64 r.wh) := UB.out.cell 1
      have f2 : U.cell? ⟨wd.heap.size, 2, none⟩ = some (.slice r.cells.ad r.cells.l.length r.cells.c) := UB.out.cell 2
      have CU := hide (CFT.out U UW.out g0 g1 g2 _ UF.out)
      clear hU HEC CFT
      cases hft : Tb.fits r l p with
      | false =>
       rw [hft] at CU
       have HPN := hide (show (List.range (k + 1)).filterMap pa = (List.range k).filterMap pa by rw [HPS.out, HPK.out, hft]; simp)
       clear hft HPK
       go_wp2_with (go_at_call 77; refine (unhide CU).mono ?_; rintro e w2 ⟨rfl, hb2⟩; have HB2 := hide hb2; clear hb2)
       exact ⟨⟨k + 1, xs, _, HLT.out, by go_num, rfl, own_below HO.out (HU1.out.trans (HB2.out.mono (by omega))), by rw [HPN.out]; exact HXS.out, Nat.le_succ_of_le HXL.out, HSF.out.below (HU1.out.trans (HB2.out.mono (by omega))), HUF.out.trans (HB2.out.mono (by omega))⟩, by have := HLT.out; simp [intOf]; omega⟩
      | true =>
       rw [hft] at CU
       have HPN := hide (show (List.range (k + 1)).filterMap pa = (List.range k).filterMap pa ++ [⟨⟨0, false, le⟩, r.text.length, bf ++ r.cells.l, (k : Int)⟩] by rw [HPS.out, HPK.out, hft]; simp)
       clear hft HPK
       go_upto_region 14 with (go_at_call 77; refine (unhide CU).mono ?_; rintro e w2 ⟨rfl, hb2⟩; have HB2 := hide hb2; clear hb2)
       have G13 := hide (U13.out.below HB2.out (by omega))
       have GU := hide (UB.out.below HB2.out hUl)
       have hb2s := HB2.out.size
       have HO2 := hide (own_below HO.out (HU1.out.trans (HB2.out.mono (by omega))))
       have HSF2 := hide (HSF.out.below (HU1.out.trans (HB2.out.mono (by omega))))
       have HF2 := hide (HUF.out.trans (HB2.out.mono (by omega)))
       have HW2 := hide (WF.out.trans (HF2.out.mono WF.out.size))
       have HBS2 := hide (show BsAt w2 w2.heap.size ⟨bf, Ab, cb⟩ from HBSF.out.same HF2.out)
       have HRB2 := hide (HRB.out w2 HW2.out)
       have hown15 : ∀ g, s15.ownBlock = some g → w1.heap.size ≤ g ∧ g < wd.heap.size := fun g hg => HO.out.lt g hg
       clear f0 f1 f2 CU HU1 UB HB2 HO HSF HUF UW UF U13 HB WD
       obtain ⟨gu, hgu⟩ : ∃ gu, gu = wd.heap.size := ⟨_, rfl⟩
       rw [← hgu] at GU hwd hUl hown15 ⊢
       obtain ⟨sv, hsv⟩ : ∃ sv, sv = S r.text := ⟨_, rfl⟩
       have hts : sv.size = r.text.length := by rw [hsv, S_size]
       rw [← hsv] at GU ⊢
       obtain ⟨tl, htl⟩ : ∃ tl, tl = r.text.length := ⟨_, rfl⟩
       rw [← htl] at hts
       have HTL := hide htl
       have HRLC := hide (show r.cells.l.length ≤ 4 ∧ 1 ≤ r.cells.l.length from ⟨HRL.out.2, HRL.out.1⟩)
       obtain ⟨rn, hrn⟩ : ∃ rn, rn = r.cells.l.length := ⟨_, rfl⟩
       rw [← hrn] at GU HRLC ⊢
       have HRN := hide hrn
       clear hgu hsv htl hrn HRL
       have HS := hide (show ∀ W, Below w2.heap.size w2 W → W.cell? ⟨g13, 0, none⟩ = some (.int .i64 0) ∧ W.cell? ⟨g13, 1, none⟩ = some (.bool false) ∧ W.cell? ⟨g13, 2, none⟩ = some (.bool le) ∧ W.cell? ⟨gu, 0, none⟩ = some (.string sv) ∧ W.cell? ⟨gu, 2, none⟩ = some (.slice r.cells.ad rn r.cells.c) from fun W hb => by
        have h1 := G13.out.below hb (by omega)
        have h2 := GU.out.below hb (by omega)
        exact ⟨h1.cell 0, h1.cell 1, h1.cell 2, h2.cell 0, h2.cell 2⟩)
       refine wp_region_held_till (fun W => W.cell? ⟨g13, 0, none⟩ = some (.int .i64 0) ∧ W.cell? ⟨g13, 1, none⟩ = some (.bool false) ∧ W.cell? ⟨g13, 2, none⟩ = some (.bool le) ∧ W.cell? ⟨gu, 0, none⟩ = some (.string sv) ∧ W.cell? ⟨gu, 2, none⟩ = some (.slice r.cells.ad rn r.cells.c)) 14 (by kernel_rfl) ?_
       obtain ⟨W0, hW0⟩ : ∃ W0, W0 = w2.drew := ⟨_, rfl⟩
       have HB0 := hide (show Below w2.heap.size w2 W0 by rw [hW0]; exact (Below.refl _ _).drew)
       rw [← hW0]
       clear hW0
       refine heldTill_take 0 (s15) rfl (by kernel_rfl) (by kernel_rfl) (by kernel_rfl) (by kernel_rfl) (fun _ _ _ h => h) ?_ (HS.out _ HB0.out) ?_
       ·rw [if_pos (by rfl)]
        rintro W ⟨r0, r1, r2, r3, r4⟩
        go_simp
       try simp only [Act.put, List.getElem_toArray, List.getElem_cons_succ, List.getElem_cons_zero, List.setIfInBounds_toArray, List.set_cons_zero, List.set_cons_succ]
       refine heldTill_take 1 (.agg #[.int .i64 0, .bool false, .bool le]) rfl (by kernel_rfl) (by kernel_rfl) (by kernel_rfl) (by kernel_rfl) (fun _ _ _ h => h) ?_ (HS.out _ HB0.out) ?_
       ·rw [if_pos (by rfl)]
        rintro W ⟨r0, r1, r2, r3, r4⟩
        go_simp
       try simp only [Act.put, List.getElem_toArray, List.getElem_cons_succ, List.getElem_cons_zero, List.setIfInBounds_toArray, List.set_cons_zero, List.set_cons_succ]
       refine heldTill_take 2 (.pointer (some ⟨gu, 0, none⟩)) rfl (by kernel_rfl) (by kernel_rfl) (by kernel_rfl) (by kernel_rfl) (fun _ _ _ h => h) ?_ (HS.out _ HB0.out) ?_
       ·rw [if_pos (by rfl)]
        rintro W ⟨r0, r1, r2, r3, r4⟩
        go_simp
       try simp only [Act.put, List.getElem_toArray, List.getElem_cons_succ, List.getElem_cons_zero, List.setIfInBounds_toArray, List.set_cons_zero, List.set_cons_succ]
       refine heldTill_take 3 (.string sv) rfl (by kernel_rfl) (by kernel_rfl) (by kernel_rfl) (by kernel_rfl) (fun _ _ _ h => h) ?_ (HS.out _ HB0.out) ?_
       ·rw [if_pos (by rfl)]
        rintro W ⟨r0, r1, r2, r3, r4⟩
        go_simp
       try simp only [Act.put, List.getElem_toArray, List.getElem_cons_succ, List.getElem_cons_zero, List.setIfInBounds_toArray, List.set_cons_zero, List.set_cons_succ]
       refine heldTill_take 4 (.int .i64 (tl : Int)) rfl (by kernel_rfl) (by kernel_rfl) (by kernel_rfl) (by kernel_rfl) (fun _ _ _ h => h) ?_ (HS.out _ HB0.out) ?_
       ·rw [if_pos (by rfl)]
        rintro W ⟨r0, r1, r2, r3, r4⟩
        go_simp
       try simp only [Act.put, List.getElem_toArray, List.getElem_cons_succ, List.getElem_cons_zero, List.setIfInBounds_toArray, List.set_cons_zero, List.set_cons_succ]
       refine heldTill_take 5 (.slice Ab nb cb) rfl (by kernel_rfl) (by kernel_rfl) (by kernel_rfl) (by kernel_rfl) (fun _ _ _ h => h) ?_ (HS.out _ HB0.out) ?_
       ·rw [if_pos (by rfl)]
        rintro W ⟨r0, r1, r2, r3, r4⟩
        go_simp
       try simp only [Act.put, List.getElem_toArray, List.getElem_cons_succ, List.getElem_cons_zero, List.setIfInBounds_toArray, List.set_cons_zero, List.set_cons_succ]
       refine heldTill_take 6 (.pointer (some ⟨gu, 2, none⟩)) rfl (by kernel_rfl) (by kernel_rfl) (by kernel_rfl) (by kernel_rfl) (fun _ _ _ h => h) ?_ (HS.out _ HB0.out) ?_
       ·rw [if_pos (by rfl)]
        rintro W ⟨r0, r1, r2, r3, r4⟩
        go_simp
       try simp only [Act.put, List.getElem_toArray, List.getElem_cons_succ, List.getElem_cons_zero, List.setIfInBounds_toArray, List.set_cons_zero, List.set_cons_succ]
       refine heldTill_take 7 (.slice r.cells.ad rn r.cells.c) rfl (by kernel_rfl) (by kernel_rfl) (by kernel_rfl) (by kernel_rfl) (fun _ _ _ h => h) ?_ (HS.out _ HB0.out) ?_
       ·rw [if_pos (by rfl)]
        rintro W ⟨r0, r1, r2, r3, r4⟩
        go_simp
       try simp only [Act.put, List.getElem_toArray, List.getElem_cons_succ, List.getElem_cons_zero, List.setIfInBounds_toArray, List.set_cons_zero, List.set_cons_succ]
       refine heldTill_take 10 (.int .i64 (k : Int)) rfl (by kernel_rfl) (by kernel_rfl) (by kernel_rfl) (by kernel_rfl) (fun _ _ _ h => h) ?_ (HS.out _ HB0.out) ?_
       ·rw [if_pos (by rfl)]
        rintro W ⟨r0, r1, r2, r3, r4⟩
        go_simp
       try simp only [Act.put, List.getElem_toArray, List.getElem_cons_succ, List.getElem_cons_zero, List.setIfInBounds_toArray, List.set_cons_zero, List.set_cons_succ]
       refine heldTill_only 8 (by kernel_rfl) ?_
       refine wpOp_step rfl (fun K' hK => ?_)
       go_simp
       obtain ⟨M, hM⟩ : ∃ M, M = W0.alloc (.cells #[.slice Ab nb cb, .slice r.cells.ad rn r.cells.c] 23) := ⟨_, rfl⟩
       have HM1 := hide (show Below W0.heap.size W0 M by rw [hM]; exact below_alloc W0 _)
       have MB := hide (show Blk M W0.heap.size 23 #[.slice Ab nb cb, .slice r.cells.ad rn r.cells.c] by rw [hM]; exact Blk.new W0 _ _)
       have HM := hide (HB0.out.trans (HM1.out.mono HB0.out.size))
       rw [← hM]
       clear hM
       refine hK _ _ ⟨fun _ => HS.out _ HM.out, ?_⟩
       clear hK K'
       try simp only [Act.put, List.getElem_toArray, List.getElem_cons_succ, List.getElem_cons_zero, List.setIfInBounds_toArray, List.set_cons_zero, List.set_cons_succ]
       refine heldTill_only 9 (by kernel_rfl) ?_
       refine wpOp_step rfl (fun K' hK => ?_)
       go_simp
       go_at_call 65
       have hba := (HBS2.out.same HM.out).1
       have hra := ((HRB2.out.below HM.out).more HM.out.size).1
       refine (concat_any W0.heap.size Ab r.cells.ad cb r.cells.c bf r.cells.l M (by rw [← HNB.out, ← HRN.out]; exact MB.out) hba hra (by have := HRLC.out; have := HRN.out; omega) (by have := HRLC.out; have := HRN.out; have := HNB.out; have := HBFL.out; omega)).mono ?_
       rintro e N ⟨A', c', rfl, hbs3, hab3, hb3⟩
       have HN := hide (HM.out.trans (hb3.mono HM.out.size))
       have HBS3 := hide hbs3
       have hms := HM.out.size
       have hAB : ∀ a, A' = some a → w2.heap.size ≤ a.block := fun a ha => by have := hab3 a ha; omega
       obtain ⟨na, hna⟩ : ∃ na, na = (bf ++ r.cells.l).length := ⟨_, rfl⟩
       have HNA := hide hna
       rw [← hna]
       clear hbs3 hb3 hab3 hba hra hna
       refine hK _ _ ⟨fun _ => HS.out _ HN.out, ?_⟩
       clear hK K'
       try simp only [Act.put, List.getElem_toArray, List.getElem_cons_succ, List.getElem_cons_zero, List.setIfInBounds_toArray, List.set_cons_zero, List.set_cons_succ]
       refine heldTill_only 11 (by kernel_rfl) ?_
       refine wpOp_step rfl (fun K' hK => ?_)
       go_simp
       refine hK _ _ ⟨fun _ => HS.out _ HN.out, ?_⟩
       clear hK K'
       try simp only [Act.put, List.getElem_toArray, List.getElem_cons_succ, List.getElem_cons_zero, List.setIfInBounds_toArray, List.set_cons_zero, List.set_cons_succ]
       refine heldTill_only 12 (by kernel_rfl) ?_
       refine wpOp_step rfl (fun K' hK => ?_)
       go_simp
       obtain ⟨O, hO⟩ : ∃ O, O = N.alloc (.cells #[.int .i64 0, .bool false, .bool le, .int .i64 (tl : Int), .slice A' na c', .int .i64 (k : Int)] 88) := ⟨_, rfl⟩
       have HO1 := hide (show Below N.heap.size N O by rw [hO]; exact below_alloc N _)
       have OB := hide (show Blk O N.heap.size 88 #[.int .i64 0, .bool false, .bool le, .int .i64 (tl : Int), .slice A' na c', .int .i64 (k : Int)] by rw [hO]; exact Blk.new N _ _)
       have HOB := hide (HN.out.trans (HO1.out.mono HN.out.size))
       rw [← hO]
       clear hO
       refine hK _ _ ⟨fun _ => HS.out _ HOB.out, ?_⟩
       clear hK K'
       try simp only [Act.put, List.getElem_toArray, List.getElem_cons_succ, List.getElem_cons_zero, List.setIfInBounds_toArray, List.set_cons_zero, List.set_cons_succ]
       refine heldTill_only 13 (by kernel_rfl) ?_
       refine wpOp_step rfl (fun K' hK => ?_)
       have hosz := HOB.out.size
       have hxl : xs.length ≤ 96 := by have := HXL.out; have := HLT.out; omega
       obtain ⟨x, hx⟩ : ∃ x : Stp, x = ⟨⟨⟨0, false, le⟩, r.text.length, bf ++ r.cells.l, (k : Int)⟩, A', c'⟩ := ⟨_, rfl⟩
       have HX := hide hx
       have hspx : spC x = [.int .i64 0, .bool false, .bool le, .int .i64 (tl : Int), .slice A' na c', .int .i64 (k : Int)] := by rw [hx, HTL.out, HNA.out]; rfl
       obtain ⟨v', w', hrun, hown', hgrow', hat'⟩ := run_append_any (P := Tryd.prog) O w1.heap.size 51 51 88 j0 (.agg #[.int .i64 0, .bool false, .bool false, .int .i64 0, .slice none 0 0, .int .i64 0]) 6 56 Tryd.underlying51 HJ.out HY0.out HY1.out HY2.out rfl (by omega)
        s15 xs.length (STC xs) (own_below HO2.out HOB.out) O.heap.size (some ⟨N.heap.size, 0, none⟩) 1 1 (spC x)
        ⟨by rw [hspx]; rfl, fun _ => ⟨_, rfl, OB.out.lt, fun j u hu => by
         have h2 := Blk.cell OB.out j
         rw [show ((⟨N.heap.size, 0, none⟩ : Addr).add j) = ⟨N.heap.size, j, none⟩ by unfold Addr.add; split <;> simp_all, h2, ← hu, hspx]
         rw [List.getElem?_toArray]⟩⟩
        (fun u hu => STC_one [x] u (by unfold STC; simpa using hu)) (by unfold maxLen; omega) (by omega) (by omega)
       refine step_run_append (by rfl) (.tmp 64) (.tmp 76) 51 rfl s15 (.slice (some ⟨N.heap.size, 0, none⟩) 1 1) rfl rfl v' w' hrun ?_
       have hne13 : ∀ g, s15.ownBlock = some g → g ≠ g13 ∧ g ≠ gu := fun g hg => by have := hown15 g hg; omega
       have P13 := hide ((G13.out.below HOB.out (by omega)).grown hgrow' (fun h => (hne13 _ h.symm).1 rfl))
       have PU := hide ((GU.out.below HOB.out (by omega)).grown hgrow' (fun h => (hne13 _ h.symm).2 rfl))
       have HWP := hide (((HF2.out.trans (HOB.out.mono (by omega))).grown hgrow' (by omega) (fun g hg => (hown15 g hg).1)))
       have hxb : BsAt O O.heap.size (bsOf x) := by rw [hx]; exact HBS3.out.same HO1.out
       have HSP := hide ((HSF2.out.below HOB.out).snoc hxb (by
        rw [hx]
        intro a ha
        have h1 := hAB a ha
        intro hc
        have h2 := hown15 _ hc.symm
        omega) (by rw [hx]; show 0 < (bf ++ r.cells.l).length; rw [List.length_append]; have := HRLC.out; have := HRN.out; omega) hgrow' hat')
       have HOP := hide (show w'.ownsRow w1.heap.size 88 6 v' (xs ++ [x]).length (STC (xs ++ [x])) by
        rw [STC_append, List.length_append]
        have e : STC [x] = spC x := by unfold STC; simp
        rw [e]
        exact hown')
       refine hK _ _ ⟨fun _ => ⟨P13.out.cell 0, P13.out.cell 1, P13.out.cell 2, PU.out.cell 0, PU.out.cell 2⟩, ?_⟩
       clear hK K' hrun hown' hgrow' hat' hxb hne13
       try simp only [Act.put, List.getElem_toArray, List.getElem_cons_succ, List.getElem_cons_zero, List.setIfInBounds_toArray, List.set_cons_zero, List.set_cons_succ]
       refine heldTill_only 14 (by kernel_rfl) ?_
       refine wpOp_step rfl (fun K' hK => ?_)
       go_simp
       refine hK _ _ ⟨fun h => absurd rfl h, heldTill_done (by kernel_rfl) ?_⟩
       clear hK K'
       go_wp2
       exact ⟨⟨k + 1, xs ++ [x], _, HLT.out, by go_num, rfl, HOP.out, by rw [HPN.out, List.map_append, HXS.out, HX.out]; exact rfl, by have := HXL.out; simp [Hid]; omega, HSP.out, HWP.out⟩, by have := HLT.out; simp [intOf]; omega⟩
     ·obtain rfl : k = nr := by omega
      have HPF := hide (show xs.map (·.sp) = pcs by rw [HXS.out, HPC.out])
      have hnt : ¬ ((k : Int) < (k : Int)) := by omega
      clear hlt HXS HPC HPS HPA
      go_wp2
      go_ret
      first
       | exact ⟨_, xs, rfl, own_lower HO.out (by omega), HPF.out, HSF.out, WD.out⟩
       | exact ⟨_, rfl, xs, own_lower HO.out (by omega), HPF.out, HSF.out, WD.out⟩
set_option maxHeartbeats 8000000 in
set_option maxRecDepth 100000 in
theorem pieces_1 (v : Value) (t : Tb.Tab) (s : Tb.St) (A : Option Addr) (c : Nat) (l : Tb.Text) (p : Nat) (w : World) (h : TabAt w w.heap.size v t) (hr : TextAt w w.heap.size A l) (hp : p < l.length) (hc : l.length ≤ c)
  (hlang : s.lang = 1) (hrl : t.r1.length ≤ 96) (hri : ∀ r ∈ t.r1, Tb.right r = true) (hfl : t.fin.l.length ≤ 4) (hcl : t.cap.l.length ≤ 4) :
  Calls Tryd.prog 45 #[v, stV s, .slice A l.length c, .int .i64 (p : Int)] w fun e w' => ∃ v' xs, e = .returned v' ∧ w'.ownsRow w.heap.size 88 6 v' xs.length (STC xs) ∧ xs.map (·.sp) = Tb.pieces t.r1 t s l p ∧ StepsF w' v' xs ∧ Below w.heap.size w w' := by
 obtain ⟨i0, hi, hz0, hz1, hz2⟩ := info_parts byteInfo'
 have HI := hide hi
 have HZ0 := hide hz0
 have HZ1 := hide hz1
 have HZ2 := hide hz2
 obtain ⟨j0, hj, hy0, hy1, hy2⟩ := info_parts stepInfo3
 have HJ := hide hj
 have HY0 := hide hy0
 have HY1 := hide hy1
 have HY2 := hide hy2
 clear hi hz0 hz1 hz2 hj hy0 hy1 hy2
 have HR := hide hr
 obtain ⟨ad, rfl, hadb, hc0, hc1⟩ := reads_sym' hr p hp
 have CL := hide (fun W => letter_any (Tb.at_ l p).2 W)
 have CF := hide (fun (W : World) (hb : Below w.heap.size w W) => fitting_any (some ad) c l p W (hr.same hb) hp)
 have C1 := hide (fun (r : Tb.Rl) (hm : r ∈ t.r1) (W : World) (hb : Below w.heap.size w W) => fun g0 g1 g2 B hF => fit_any g0 g1 g2 (some ad) c l p r W (hr.same hb) hp hc (Tb.right_text (hri r hm)).1 (by have := (Tb.right_text (hri r hm)).2; omega) B hF)
 have HRC := hide (fun (r : Tb.Rl) (hm : r ∈ t.r1) => Tb.right_cells (hri r hm))
 have HPC := hide (show Tb.pieces t.r1 t s l p = (List.range t.r1.length).filterMap (Tb.pieceAt t.r1 t s l p) from rfl)
 have HPS := hide (Tb.pieces_step t.r1 t s l p)
 have HPA := hide (fun (k : Nat) (hk : k < t.r1.length) => (show Tb.pieceAt t.r1 t s l p k = if Tb.fits t.r1[k] l p then some ⟨⟨1, false, Tb.letter (Tb.at_ l p).2⟩, t.r1[k].text.length, Tb.before t s (Tb.at_ l p).2 ++ t.r1[k].cells.l, (k : Int)⟩ else none by
  unfold Tb.pieceAt
  rw [List.getElem?_eq_getElem hk, hlang]))
 have HBF := hide (show Tb.before t s (Tb.at_ l p).2 = (if Tb.letter (Tb.at_ l p).2 && s.num then t.fin.l else []) ++ (if Tb.capital (Tb.at_ l p).2 then t.cap.l else []) from rfl)
 obtain ⟨A0, A1, c0, c1, rfl, h0, h1, _, _, _, hcap, _, hfin, _⟩ := h
 have HRU := hide h1
 have HCAP := hide (fun (W : World) (hb : Below w.heap.size w W) => (hcap.1.below hb).more hb.size)
 have HFIN := hide (fun (W : World) (hb : Below w.heap.size w W) => (hfin.1.below hb).more hb.size)
 unfold stV
 rw [hlang]
 unfold VC at CL
 generalize Tb.pieces t.r1 t s l p = pcs at *
 generalize Tb.pieceAt t.r1 t s l p = pa at *
 generalize Tb.before t s (Tb.at_ l p).2 = bf at *
 generalize Tb.letter (Tb.at_ l p).2 = le at *
 generalize Tb.capital (Tb.at_ l p).2 = ca at *
 generalize (Tb.low (Tb.at_ l p).2).toNat = lo at *
 generalize (Tb.at_ l p).2.toNat = cn at *
 generalize (Tb.at_ l p).1 = la at *
 generalize s.num = sn at *
 generalize s.inn = si at *
 clear h0 h1 hcap hfin hlang hr hri
 obtain ⟨n4, hn4⟩ : ∃ n4, n4 = t.fin.l.length := ⟨_, rfl⟩
 obtain ⟨n3, hn3⟩ : ∃ n3, n3 = t.cap.l.length := ⟨_, rfl⟩
 have HN4 := hide hn4
 have HN3 := hide hn3
 rw [← hn4] at HFIN hfl ⊢
 rw [← hn3] at HCAP hcl ⊢
 generalize t.fin.l = fl at *
 generalize t.cap.l = cl at *
 obtain ⟨nr, hnr⟩ : ∃ nr, nr = t.r1.length := ⟨_, rfl⟩
 have HNR := hide hnr
 rw [← hnr] at HPC hrl ⊢
 generalize t.r0.length = no at *
 generalize t.r1 = rs at *
 generalize t.dig.l.length = nd at *
 generalize t.num.l.length = nn at *
 generalize t.sw.l.length = nw at *
 obtain ⟨n, hn⟩ : ∃ n, n = l.length := ⟨_, rfl⟩
 rw [← hn] at hp hc CF C1 ⊢
 have hp0 : (0 : Int) ≤ (p : Int) := by omega
 have hp1 : (p : Int) < (n : Int) := by omega
 have hrli : (nr : Int) ≤ 96 := by omega
 clear hn4 hn3 hnr hn
 go_enter Tryd.func45, Tryd.ntmps45
 go_upto_region 1 with fail
 refine name_world fun V hV => ?_
 have V4 := hide (show Blk V w.heap.size 29 #[.slice A0 no c0, .slice A1 nr c1, .slice t.dig.ad nd t.dig.c, .slice t.cap.ad n3 t.cap.c, .slice t.num.ad nn t.num.c, .slice t.fin.ad n4 t.fin.c, .slice t.sw.ad nw t.sw.c] by rw [← hV.out]; exact (Blk.new w _ _).alloc _)
 have V5 := hide (show Blk V (w.heap.size + 1) 54 #[.int .i64 1, .bool sn, .bool si] by rw [← hV.out]; exact Blk.new2 w _ _ _)
 have HV := hide (show Below w.heap.size w V by rw [← hV.out]; exact ((Below.refl _ _).alloc (Nat.le_refl _) _).alloc (by simp) _)
 have hgV := V5.out.lt
 have kc0 : V.cell? (ad.add (p * 2)) = some (.int .i64 la) := by rw [HV.out.cell (by rw [block_of_add]; exact hadb)]; exact hc0
 have kc1 : V.cell? ⟨(ad.add (p * 2)).block, (ad.add (p * 2)).off + 1, none⟩ = some (.int .u8 (cn : Int)) := by rw [HV.out.cell (by show (ad.add (p * 2)).block < _; rw [block_of_add]; exact hadb)]; exact hc1
 have k4 : V.cell? ⟨w.heap.size, 5, none⟩ = some (.slice t.fin.ad n4 t.fin.c) := V4.out.cell 5
 have k5 : V.cell? ⟨w.heap.size + 1, 1, none⟩ = some (.bool sn) := V5.out.cell 1
 have HVV := hide (Below.refl V.heap.size V)
 clear hV
 go_upto_region 3 with (go_at_call 63; refine (unhide CL _).mono ?_; rintro e w1 ⟨rfl, rfl⟩)
 go_cut [32] (fun s32 wx => s32 = .bool (le && sn) ∧ V = wx)
 case first =>
  cases le <;>
  ·go_wp2
   go_meet
   exact ⟨rfl, rfl⟩
 case rest =>
  obtain ⟨rfl, rfl⟩ := hcut
  go_upto_if 32 with fail
  go_cut [12] (fun s12 wx => wx.ownsRow V.heap.size 5 1 s12 (if le && sn then fl else []).length (BV (if le && sn then fl else [])) ∧ Below V.heap.size V wx)
  case first =>
   cases hls : (le && sn) with
   | true =>
    go_wp2_with (at_builtin; refine wpList_append_any _ rfl (.tmp 33) (.tmp 35) 23 rfl V.heap.size 5 i0 (.int .u8 0) 1 1 Tryd.underlying23 HI.out HZ0.out HZ1.out HZ2.out rfl (by omega) _ 0 [] rfl (own_nil _ _ _ _) _ t.fin.ad n4 t.fin.c (BV fl) rfl (HFIN.out V HV.out) (BV_one fl) (by unfold maxLen; omega) (by omega) (by simp) ?_; intro v2 w2 hown2 hgrow2 hat2; have HO2 := hide (own_count hown2); have HB2 := hide (below_grown hgrow2 (own_nil _ V.heap.size 5 1) (by simp)); clear hown2 hgrow2 hat2)
    go_meet
    exact ⟨by rw [hls, if_pos rfl]; exact HO2.out, HB2.out⟩
   | false =>
    go_wp2
    go_meet
    exact ⟨by rw [hls]; exact own_nil _ _ _ _, HVV.out⟩
  case rest =>
   obtain ⟨hown, hbel⟩ := hcut
   obtain ⟨X, rfl⟩ : ∃ X, X = wc := ⟨wc, rfl⟩
   obtain ⟨b1, hb1⟩ : ∃ b1, b1 = (if le && sn then fl else []) := ⟨_, rfl⟩
   have HB1L := hide (show b1.length ≤ 4 by rw [hb1]; split; (have := HN4.out; omega); simp)
   rw [← hb1] at hown HBF
   have HO := hide hown
   have HX := hide hbel
   have hxs := hbel.size
   have XW := hide (HV.out.trans (hbel.mono HV.out.size))
   have e4 : X.cell? ⟨w.heap.size, 3, none⟩ = some (.slice t.cap.ad n3 t.cap.c) := (V4.out.below hbel (by omega)).cell 3
   clear hown hbel hb1 kc0 kc1 k4 k5 HFIN
   go_upto_if 37 with fail
   go_cut [12] (fun s12 wx => wx.ownsRow V.heap.size 5 1 s12 bf.length (BV bf) ∧ Below V.heap.size V wx)
   case first =>
    cases ca with
    | true =>
     have HBF2 := hide (show bf = b1 ++ cl by rw [HBF.out]; rfl)
     clear HBF
     go_wp2_with (at_builtin; refine wpList_append_any _ rfl (.tmp 38) (.tmp 40) 23 rfl V.heap.size 5 i0 (.int .u8 0) 1 1 Tryd.underlying23 HI.out HZ0.out HZ1.out HZ2.out rfl (by omega) _ b1.length (BV b1) rfl HO.out _ t.cap.ad n3 t.cap.c (BV cl) rfl (HCAP.out X XW.out) (BV_one cl) (by have := HB1L.out; unfold maxLen; omega) (by have := HB1L.out; omega) hxs ?_; intro v2 w2 hown2 hgrow2 hat2; have HO2 := hide hown2; have HB2 := hide (HX.out.trans (below_grown hgrow2 HO.out hxs)); clear hown2 hgrow2 hat2)
     go_meet
     exact ⟨own_count (by rw [HBF2.out, BV_append]; exact HO2.out), HB2.out⟩
    | false =>
     have HBF2 := hide (show bf = b1 by rw [HBF.out]; simp)
     clear HBF
     go_wp2
     go_meet
     exact ⟨by rw [HBF2.out]; exact HO.out, HX.out⟩
   case rest =>
    obtain ⟨hown, hbel⟩ := hcut
    obtain ⟨Y, rfl⟩ : ∃ Y, Y = wc := ⟨wc, rfl⟩
    have HBFL := hide (show bf.length ≤ 8 by
     have h1 := HB1L.out
     rw [HBF.out, List.length_append]
     split
     ·have := HN3.out; omega
     ·simp; omega)
    obtain ⟨Ab, cb, hvb, hbs, _⟩ := bs_of_own hown (by have := HBFL.out; omega)
    subst hvb
    have HBS := hide hbs
    have HY := hide hbel
    have hys := hbel.size
    have YW := hide (HV.out.trans (hbel.mono HV.out.size))
    have Y4 := hide (V4.out.below hbel (by omega))
    have Y5 := hide (V5.out.below hbel (by omega))
    have e5 : Y.cell? ⟨w.heap.size + 1, 0, none⟩ = some (.int .i64 1) := Y5.out.cell 0
    obtain ⟨nb, hnb⟩ : ∃ nb, nb = bf.length := ⟨_, rfl⟩
    have HNB := hide hnb
    rw [← hnb] at HBFL ⊢
    clear hown hbel hbs e4 HO HX HCAP HBF XW hnb hxs
    go_upto_region 8 with fail
    refine name_world fun Z hZ => ?_
    have Z13 := hide (show Blk Z Y.heap.size 54 #[.int .i64 1, .bool false, .bool le] by rw [← hZ.out]; exact Blk.new Y _ _)
    have HZ := hide (show Below Y.heap.size Y Z by rw [← hZ.out]; exact below_alloc Y _)
    have ZW := hide (YW.out.trans (HZ.out.mono YW.out.size))
    have CFZ := hide (CF.out Z ZW.out)
    have hzl : Y.heap.size < Z.heap.size := Z13.out.lt
    clear hZ e5 CF
    go_upto_region 9 with (go_at_call 64; refine (unhide CFZ).mono ?_; rintro e w1 ⟨g0, g1, g2, rfl, hfit, hb1⟩; have HFI := hide hfit; have HB1 := hide hb1; clear hfit hb1)
    clear CFZ
    have hb1s := HB1.out.size
    have F4 := hide ((Y4.out.below HZ.out (by omega)).below HB1.out (by omega))
    have F5 := hide ((Y5.out.below HZ.out (by omega)).below HB1.out (by omega))
    have F13 := hide (Z13.out.below HB1.out (by omega))
    have HBSF := hide ((HBS.out.same HZ.out).same HB1.out)
    have WF := hide (ZW.out.trans (HB1.out.mono ZW.out.size))
    have e5 : w1.cell? ⟨w.heap.size + 1, 0, none⟩ = some (.int .i64 1) := F5.out.cell 0
    have e4 : w1.cell? ⟨w.heap.size, 1, none⟩ = some (.slice A1 nr c1) := F4.out.cell 1
    have hw1w : w.heap.size < w1.heap.size := F4.out.lt
    have hg13 : Y.heap.size < w1.heap.size := F13.out.lt
    have hl0 := HFI.out.l0.lt
    have hl1 := HFI.out.l1.lt
    have hl2 := HFI.out.l2.lt
    have HFF := hide (Below.refl w1.heap.size w1)
    unfold fitF
    generalize Y.heap.size = g13 at *
    clear HBS HY HVV HV Y4 Y5 F5 HZ Z13 ZW HB1 YW hgV hys V4 V5
    go_wp2
    go_loopw [15, 56] (fun s15 s wr => ∃ (k : Nat) (xs : List Stp) (y15 : Value), k ≤ nr ∧ s = .int .i64 (k : Int) ∧ y15 = s15 ∧ wr.ownsRow w1.heap.size 88 6 y15 xs.length (STC xs) ∧ Hid (xs.map (·.sp) = (List.range k).filterMap pa) ∧ Hid (xs.length ≤ k) ∧ StepsF wr y15 xs ∧ Below w1.heap.size w1 wr) (fun _ s _ => nr - (intOf s).toNat)
    case atStart => exact ⟨0, [], _, by omega, rfl, rfl, own_nil _ _ _ _, rfl, Nat.le_refl _, StepsF.nil _ _, HFF.out⟩
    case round =>
     obtain ⟨k, xs, s15, hk, rfl, rfl, hown, HXS, HXL, hsf, hbel⟩ := hrel
     obtain ⟨wd, rfl⟩ : ∃ wd, wd = wr := ⟨wr, rfl⟩
     have HO := hide hown
     have HSF := hide hsf
     have HB := hide hbel
     have WD := hide (WF.out.trans (hbel.mono WF.out.size))
     have hwd := hbel.size
     clear hown hsf hbel e4 e5
     by_cases hlt : k < nr
     ·have hil : k < rs.length := by rw [← HNR.out]; exact hlt
      obtain ⟨rad, hAr, hrb, hcs⟩ := reads_rule HRU.out k hil
      subst hAr
      have HEC := hide (show ∀ (j : Nat) (v : Value), ([.string (S rs[k].text), .int .i64 rs[k].wh, .slice rs[k].cells.ad rs[k].cells.l.length rs[k].cells.c] : List Value)[j]? = some v → wd.cell? ((rad.add (k * 3)).add j) = some v from fun j v hv => by
       rw [WD.out.cell (by rw [block_of_add, block_of_add]; exact hrb)]
       exact hcs j v hv)
      have hk0 : (0 : Int) ≤ (k : Int) := by omega
      have hk1 : (k : Int) < (nr : Int) := by omega
      have HLT := hide hlt
      have CFT := hide (C1.out rs[k] (List.getElem_mem hil))
      have HPK := hide (HPA.out k hil)
      have HRL := hide (HRC.out rs[k] (List.getElem_mem hil))
      have HRB := hide (fun (W : World) (hb : Below w.heap.size w W) => ((HRU.out.2.1 rs[k] (List.getElem_mem hil)).1.below hb).more hb.size)
      generalize rs[k] = r at *
      clear hcs hlt hil
      go_upto_region 13 with (with_reducible refine wpList_load_at rfl 45 (.tmp 59) rfl (rad.add (k * 3)) rfl [.string (S r.text), .int .i64 r.wh, .slice r.cells.ad r.cells.l.length r.cells.c] _ HEC.out Tryd.underlying45 rfl ?c1 ?_)
      case c1 => exact ruleInfo
      refine name_world fun U hU => ?_
      have UB := hide (show Blk U wd.heap.size 45 #[.string (S r.text), .int .i64 r.wh, .slice r.cells.ad r.cells.l.length r.cells.c] by rw [← hU.out]; exact Blk.new wd _ _)
      have HU1 := hide (show Below wd.heap.size wd U by rw [← hU.out]; exact below_alloc wd _)
      have HUF := hide (HB.out.trans (HU1.out.mono HB.out.size))
      have UW := hide (WD.out.trans (HU1.out.mono WD.out.size))
      have UF := hide (HFI.out.below HUF.out hl0 hl1 hl2)
      have U13 := hide (F13.out.below HUF.out hg13)
      have hUl : wd.heap.size < U.heap.size := UB.out.lt
      have f0 : U.cell? ⟨wd.heap.size, 0, none⟩ = some (.string (S r.text)) := UB.out.cell 0
      have f1 : U.cell? ⟨wd.heap.size, 1, none⟩ = some (.int .i64 r.wh) := UB.out.cell 1
      have f2 : U.cell? ⟨wd.heap.size, 2, none⟩ = some (.slice r.cells.ad r.cells.l.length r.cells.c) := UB.out.cell 2
      have CU := hide (CFT.out U UW.out g0 g1 g2 _ UF.out)
      clear hU HEC CFT
      cases hft : Tb.fits r l p with
      | false =>
       rw [hft] at CU
       have HPN := hide (show (List.range (k + 1)).filterMap pa = (List.range k).filterMap pa by rw [HPS.out, HPK.out, hft]; simp)
       clear hft HPK
       go_wp2_with (go_at_call 77; refine (unhide CU).mono ?_; rintro e w2 ⟨rfl, hb2⟩; have HB2 := hide hb2; clear hb2)
       exact ⟨⟨k + 1, xs, _, HLT.out, by go_num, rfl, own_below HO.out (HU1.out.trans (HB2.out.mono (by omega))), by rw [HPN.out]; exact HXS.out, Nat.le_succ_of_le HXL.out, HSF.out.below (HU1.out.trans (HB2.out.mono (by omega))), HUF.out.trans (HB2.out.mono (by omega))⟩, by have := HLT.out; simp [intOf]; omega⟩
      | true =>
       rw [hft] at CU
       have HPN := hide (show (List.range (k + 1)).filterMap pa = (List.range k).filterMap pa ++ [⟨⟨1, false, le⟩, r.text.length, bf ++ r.cells.l, (k : Int)⟩] by rw [HPS.out, HPK.out, hft]; simp)
       clear hft HPK
       go_upto_region 14 with (go_at_call 77; refine (unhide CU).mono ?_; rintro e w2 ⟨rfl, hb2⟩; have HB2 := hide hb2; clear hb2)
       have G13 := hide (U13.out.below HB2.out (by omega))
       have GU := hide (UB.out.below HB2.out hUl)
       have hb2s := HB2.out.size
       have HO2 := hide (own_below HO.out (HU1.out.trans (HB2.out.mono (by omega))))
       have HSF2 := hide (HSF.out.below (HU1.out.trans (HB2.out.mono (by omega))))
       have HF2 := hide (HUF.out.trans (HB2.out.mono (by omega)))
       have HW2 := hide (WF.out.trans (HF2.out.mono WF.out.size))
       have HBS2 := hide (show BsAt w2 w2.heap.size ⟨bf, Ab, cb⟩ from HBSF.out.same HF2.out)
       have HRB2 := hide (HRB.out w2 HW2.out)
       have hown15 : ∀ g, s15.ownBlock = some g → w1.heap.size ≤ g ∧ g < wd.heap.size := fun g hg => HO.out.lt g hg
       clear f0 f1 f2 CU HU1 UB HB2 HO HSF HUF UW UF U13 HB WD
       obtain ⟨gu, hgu⟩ : ∃ gu, gu = wd.heap.size := ⟨_, rfl⟩
       rw [← hgu] at GU hwd hUl hown15 ⊢
       obtain ⟨sv, hsv⟩ : ∃ sv, sv = S r.text := ⟨_, rfl⟩
       have hts : sv.size = r.text.length := by rw [hsv, S_size]
       rw [← hsv] at GU ⊢
       obtain ⟨tl, htl⟩ : ∃ tl, tl = r.text.length := ⟨_, rfl⟩
       rw [← htl] at hts
       have HTL := hide htl
       have HRLC := hide (show r.cells.l.length ≤ 4 ∧ 1 ≤ r.cells.l.length from ⟨HRL.out.2, HRL.out.1⟩)
       obtain ⟨rn, hrn⟩ : ∃ rn, rn = r.cells.l.length := ⟨_, rfl⟩
       rw [← hrn] at GU HRLC ⊢
       have HRN := hide hrn
       clear hgu hsv htl hrn HRL
       have HS := hide (show ∀ W, Below w2.heap.size w2 W → W.cell? ⟨g13, 0, none⟩ = some (.int .i64 1) ∧ W.cell? ⟨g13, 1, none⟩ = some (.bool false) ∧ W.cell? ⟨g13, 2, none⟩ = some (.bool le) ∧ W.cell? ⟨gu, 0, none⟩ = some (.string sv) ∧ W.cell? ⟨gu, 2, none⟩ = some (.slice r.cells.ad rn r.cells.c) from fun W hb => by
        have h1 := G13.out.below hb (by omega)
        have h2 := GU.out.below hb (by omega)
        exact ⟨h1.cell 0, h1.cell 1, h1.cell 2, h2.cell 0, h2.cell 2⟩)
       refine wp_region_held_till (fun W => W.cell? ⟨g13, 0, none⟩ = some (.int .i64 1) ∧ W.cell? ⟨g13, 1, none⟩ = some (.bool false) ∧ W.cell? ⟨g13, 2, none⟩ = some (.bool le) ∧ W.cell? ⟨gu, 0, none⟩ = some (.string sv) ∧ W.cell? ⟨gu, 2, none⟩ = some (.slice r.cells.ad rn r.cells.c)) 14 (by kernel_rfl) ?_
       obtain ⟨W0, hW0⟩ : ∃ W0, W0 = w2.drew := ⟨_, rfl⟩
       have HB0 := hide (show Below w2.heap.size w2 W0 by rw [hW0]; exact (Below.refl _ _).drew)
       rw [← hW0]
       clear hW0
       refine heldTill_take 0 (s15) rfl (by kernel_rfl) (by kernel_rfl) (by kernel_rfl) (by kernel_rfl) (fun _ _ _ h => h) ?_ (HS.out _ HB0.out) ?_
       ·rw [if_pos (by rfl)]
        rintro W ⟨r0, r1, r2, r3, r4⟩
        go_simp
       try simp only [Act.put, List.getElem_toArray, List.getElem_cons_succ, List.getElem_cons_zero, List.setIfInBounds_toArray, List.set_cons_zero, List.set_cons_succ]
       refine heldTill_take 1 (.agg #[.int .i64 1, .bool false, .bool le]) rfl (by kernel_rfl) (by kernel_rfl) (by kernel_rfl) (by kernel_rfl) (fun _ _ _ h => h) ?_ (HS.out _ HB0.out) ?_
       ·rw [if_pos (by rfl)]
        rintro W ⟨r0, r1, r2, r3, r4⟩
        go_simp
       try simp only [Act.put, List.getElem_toArray, List.getElem_cons_succ, List.getElem_cons_zero, List.setIfInBounds_toArray, List.set_cons_zero, List.set_cons_succ]
       refine heldTill_take 2 (.pointer (some ⟨gu, 0, none⟩)) rfl (by kernel_rfl) (by kernel_rfl) (by kernel_rfl) (by kernel_rfl) (fun _ _ _ h => h) ?_ (HS.out _ HB0.out) ?_
       ·rw [if_pos (by rfl)]
        rintro W ⟨r0, r1, r2, r3, r4⟩
        go_simp
       try simp only [Act.put, List.getElem_toArray, List.getElem_cons_succ, List.getElem_cons_zero, List.setIfInBounds_toArray, List.set_cons_zero, List.set_cons_succ]
       refine heldTill_take 3 (.string sv) rfl (by kernel_rfl) (by kernel_rfl) (by kernel_rfl) (by kernel_rfl) (fun _ _ _ h => h) ?_ (HS.out _ HB0.out) ?_
       ·rw [if_pos (by rfl)]
        rintro W ⟨r0, r1, r2, r3, r4⟩
        go_simp
       try simp only [Act.put, List.getElem_toArray, List.getElem_cons_succ, List.getElem_cons_zero, List.setIfInBounds_toArray, List.set_cons_zero, List.set_cons_succ]
       refine heldTill_take 4 (.int .i64 (tl : Int)) rfl (by kernel_rfl) (by kernel_rfl) (by kernel_rfl) (by kernel_rfl) (fun _ _ _ h => h) ?_ (HS.out _ HB0.out) ?_
       ·rw [if_pos (by rfl)]
        rintro W ⟨r0, r1, r2, r3, r4⟩
        go_simp
       try simp only [Act.put, List.getElem_toArray, List.getElem_cons_succ, List.getElem_cons_zero, List.setIfInBounds_toArray, List.set_cons_zero, List.set_cons_succ]
       refine heldTill_take 5 (.slice Ab nb cb) rfl (by kernel_rfl) (by kernel_rfl) (by kernel_rfl) (by kernel_rfl) (fun _ _ _ h => h) ?_ (HS.out _ HB0.out) ?_
       ·rw [if_pos (by rfl)]
        rintro W ⟨r0, r1, r2, r3, r4⟩
        go_simp
       try simp only [Act.put, List.getElem_toArray, List.getElem_cons_succ, List.getElem_cons_zero, List.setIfInBounds_toArray, List.set_cons_zero, List.set_cons_succ]
       refine heldTill_take 6 (.pointer (some ⟨gu, 2, none⟩)) rfl (by kernel_rfl) (by kernel_rfl) (by kernel_rfl) (by kernel_rfl) (fun _ _ _ h => h) ?_ (HS.out _ HB0.out) ?_
       ·rw [if_pos (by rfl)]
        rintro W ⟨r0, r1, r2, r3, r4⟩
        go_simp
       try simp only [Act.put, List.getElem_toArray, List.getElem_cons_succ, List.getElem_cons_zero, List.setIfInBounds_toArray, List.set_cons_zero, List.set_cons_succ]
       refine heldTill_take 7 (.slice r.cells.ad rn r.cells.c) rfl (by kernel_rfl) (by kernel_rfl) (by kernel_rfl) (by kernel_rfl) (fun _ _ _ h => h) ?_ (HS.out _ HB0.out) ?_
       ·rw [if_pos (by rfl)]
        rintro W ⟨r0, r1, r2, r3, r4⟩
        go_simp
       try simp only [Act.put, List.getElem_toArray, List.getElem_cons_succ, List.getElem_cons_zero, List.setIfInBounds_toArray, List.set_cons_zero, List.set_cons_succ]
       refine heldTill_take 10 (.int .i64 (k : Int)) rfl (by kernel_rfl) (by kernel_rfl) (by kernel_rfl) (by kernel_rfl) (fun _ _ _ h => h) ?_ (HS.out _ HB0.out) ?_
       ·rw [if_pos (by rfl)]
        rintro W ⟨r0, r1, r2, r3, r4⟩
        go_simp
       try simp only [Act.put, List.getElem_toArray, List.getElem_cons_succ, List.getElem_cons_zero, List.setIfInBounds_toArray, List.set_cons_zero, List.set_cons_succ]
       refine heldTill_only 8 (by kernel_rfl) ?_
       refine wpOp_step rfl (fun K' hK => ?_)
       go_simp
       obtain ⟨M, hM⟩ : ∃ M, M = W0.alloc (.cells #[.slice Ab nb cb, .slice r.cells.ad rn r.cells.c] 23) := ⟨_, rfl⟩
       have HM1 := hide (show Below W0.heap.size W0 M by rw [hM]; exact below_alloc W0 _)
       have MB := hide (show Blk M W0.heap.size 23 #[.slice Ab nb cb, .slice r.cells.ad rn r.cells.c] by rw [hM]; exact Blk.new W0 _ _)
       have HM := hide (HB0.out.trans (HM1.out.mono HB0.out.size))
       rw [← hM]
       clear hM
       refine hK _ _ ⟨fun _ => HS.out _ HM.out, ?_⟩
       clear hK K'
       try simp only [Act.put, List.getElem_toArray, List.getElem_cons_succ, List.getElem_cons_zero, List.setIfInBounds_toArray, List.set_cons_zero, List.set_cons_succ]
       refine heldTill_only 9 (by kernel_rfl) ?_
       refine wpOp_step rfl (fun K' hK => ?_)
       go_simp
       go_at_call 65
       have hba := (HBS2.out.same HM.out).1
       have hra := ((HRB2.out.below HM.out).more HM.out.size).1
       refine (concat_any W0.heap.size Ab r.cells.ad cb r.cells.c bf r.cells.l M (by rw [← HNB.out, ← HRN.out]; exact MB.out) hba hra (by have := HRLC.out; have := HRN.out; omega) (by have := HRLC.out; have := HRN.out; have := HNB.out; have := HBFL.out; omega)).mono ?_
       rintro e N ⟨A', c', rfl, hbs3, hab3, hb3⟩
       have HN := hide (HM.out.trans (hb3.mono HM.out.size))
       have HBS3 := hide hbs3
       have hms := HM.out.size
       have hAB : ∀ a, A' = some a → w2.heap.size ≤ a.block := fun a ha => by have := hab3 a ha; omega
       obtain ⟨na, hna⟩ : ∃ na, na = (bf ++ r.cells.l).length := ⟨_, rfl⟩
       have HNA := hide hna
       rw [← hna]
       clear hbs3 hb3 hab3 hba hra hna
       refine hK _ _ ⟨fun _ => HS.out _ HN.out, ?_⟩
       clear hK K'
       try simp only [Act.put, List.getElem_toArray, List.getElem_cons_succ, List.getElem_cons_zero, List.setIfInBounds_toArray, List.set_cons_zero, List.set_cons_succ]
       refine heldTill_only 11 (by kernel_rfl) ?_
       refine wpOp_step rfl (fun K' hK => ?_)
       go_simp
       refine hK _ _ ⟨fun _ => HS.out _ HN.out, ?_⟩
       clear hK K'
       try simp only [Act.put, List.getElem_toArray, List.getElem_cons_succ, List.getElem_cons_zero, List.setIfInBounds_toArray, List.set_cons_zero, List.set_cons_succ]
       refine heldTill_only 12 (by kernel_rfl) ?_
       refine wpOp_step rfl (fun K' hK => ?_)
       go_simp
       obtain ⟨O, hO⟩ : ∃ O, O = N.alloc (.cells #[.int .i64 1, .bool false, .bool le, .int .i64 (tl : Int), .slice A' na c', .int .i64 (k : Int)] 88) := ⟨_, rfl⟩
       have HO1 := hide (show Below N.heap.size N O by rw [hO]; exact below_alloc N _)
       have OB := hide (show Blk O N.heap.size 88 #[.int .i64 1, .bool false, .bool le, .int .i64 (tl : Int), .slice A' na c', .int .i64 (k : Int)] by rw [hO]; exact Blk.new N _ _)
       have HOB := hide (HN.out.trans (HO1.out.mono HN.out.size))
       rw [← hO]
       clear hO
       refine hK _ _ ⟨fun _ => HS.out _ HOB.out, ?_⟩
       clear hK K'
       try simp only [Act.put, List.getElem_toArray, List.getElem_cons_succ, List.getElem_cons_zero, List.setIfInBounds_toArray, List.set_cons_zero, List.set_cons_succ]
       refine heldTill_only 13 (by kernel_rfl) ?_
       refine wpOp_step rfl (fun K' hK => ?_)
       have hosz := HOB.out.size
       have hxl : xs.length ≤ 96 := by have := HXL.out; have := HLT.out; omega
       obtain ⟨x, hx⟩ : ∃ x : Stp, x = ⟨⟨⟨1, false, le⟩, r.text.length, bf ++ r.cells.l, (k : Int)⟩, A', c'⟩ := ⟨_, rfl⟩
       have HX := hide hx
       have hspx : spC x = [.int .i64 1, .bool false, .bool le, .int .i64 (tl : Int), .slice A' na c', .int .i64 (k : Int)] := by rw [hx, HTL.out, HNA.out]; rfl
       obtain ⟨v', w', hrun, hown', hgrow', hat'⟩ := run_append_any (P := Tryd.prog) O w1.heap.size 51 51 88 j0 (.agg #[.int .i64 0, .bool false, .bool false, .int .i64 0, .slice none 0 0, .int .i64 0]) 6 56 Tryd.underlying51 HJ.out HY0.out HY1.out HY2.out rfl (by omega)
        s15 xs.length (STC xs) (own_below HO2.out HOB.out) O.heap.size (some ⟨N.heap.size, 0, none⟩) 1 1 (spC x)
        ⟨by rw [hspx]; rfl, fun _ => ⟨_, rfl, OB.out.lt, fun j u hu => by
         have h2 := Blk.cell OB.out j
         rw [show ((⟨N.heap.size, 0, none⟩ : Addr).add j) = ⟨N.heap.size, j, none⟩ by unfold Addr.add; split <;> simp_all, h2, ← hu, hspx]
         rw [List.getElem?_toArray]⟩⟩
        (fun u hu => STC_one [x] u (by unfold STC; simpa using hu)) (by unfold maxLen; omega) (by omega) (by omega)
       refine step_run_append (by rfl) (.tmp 64) (.tmp 76) 51 rfl s15 (.slice (some ⟨N.heap.size, 0, none⟩) 1 1) rfl rfl v' w' hrun ?_
       have hne13 : ∀ g, s15.ownBlock = some g → g ≠ g13 ∧ g ≠ gu := fun g hg => by have := hown15 g hg; omega
       have P13 := hide ((G13.out.below HOB.out (by omega)).grown hgrow' (fun h => (hne13 _ h.symm).1 rfl))
       have PU := hide ((GU.out.below HOB.out (by omega)).grown hgrow' (fun h => (hne13 _ h.symm).2 rfl))
       have HWP := hide (((HF2.out.trans (HOB.out.mono (by omega))).grown hgrow' (by omega) (fun g hg => (hown15 g hg).1)))
       have hxb : BsAt O O.heap.size (bsOf x) := by rw [hx]; exact HBS3.out.same HO1.out
       have HSP := hide ((HSF2.out.below HOB.out).snoc hxb (by
        rw [hx]
        intro a ha
        have h1 := hAB a ha
        intro hc
        have h2 := hown15 _ hc.symm
        omega) (by rw [hx]; show 0 < (bf ++ r.cells.l).length; rw [List.length_append]; have := HRLC.out; have := HRN.out; omega) hgrow' hat')
       have HOP := hide (show w'.ownsRow w1.heap.size 88 6 v' (xs ++ [x]).length (STC (xs ++ [x])) by
        rw [STC_append, List.length_append]
        have e : STC [x] = spC x := by unfold STC; simp
        rw [e]
        exact hown')
       refine hK _ _ ⟨fun _ => ⟨P13.out.cell 0, P13.out.cell 1, P13.out.cell 2, PU.out.cell 0, PU.out.cell 2⟩, ?_⟩
       clear hK K' hrun hown' hgrow' hat' hxb hne13
       try simp only [Act.put, List.getElem_toArray, List.getElem_cons_succ, List.getElem_cons_zero, List.setIfInBounds_toArray, List.set_cons_zero, List.set_cons_succ]
       refine heldTill_only 14 (by kernel_rfl) ?_
       refine wpOp_step rfl (fun K' hK => ?_)
       go_simp
       refine hK _ _ ⟨fun h => absurd rfl h, heldTill_done (by kernel_rfl) ?_⟩
       clear hK K'
       go_wp2
       exact ⟨⟨k + 1, xs ++ [x], _, HLT.out, by go_num, rfl, HOP.out, by rw [HPN.out, List.map_append, HXS.out, HX.out]; exact rfl, by have := HXL.out; simp [Hid]; omega, HSP.out, HWP.out⟩, by have := HLT.out; simp [intOf]; omega⟩
     ·obtain rfl : k = nr := by omega
      have HPF := hide (show xs.map (·.sp) = pcs by rw [HXS.out, HPC.out])
      have hnt : ¬ ((k : Int) < (k : Int)) := by omega
      clear hlt HXS HPC HPS HPA
      go_wp2
      go_ret
      first
       | exact ⟨_, xs, rfl, own_lower HO.out (by omega), HPF.out, HSF.out, WD.out⟩
       | exact ⟨_, rfl, xs, own_lower HO.out (by omega), HPF.out, HSF.out, WD.out⟩
def StepsAt (w : World) (v : Value) (xs : List Stp) : Prop :=
 ∃ A c, v = .slice A xs.length c ∧ xs.length ≤ c ∧ xs.length ≤ 96 ∧ Reads w w.heap.size 6 A xs.length (STC xs) ∧ ∀ x ∈ xs, BsAt w w.heap.size (bsOf x)
theorem StepsAt.same {w w' : World} {v : Value} {xs : List Stp} (h : StepsAt w v xs) (hb : Below w.heap.size w w') : StepsAt w' v xs := by
 obtain ⟨A, c, h1, h2, h3, h4, h5⟩ := h
 exact ⟨A, c, h1, h2, h3, (h4.below hb).more hb.size, fun x hx => (h5 x hx).same hb⟩
theorem StepsAt.nil (w : World) : StepsAt w (.slice none 0 0) [] := ⟨none, 0, rfl, Nat.le_refl _, by simp, ⟨rfl, fun h => absurd h (by simp)⟩, fun x hx => by cases hx⟩
theorem own_form6 {w : World} {b n : Nat} {v : Value} {xs : List Stp} (h : w.ownsRow b 88 6 v n (STC xs)) (hn : n = xs.length) (hx : ∀ x ∈ xs, BsAt w w.heap.size (bsOf x)) (h96 : xs.length ≤ 96) : StepsAt w v xs := by
 subst hn
 rcases h.2 with ⟨rfl, h0⟩ | ⟨g, cap, cur, rfl, _, _, hc, _⟩
 ·have : xs = [] := List.eq_nil_of_length_eq_zero h0
  subst this
  exact StepsAt.nil w
 ·exact ⟨_, cap, rfl, hc, h96, Reads.of_own h, hx⟩
theorem filterMap_len {α β : Type} (f : α → Option β) (l : List α) : (l.filterMap f).length ≤ l.length := List.length_filterMap_le f l
theorem pieces_any (v : Value) (t : Tb.Tab) (s : Tb.St) (A : Option Addr) (c : Nat) (l : Tb.Text) (p : Nat) (w : World) (h : TabAt w w.heap.size v t) (hr : TextAt w w.heap.size A l) (hp : p < l.length) (hc : l.length ≤ c)
  (hlang : Tb.langOk s.lang = true) (hval : Tb.valid t = 0) :
  Calls Tryd.prog 45 #[v, stV s, .slice A l.length c, .int .i64 (p : Int)] w fun e w' => ∃ v' xs, e = .returned v' ∧ StepsAt w' v' xs ∧ xs.map (·.sp) = Tb.pieces (Tb.rulesOf t s.lang) t s l p ∧ Below w.heap.size w w' := by
 obtain ⟨h0, h1, hpr, _⟩ := Tb.valid_zero hval
 obtain ⟨hr0, hr1, _, _, hcap, _, hfin, _⟩ := Tb.proper_parts hpr
 have hl : 0 ≤ s.lang ∧ s.lang < 2 := of_decide_eq_true hlang
 have fin : ∀ (rs : List Tb.Rl) (hl : rs.length ≤ 96) (e : Ending) (w' : World), (∃ v' xs, e = .returned v' ∧ w'.ownsRow w.heap.size 88 6 v' xs.length (STC xs) ∧ xs.map (·.sp) = Tb.pieces rs t s l p ∧ StepsF w' v' xs ∧ Below w.heap.size w w') →
   ∃ v' xs, e = .returned v' ∧ StepsAt w' v' xs ∧ xs.map (·.sp) = Tb.pieces rs t s l p ∧ Below w.heap.size w w' := by
  rintro rs hl e w' ⟨v', xs, he, ho, hm, hf, hb⟩
  refine ⟨v', xs, he, own_form6 ho rfl (fun x hx => (hf x hx).1) ?_, hm, hb⟩
  have h1 : xs.length = (Tb.pieces rs t s l p).length := by rw [← hm, List.length_map]
  have h2 : (Tb.pieces rs t s l p).length ≤ rs.length := by unfold Tb.pieces; have := filterMap_len (Tb.pieceAt rs t s l p) (List.range rs.length); simpa using this
  omega
 by_cases hz : s.lang = 0
 ·have e : Tb.rulesOf t s.lang = t.r0 := by unfold Tb.rulesOf; rw [if_pos hz]
  rw [e]
  exact (pieces_0 v t s A c l p w h hr hp hc hz h0 hr0 (Tb.writable_len hfin).2 (Tb.writable_len hcap).2).mono (fin t.r0 h0)
 ·have e : Tb.rulesOf t s.lang = t.r1 := by unfold Tb.rulesOf; rw [if_neg hz]
  rw [e]
  exact (pieces_1 v t s A c l p w h hr hp hc (by omega) h1 hr1 (Tb.writable_len hfin).2 (Tb.writable_len hcap).2).mono (fin t.r1 h1)
theorem SC1_reads (x : Stp) (w : World) : Reads (w.alloc (.cells (spC x).toArray 88)) (w.alloc (.cells (spC x).toArray 88)).heap.size 6 (some ⟨w.heap.size, 0, none⟩) 1 (STC [x]) := by
 have e : STC [x] = spC x := by unfold STC; simp
 rw [e]
 refine ⟨rfl, fun _ => ⟨_, rfl, by simp, fun j u hu => ?_⟩⟩
 have h2 := Blk.cell (Blk.new w 88 (spC x).toArray) j
 rw [show ((⟨w.heap.size, 0, none⟩ : Addr).add j) = ⟨w.heap.size, j, none⟩ by unfold Addr.add; split <;> simp_all, h2, ← hu]
 rw [List.getElem?_toArray]
theorem steps_one (x : Stp) (w : World) (hx : BsAt w w.heap.size (bsOf x)) : StepsAt (w.alloc (.cells (spC x).toArray 88)) (.slice (some ⟨w.heap.size, 0, none⟩) 1 1) [x] :=
 ⟨_, 1, rfl, Nat.le_refl _, by simp, SC1_reads x w, fun y hy => by
  rw [List.mem_singleton] at hy
  subst hy
  exact hx.same (below_alloc w _)⟩
set_option maxHeartbeats 8000000 in
set_option maxRecDepth 100000 in
theorem steps_any (v : Value) (t : Tb.Tab) (s : Tb.St) (A : Option Addr) (c : Nat) (l : Tb.Text) (p : Int) (w : World) (h : TabAt w w.heap.size v t) (hr : TextAt w w.heap.size A l) (hc : l.length ≤ c) :
  Calls Tryd.prog 19 #[v, stV s, .slice A l.length c, .int .i64 p] w fun e w' => ∃ v' xs, e = .returned v' ∧ StepsAt w' v' xs ∧ xs.map (·.sp) = Tb.steps t s l p ∧ Below w.heap.size w w' := by
 have HS := hide (show Tb.steps t s l p = if 0 ≤ p ∧ p < l.length ∧ Tb.langOk s.lang = true ∧ l.all Tb.symOk = true ∧ Tb.valid t = 0 then Tb.next t s l p.toNat else [] from rfl)
 have CLG := hide (fun W => language_any W s.lang)
 have CEV0 := hide (fun (W : World) (hb : Below w.heap.size w W) => every_valid A c l W (hr.same hb))
 have CVA0 := hide (fun (W : World) (hb : Below w.heap.size w W) => valid_any v t W ((h.below hb).more hb.size))
 have CNU0 := hide (fun (ch : UInt8) (hch : Tb.digit ch = true) (hv : Tb.valid t = 0) (W : World) (hb : Below w.heap.size w W) => number_any v t s ch W ((h.below hb).more hb.size) (Tb.writable_len (Tb.proper_parts (Tb.valid_zero hv).2.2.1).2.2.2.2.2.1).2 (Tb.proper_parts (Tb.valid_zero hv).2.2.1).2.2.1 hch)
 have CPI0 := hide (fun (q : Nat) (hq : q < l.length) (hlang : Tb.langOk s.lang = true) (hv : Tb.valid t = 0) (W : World) (hb : Below w.heap.size w W) => pieces_any v t s A c l q W ((h.below hb).more hb.size) (hr.same hb) hq hc hlang hv)
 have HR := hide hr
 have HN0 := hide (fun (q : Nat) => (show Tb.next t s l q = if (Tb.at_ l q).1 ≠ s.lang then [⟨⟨(Tb.at_ l q).1, false, false⟩, 0, t.sw.l, -1⟩] else if Tb.digit (Tb.at_ l q).2 then [Tb.number t s (Tb.at_ l q).2] else Tb.pieces (Tb.rulesOf t s.lang) t s l q from rfl))
 have HSW := hide (fun (hv : Tb.valid t = 0) => Tb.writable_len (Tb.proper_parts (Tb.valid_zero hv).2.2.1).2.2.2.2.2.2.2)
 obtain ⟨A0, A1, c0, c1, rfl, h0, h1, _, _, hd, hcap, hnum, hfin, hsw⟩ := h
 have HSWB := hide hsw
 have hbig := hr.2
 clear h0 h1 hd hcap hnum hfin hsw hr
 unfold stV at *
 generalize Tb.steps t s l p = sts at *
 generalize hva : Tb.valid t = va at *
 generalize hall : l.all Tb.symOk = al at *
 generalize hlo : Tb.langOk s.lang = lo at *
 obtain ⟨n, hn⟩ : ∃ n, n = l.length := ⟨_, rfl⟩
 have HNL := hide hn
 rw [← hn] at HS CEV0 CPI0 hc hbig ⊢
 have hni : (n : Int) ≤ 1048576 := by omega
 generalize t.r0.length = n0 at *
 generalize t.r1.length = n1 at *
 generalize t.dig.l.length = n2 at *
 generalize t.cap.l.length = n3 at *
 generalize t.num.l.length = n4 at *
 generalize t.fin.l.length = n5 at *
 obtain ⟨n6, hn6⟩ : ∃ n6, n6 = t.sw.l.length := ⟨_, rfl⟩
 have HN6 := hide hn6
 rw [← hn6] at CVA0 CNU0 CPI0 ⊢
 generalize hsl : s.lang = sl at *
 generalize s.num = sn at *
 generalize s.inn = si at *
 have HSL := hide hsl
 clear hn hn6 hva hall hlo hsl
 go_enter Tryd.func19, Tryd.ntmps19
 go_upto_region 1 with fail
 refine name_world fun V hV => ?_
 have V4 := hide (show Blk V w.heap.size 29 #[.slice A0 n0 c0, .slice A1 n1 c1, .slice t.dig.ad n2 t.dig.c, .slice t.cap.ad n3 t.cap.c, .slice t.num.ad n4 t.num.c, .slice t.fin.ad n5 t.fin.c, .slice t.sw.ad n6 t.sw.c] by rw [← hV.out]; exact (Blk.new w _ _).alloc _)
 have V5 := hide (show Blk V (w.heap.size + 1) 54 #[.int .i64 sl, .bool sn, .bool si] by rw [← hV.out]; exact Blk.new2 w _ _ _)
 have HV := hide (show Below w.heap.size w V by rw [← hV.out]; exact ((Below.refl _ _).alloc (Nat.le_refl _) _).alloc (by simp) _)
 have hgV := V5.out.lt
 have CEV := hide (CEV0.out V HV.out)
 have CVA := hide (CVA0.out)
 have k5 : V.cell? ⟨w.heap.size + 1, 0, none⟩ = some (.int .i64 sl) := V5.out.cell 0
 clear hV CEV0 CVA0
 by_cases hp0 : p < 0
 ·have HF := hide (show sts = [] by rw [HS.out, if_neg (by omega)])
  clear HS CPI0 CNU0
  go_wp2
  go_ret
  first
   | exact ⟨_, [], rfl, StepsAt.nil _, by rw [HF.out]; rfl, HV.out⟩
   | exact ⟨_, rfl, [], StepsAt.nil _, by rw [HF.out]; rfl, HV.out⟩
 ·obtain ⟨q, rfl⟩ : ∃ q : Nat, p = (q : Int) := ⟨p.toNat, by omega⟩
  have hq0 : (0 : Int) ≤ (q : Int) := by omega
  clear hp0
  by_cases hqn : (n : Int) ≤ (q : Int)
  ·have HF := hide (show sts = [] by rw [HS.out, if_neg (by omega)])
   clear HS CPI0 CNU0
   go_wp2
   go_ret
   first
    | exact ⟨_, [], rfl, StepsAt.nil _, by rw [HF.out]; rfl, HV.out⟩
    | exact ⟨_, rfl, [], StepsAt.nil _, by rw [HF.out]; rfl, HV.out⟩
  ·have hq1 : (q : Int) < (n : Int) := by omega
   cases lo with
   | false =>
    have HF := hide (show sts = [] by rw [HS.out, if_neg (by simp)])
    clear HS CPI0 CNU0
    go_wp2_with (first
   | (go_at_call 38; refine (unhide CLG _).mono ?_; rintro e w1 ⟨rfl, rfl⟩)
   | (go_at_call 39; refine (unhide CEV).mono ?_; rintro e w2 ⟨rfl, hb2⟩; have B2 := hide hb2; have Q4 := V4.out.below hb2 (by omega); have h0 : w2.cell? ⟨w.heap.size, 0, none⟩ = some (.slice A0 n0 c0) := Q4.cell 0; have h1 : w2.cell? ⟨w.heap.size, 1, none⟩ = some (.slice A1 n1 c1) := Q4.cell 1; have h2 : w2.cell? ⟨w.heap.size, 2, none⟩ = some (.slice t.dig.ad n2 t.dig.c) := Q4.cell 2; have h3 : w2.cell? ⟨w.heap.size, 3, none⟩ = some (.slice t.cap.ad n3 t.cap.c) := Q4.cell 3; have h4 : w2.cell? ⟨w.heap.size, 4, none⟩ = some (.slice t.num.ad n4 t.num.c) := Q4.cell 4; have h5 : w2.cell? ⟨w.heap.size, 5, none⟩ = some (.slice t.fin.ad n5 t.fin.c) := Q4.cell 5; have h6 : w2.cell? ⟨w.heap.size, 6, none⟩ = some (.slice t.sw.ad n6 t.sw.c) := Q4.cell 6; clear hb2 Q4)
   | (go_at_call 41; refine (unhide CVA w2 (HV.out.trans (B2.out.mono HV.out.size))).mono ?_; rintro e w3 ⟨rfl, hb3⟩; have B3 := hide hb3; clear hb3))
    go_ret
    first
     | exact ⟨_, [], rfl, StepsAt.nil _, by rw [HF.out]; rfl, HV.out⟩
     | exact ⟨_, rfl, [], StepsAt.nil _, by rw [HF.out]; rfl, HV.out⟩
   | true =>
   cases al with
   | false =>
    have HF := hide (show sts = [] by rw [HS.out, if_neg (by simp)])
    clear HS CPI0 CNU0
    go_wp2_with (first
   | (go_at_call 38; refine (unhide CLG _).mono ?_; rintro e w1 ⟨rfl, rfl⟩)
   | (go_at_call 39; refine (unhide CEV).mono ?_; rintro e w2 ⟨rfl, hb2⟩; have B2 := hide hb2; have Q4 := V4.out.below hb2 (by omega); have h0 : w2.cell? ⟨w.heap.size, 0, none⟩ = some (.slice A0 n0 c0) := Q4.cell 0; have h1 : w2.cell? ⟨w.heap.size, 1, none⟩ = some (.slice A1 n1 c1) := Q4.cell 1; have h2 : w2.cell? ⟨w.heap.size, 2, none⟩ = some (.slice t.dig.ad n2 t.dig.c) := Q4.cell 2; have h3 : w2.cell? ⟨w.heap.size, 3, none⟩ = some (.slice t.cap.ad n3 t.cap.c) := Q4.cell 3; have h4 : w2.cell? ⟨w.heap.size, 4, none⟩ = some (.slice t.num.ad n4 t.num.c) := Q4.cell 4; have h5 : w2.cell? ⟨w.heap.size, 5, none⟩ = some (.slice t.fin.ad n5 t.fin.c) := Q4.cell 5; have h6 : w2.cell? ⟨w.heap.size, 6, none⟩ = some (.slice t.sw.ad n6 t.sw.c) := Q4.cell 6; clear hb2 Q4)
   | (go_at_call 41; refine (unhide CVA w2 (HV.out.trans (B2.out.mono HV.out.size))).mono ?_; rintro e w3 ⟨rfl, hb3⟩; have B3 := hide hb3; clear hb3))
    go_ret
    first
     | exact ⟨_, [], rfl, StepsAt.nil _, by rw [HF.out]; rfl, HV.out.trans (B2.out.mono HV.out.size)⟩
     | exact ⟨_, rfl, [], StepsAt.nil _, by rw [HF.out]; rfl, HV.out.trans (B2.out.mono HV.out.size)⟩
   | true =>
   by_cases hva0 : va = 0
   ·subst hva0
    have HS2 := hide (show sts = Tb.next t s l q by rw [HS.out, if_pos ⟨hq0, hq1, rfl, rfl, rfl⟩]; simp)
    have HNX := hide (HN0.out q)
    have CPI := hide (CPI0.out q (by omega) rfl rfl)
    have CNU := hide (fun (hch : Tb.digit (Tb.at_ l q).2 = true) => CNU0.out (Tb.at_ l q).2 hch rfl)
    have HSW2 := hide (HSW.out rfl)
    clear HS CPI0 CNU0 HN0 HSW
    go_upto_region 3 with (first
   | (go_at_call 38; refine (unhide CLG _).mono ?_; rintro e w1 ⟨rfl, rfl⟩)
   | (go_at_call 39; refine (unhide CEV).mono ?_; rintro e w2 ⟨rfl, hb2⟩; have B2 := hide hb2; have Q4 := V4.out.below hb2 (by omega); have h0 : w2.cell? ⟨w.heap.size, 0, none⟩ = some (.slice A0 n0 c0) := Q4.cell 0; have h1 : w2.cell? ⟨w.heap.size, 1, none⟩ = some (.slice A1 n1 c1) := Q4.cell 1; have h2 : w2.cell? ⟨w.heap.size, 2, none⟩ = some (.slice t.dig.ad n2 t.dig.c) := Q4.cell 2; have h3 : w2.cell? ⟨w.heap.size, 3, none⟩ = some (.slice t.cap.ad n3 t.cap.c) := Q4.cell 3; have h4 : w2.cell? ⟨w.heap.size, 4, none⟩ = some (.slice t.num.ad n4 t.num.c) := Q4.cell 4; have h5 : w2.cell? ⟨w.heap.size, 5, none⟩ = some (.slice t.fin.ad n5 t.fin.c) := Q4.cell 5; have h6 : w2.cell? ⟨w.heap.size, 6, none⟩ = some (.slice t.sw.ad n6 t.sw.c) := Q4.cell 6; clear hb2 Q4)
   | (go_at_call 41; refine (unhide CVA w2 (HV.out.trans (B2.out.mono HV.out.size))).mono ?_; rintro e w3 ⟨rfl, hb3⟩; have B3 := hide hb3; clear hb3))
    have hb2s := B2.out.size
    have hb3s := B3.out.size
    have W3 := hide ((HV.out.trans (B2.out.mono HV.out.size)).trans (B3.out.mono (by omega)))
    have Q4 := hide ((V4.out.below B2.out (by omega)).below B3.out (by omega))
    have Q5 := hide ((V5.out.below B2.out hgV).below B3.out (by omega))
    have hw0 : w.heap.size + 1 < w3.heap.size := Q5.out.lt
    obtain ⟨ad, hA, hadb, hc0, hc1⟩ := reads_sym HR.out q (by rw [← HNL.out]; omega)
    subst hA
    have HEC := hide (sym_cells (Tb.at_ l q) w3 ad q (by rw [W3.out.cell (by rw [block_of_add]; exact hadb)]; exact hc0) (by rw [W3.out.cell (by rw [block_of_add]; exact hadb)]; exact hc1))
    have CDG := hide (fun W => digit_any (Tb.at_ l q).2 W)
    generalize Tb.at_ l q = x at *
    clear h0 h1 h2 h3 h4 h5 h6 k5 hc0 hc1 B2 B3 CEV CVA V4 V5 HV
    obtain ⟨xl, xc⟩ := x
    unfold VC at CDG CNU
    simp only [] at *
    go_upto_region 4 with (with_reducible refine wpList_load_at rfl 83 (.tmp 36) rfl (ad.add (q * 2)) rfl [.int .i64 xl, .int .u8 (xc.toNat : Int)] _ HEC.out Tryd.underlying83 rfl ?c1 ?_)
    case c1 => exact symInfo
    refine name_world fun X hX => ?_
    have X9 := hide (show Blk X w3.heap.size 83 #[.int .i64 xl, .int .u8 (xc.toNat : Int)] by rw [← hX.out]; exact Blk.new w3 _ _)
    have HX := hide (show Below w3.heap.size w3 X by rw [← hX.out]; exact below_alloc w3 _)
    have XW := hide (W3.out.trans (HX.out.mono (by omega)))
    have X4 := hide (Q4.out.below HX.out (by omega))
    have X5 := hide (Q5.out.below HX.out hw0)
    have hX9 := X9.out.lt
    have y0 : X.cell? ⟨w3.heap.size, 0, none⟩ = some (.int .i64 xl) := X9.out.cell 0
    have y1 : X.cell? ⟨w3.heap.size, 1, none⟩ = some (.int .u8 (xc.toNat : Int)) := X9.out.cell 1
    have z0 : X.cell? ⟨w.heap.size + 1, 0, none⟩ = some (.int .i64 sl) := X5.out.cell 0
    have z1 : X.cell? ⟨w.heap.size + 1, 1, none⟩ = some (.bool sn) := X5.out.cell 1
    have z2 : X.cell? ⟨w.heap.size + 1, 2, none⟩ = some (.bool si) := X5.out.cell 2
    have t0 : X.cell? ⟨w.heap.size, 0, none⟩ = some (.slice A0 n0 c0) := X4.out.cell 0
    have t1 : X.cell? ⟨w.heap.size, 1, none⟩ = some (.slice A1 n1 c1) := X4.out.cell 1
    have t2 : X.cell? ⟨w.heap.size, 2, none⟩ = some (.slice t.dig.ad n2 t.dig.c) := X4.out.cell 2
    have t3 : X.cell? ⟨w.heap.size, 3, none⟩ = some (.slice t.cap.ad n3 t.cap.c) := X4.out.cell 3
    have t4 : X.cell? ⟨w.heap.size, 4, none⟩ = some (.slice t.num.ad n4 t.num.c) := X4.out.cell 4
    have t5 : X.cell? ⟨w.heap.size, 5, none⟩ = some (.slice t.fin.ad n5 t.fin.c) := X4.out.cell 5
    have t6 : X.cell? ⟨w.heap.size, 6, none⟩ = some (.slice t.sw.ad n6 t.sw.c) := X4.out.cell 6
    clear hX HEC HX Q4 Q5
    by_cases hxl : xl = sl
    ·have hne : (xl != sl) = false := by rw [hxl]; simp
     have HNX2 := hide (show sts = if Tb.digit xc then [Tb.number t s xc] else Tb.pieces (Tb.rulesOf t sl) t s l q by rw [HS2.out, HNX.out, if_neg (by simp [hxl])])
     clear HS2 HNX hxl
     cases hdg : Tb.digit xc with
     | true =>
      rw [hdg] at CDG
      have CN := hide (CNU.out hdg X XW.out)
      have HNX3 := hide (show sts = [Tb.number t s xc] by rw [HNX2.out, hdg]; rfl)
      clear hdg CNU CPI HNX2
      go_wp2_with (first
       | (go_at_call 43; refine (unhide CDG _).mono ?_; rintro e w4 ⟨rfl, rfl⟩)
       | (go_at_call 44; refine (unhide CN).mono ?_; rintro e w5 ⟨A', c', rfl, hbs, hb5⟩; have HBS := hide hbs; have B5 := hide (XW.out.trans (hb5.mono XW.out.size)); clear hbs hb5))
      go_ret
      have hst := steps_one ⟨Tb.number t s xc, A', c'⟩ w5 HBS.out
      have hlx : (Tb.number t s xc).to.lang = sl := HSL.out
      first
       | exact ⟨_, [⟨Tb.number t s xc, A', c'⟩], rfl, by have e := hst; unfold spC at e; rw [hlx] at e; exact e, by rw [HNX3.out]; rfl, below_alloc' w5 _ B5.out.size |> B5.out.trans⟩
       | exact ⟨_, rfl, [⟨Tb.number t s xc, A', c'⟩], by have e := hst; unfold spC at e; rw [hlx] at e; exact e, by rw [HNX3.out]; rfl, below_alloc' w5 _ B5.out.size |> B5.out.trans⟩
     | false =>
      rw [hdg] at CDG
      have CN := hide (CPI.out X XW.out)
      have HNX3 := hide (show sts = Tb.pieces (Tb.rulesOf t sl) t s l q by rw [HNX2.out, hdg]; rfl)
      clear hdg CNU CPI HNX2
      go_wp2_with (first
       | (go_at_call 43; refine (unhide CDG _).mono ?_; rintro e w4 ⟨rfl, rfl⟩)
       | (go_at_call 45; refine (unhide CN).mono ?_; rintro e w5 ⟨v', xs, rfl, hst, hxs, hb5⟩; have HST := hide hst; have HXS := hide hxs; have B5 := hide (XW.out.trans (hb5.mono XW.out.size)); clear hst hxs hb5))
      go_ret
      first
       | exact ⟨_, xs, rfl, HST.out, by rw [HXS.out, HNX3.out], B5.out⟩
       | exact ⟨_, rfl, xs, HST.out, by rw [HXS.out, HNX3.out], B5.out⟩
    ·have hne : (xl != sl) = true := by rw [bne_iff_ne]; exact hxl
     have HNX2 := hide (show sts = [⟨⟨xl, false, false⟩, 0, t.sw.l, -1⟩] by rw [HS2.out, HNX.out, if_pos (by simpa using hxl)])
     clear HS2 HNX hxl CNU CPI CDG
     go_upto_region 5 with fail
     obtain ⟨sad, hsad, hsb, _⟩ := HSWB.out.1.2 (by have := HSW2.out; omega)
     have HSWX := hide (show Reads X X.heap.size 1 (some sad) t.sw.l.length (BV t.sw.l) by rw [← hsad]; exact (HSWB.out.1.below XW.out).more XW.out.size)
     rw [hsad] at t6
     clear hsad hsb y1 z0 z1 z2 t0 t1 t2 t3 t4 t5
     have hgX4 := X4.out.lt
     have X4c := hide (show X.cell? ⟨w.heap.size, 6, none⟩ = some (.slice (some sad) n6 t.sw.c) from t6)
     have X9c := hide (show X.cell? ⟨w3.heap.size, 0, none⟩ = some (.int .i64 xl) from y0)
     have HS := hide (show ∀ W, Below X.heap.size X W → W.cell? ⟨w3.heap.size, 0, none⟩ = some (.int .i64 xl) ∧ W.cell? ⟨w.heap.size, 6, none⟩ = some (.slice (some sad) n6 t.sw.c) from fun W hb => ⟨by rw [hb.cell (by exact hX9)]; exact X9c.out, by rw [hb.cell (by exact hgX4)]; exact X4c.out⟩)
     have hn64 : n6 ≤ 4 := by have := HSW2.out; have := HN6.out; omega
     clear y0 t6 X4 X5 X9 X4c X9c
     generalize w3.heap.size = g9 at *
     refine wp_region_held_till (fun W => W.cell? ⟨g9, 0, none⟩ = some (.int .i64 xl) ∧ W.cell? ⟨w.heap.size, 6, none⟩ = some (.slice (some sad) n6 t.sw.c)) 8 (by kernel_rfl) ?_
     obtain ⟨W0, hW0⟩ : ∃ W0, W0 = X.drew := ⟨_, rfl⟩
     have HB0 := hide (show Below X.heap.size X W0 by rw [hW0]; exact (Below.refl _ _).drew)
     rw [← hW0]
     clear hW0
     refine heldTill_take 0 (.pointer (some ⟨g9, 0, none⟩)) rfl (by kernel_rfl) (by kernel_rfl) (by kernel_rfl) (by kernel_rfl) (fun _ _ _ h => h) ?_ (HS.out _ HB0.out) ?_
     ·rw [if_pos (by rfl)]
      rintro W ⟨r0, r1⟩
      go_simp
     try simp only [Act.put, List.getElem_toArray, List.getElem_cons_succ, List.getElem_cons_zero, List.setIfInBounds_toArray, List.set_cons_zero, List.set_cons_succ]
     refine heldTill_take 1 (.int .i64 xl) rfl (by kernel_rfl) (by kernel_rfl) (by kernel_rfl) (by kernel_rfl) (fun _ _ _ h => h) ?_ (HS.out _ HB0.out) ?_
     ·rw [if_pos (by rfl)]
      rintro W ⟨r0, r1⟩
      go_simp
     try simp only [Act.put, List.getElem_toArray, List.getElem_cons_succ, List.getElem_cons_zero, List.setIfInBounds_toArray, List.set_cons_zero, List.set_cons_succ]
     refine heldTill_take 2 (.agg #[.int .i64 xl, .bool false, .bool false]) rfl (by kernel_rfl) (by kernel_rfl) (by kernel_rfl) (by kernel_rfl) (fun _ _ _ h => h) ?_ (HS.out _ HB0.out) ?_
     ·rw [if_pos (by rfl)]
      rintro W ⟨r0, r1⟩
      go_simp
     try simp only [Act.put, List.getElem_toArray, List.getElem_cons_succ, List.getElem_cons_zero, List.setIfInBounds_toArray, List.set_cons_zero, List.set_cons_succ]
     refine heldTill_take 3 (.pointer (some ⟨w.heap.size, 6, none⟩)) rfl (by kernel_rfl) (by kernel_rfl) (by kernel_rfl) (by kernel_rfl) (fun _ _ _ h => h) ?_ (HS.out _ HB0.out) ?_
     ·rw [if_pos (by rfl)]
      rintro W ⟨r0, r1⟩
      go_simp
     try simp only [Act.put, List.getElem_toArray, List.getElem_cons_succ, List.getElem_cons_zero, List.setIfInBounds_toArray, List.set_cons_zero, List.set_cons_succ]
     refine heldTill_take 4 (.slice (some sad) n6 t.sw.c) rfl (by kernel_rfl) (by kernel_rfl) (by kernel_rfl) (by kernel_rfl) (fun _ _ _ h => h) ?_ (HS.out _ HB0.out) ?_
     ·rw [if_pos (by rfl)]
      rintro W ⟨r0, r1⟩
      go_simp
     try simp only [Act.put, List.getElem_toArray, List.getElem_cons_succ, List.getElem_cons_zero, List.setIfInBounds_toArray, List.set_cons_zero, List.set_cons_succ]
     refine heldTill_only 5 (by kernel_rfl) ?_
     refine wpOp_step rfl (fun K' hK => ?_)
     go_simp
     go_at_call 42
     rw [HN6.out]
     refine (clone_any sad t.sw.c t.sw.l W0 ((HSWX.out.below HB0.out).more HB0.out.size) (by have := HN6.out; omega)).mono ?_
     rintro e N ⟨A', c', rfl, hbs3, hb3⟩
     have HN := hide (HB0.out.trans (hb3.mono HB0.out.size))
     have HBS3 := hide hbs3
     clear hbs3 hb3
     refine hK _ _ ⟨fun _ => HS.out _ HN.out, ?_⟩
     clear hK K'
     try simp only [Act.put, List.getElem_toArray, List.getElem_cons_succ, List.getElem_cons_zero, List.setIfInBounds_toArray, List.set_cons_zero, List.set_cons_succ]
     refine heldTill_only 6 (by kernel_rfl) ?_
     refine wpOp_step rfl (fun K' hK => ?_)
     go_simp
     refine hK _ _ ⟨fun _ => HS.out _ HN.out, ?_⟩
     clear hK K'
     try simp only [Act.put, List.getElem_toArray, List.getElem_cons_succ, List.getElem_cons_zero, List.setIfInBounds_toArray, List.set_cons_zero, List.set_cons_succ]
     refine heldTill_only 7 (by kernel_rfl) ?_
     refine wpOp_step rfl (fun K' hK => ?_)
     go_simp
     have hst := steps_one ⟨⟨⟨xl, false, false⟩, 0, t.sw.l, -1⟩, A', c'⟩ N HBS3.out
     obtain ⟨O, hO⟩ : ∃ O, O = N.alloc (.cells #[.int .i64 xl, .bool false, .bool false, .int .i64 0, .slice A' t.sw.l.length c', .int .i64 (-1)] 88) := ⟨_, rfl⟩
     have HST := hide (show StepsAt O (.slice (some ⟨N.heap.size, 0, none⟩) 1 1) [⟨⟨⟨xl, false, false⟩, 0, t.sw.l, -1⟩, A', c'⟩] by rw [hO]; exact hst)
     have HO := hide (show Below X.heap.size X O by rw [hO]; exact HN.out.trans (below_alloc' N _ HN.out.size))
     rw [← hO]
     clear hO hst
     refine hK _ _ ⟨fun _ => HS.out _ HO.out, ?_⟩
     clear hK K'
     try simp only [Act.put, List.getElem_toArray, List.getElem_cons_succ, List.getElem_cons_zero, List.setIfInBounds_toArray, List.set_cons_zero, List.set_cons_succ]
     refine heldTill_only 8 (by kernel_rfl) ?_
     refine wpOp_step rfl (fun K' hK => ?_)
     go_simp
     refine hK _ _ ⟨fun h => absurd rfl h, heldTill_done (by kernel_rfl) ?_⟩
     clear hK K'
     go_wp2
     go_ret
     first
      | exact ⟨_, [⟨⟨⟨xl, false, false⟩, 0, t.sw.l, -1⟩, A', c'⟩], rfl, HST.out, by rw [HNX2.out]; rfl, XW.out.trans (HO.out.mono XW.out.size)⟩
      | exact ⟨_, rfl, [⟨⟨⟨xl, false, false⟩, 0, t.sw.l, -1⟩, A', c'⟩], HST.out, by rw [HNX2.out]; rfl, XW.out.trans (HO.out.mono XW.out.size)⟩
   ·have HF := hide (show sts = [] by rw [HS.out, if_neg (by simp [hva0])])
    have hne : (va != 0) = true := by rw [bne_iff_ne]; exact hva0
    clear HS CPI0 CNU0
    go_wp2_with (first
   | (go_at_call 38; refine (unhide CLG _).mono ?_; rintro e w1 ⟨rfl, rfl⟩)
   | (go_at_call 39; refine (unhide CEV).mono ?_; rintro e w2 ⟨rfl, hb2⟩; have B2 := hide hb2; have Q4 := V4.out.below hb2 (by omega); have h0 : w2.cell? ⟨w.heap.size, 0, none⟩ = some (.slice A0 n0 c0) := Q4.cell 0; have h1 : w2.cell? ⟨w.heap.size, 1, none⟩ = some (.slice A1 n1 c1) := Q4.cell 1; have h2 : w2.cell? ⟨w.heap.size, 2, none⟩ = some (.slice t.dig.ad n2 t.dig.c) := Q4.cell 2; have h3 : w2.cell? ⟨w.heap.size, 3, none⟩ = some (.slice t.cap.ad n3 t.cap.c) := Q4.cell 3; have h4 : w2.cell? ⟨w.heap.size, 4, none⟩ = some (.slice t.num.ad n4 t.num.c) := Q4.cell 4; have h5 : w2.cell? ⟨w.heap.size, 5, none⟩ = some (.slice t.fin.ad n5 t.fin.c) := Q4.cell 5; have h6 : w2.cell? ⟨w.heap.size, 6, none⟩ = some (.slice t.sw.ad n6 t.sw.c) := Q4.cell 6; clear hb2 Q4)
   | (go_at_call 41; refine (unhide CVA w2 (HV.out.trans (B2.out.mono HV.out.size))).mono ?_; rintro e w3 ⟨rfl, hb3⟩; have B3 := hide hb3; clear hb3))
    go_ret
    first
     | exact ⟨_, [], rfl, StepsAt.nil _, by rw [HF.out]; rfl, (HV.out.trans (B2.out.mono HV.out.size)).trans (B3.out.mono (HV.out.trans (B2.out.mono HV.out.size)).size)⟩
     | exact ⟨_, rfl, [], StepsAt.nil _, by rw [HF.out]; rfl, (HV.out.trans (B2.out.mono HV.out.size)).trans (B3.out.mono (HV.out.trans (B2.out.mono HV.out.size)).size)⟩
end Go.Proofs.YtjnnohghgkjhcaaDoor
