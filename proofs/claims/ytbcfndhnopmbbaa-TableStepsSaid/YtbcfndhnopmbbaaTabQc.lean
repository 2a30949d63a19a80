/-
  Tables: Next and Steps of the reference, by contract. (Written by tools/gen_next.py.)
-/
import Derived.Test.YtbcfndhnopmbbaaTabQb
import Derived.Test.YtbcfndhnopmbbaaTabPl
import Derived.Test.YtbcfndhnopmbbaaTabBn
namespace Go.Proofs.Ytbcfndhnopmbbaa
open Go.RowKit
set_option linter.unusedVariables false
set_option linter.unusedSimpArgs false
theorem steps_oneR (x : Stp) (w : World) (hx : BsAt w w.heap.size (bsOf x)) : StepsAt (w.alloc (.cells (spC x).toArray 99)) (.slice (some ⟨w.heap.size, 0, none⟩) 1 1) [x] :=
  ⟨_, 1, rfl, Nat.le_refl _, by simp, by
    have e : STC [x] = spC x := by unfold STC; simp
    rw [e]
    refine ⟨rfl, fun _ => ⟨_, rfl, by simp, fun j u hu => ?_⟩⟩
    have h2 := Blk.cell (Blk.new w 99 (spC x).toArray) j
    rw [show ((⟨w.heap.size, 0, none⟩ : Addr).add j) = ⟨w.heap.size, j, none⟩ by unfold Addr.add; split <;> simp_all, h2, ← hu]
    rw [List.getElem?_toArray], fun y hy => by
    rw [List.mem_singleton] at hy
    subst hy
    exact hx.same (below_alloc w _)⟩
def ksN (base g9 : Nat) (sl : Int) (le : Bool) (rad : Addr) (nr ck k tl : Nat) (A17 : Option Addr) (n17 c17 : Nat) (sv : ByteArray) (b0 : Nat) (y14 : Value) (xs : List Stp) (q : Stp) : List (World → Value → Prop) := [gIs (y14), gIs (.pointer (some ⟨g9, 0, none⟩)), gIs (.int .i64 sl), gIs (.bool le), gIs (.agg #[.int .i64 sl, .bool false, .bool le]), gIs (.slice (some rad) nr ck), gIs (.int .i64 (k : Int)), gIs (.pointer (some (rad.add (k * 3)))), gIs (.pointer (some (rad.add (k * 3)))), gIs (.string sv), gIs (.int .i64 (tl : Int)), gIs (.slice A17 n17 c17), gIs (.int .i64 (k : Int)), gIs (.agg #[.int .i64 sl, .bool false, .bool le, .int .i64 (tl : Int), .slice A17 n17 c17, .int .i64 (k : Int)]), gOne b0 99 [.int .i64 sl, .bool false, .bool le, .int .i64 (tl : Int), .slice A17 n17 c17, .int .i64 (k : Int)], (fun W v => W.ownsRow base 99 6 v (xs ++ [q]).length (STC (xs ++ [q])) ∧ StepsF W v (xs ++ [q]))]
theorem ksN_n (base g9 : Nat) (sl : Int) (le : Bool) (rad : Addr) (nr ck k tl : Nat) (A17 : Option Addr) (n17 c17 : Nat) (sv : ByteArray) (b0 : Nat) (y14 : Value) (xs : List Stp) (q : Stp) : ∀ j, j ≠ 15 → StabN b0 ((ksN base g9 sl le rad nr ck k tl A17 n17 c17 sv b0 y14 xs q).getD j gAny)
  | 0, _ => stabn_is _ _
  | 1, _ => stabn_is _ _
  | 2, _ => stabn_is _ _
  | 3, _ => stabn_is _ _
  | 4, _ => stabn_is _ _
  | 5, _ => stabn_is _ _
  | 6, _ => stabn_is _ _
  | 7, _ => stabn_is _ _
  | 8, _ => stabn_is _ _
  | 9, _ => stabn_is _ _
  | 10, _ => stabn_is _ _
  | 11, _ => stabn_is _ _
  | 12, _ => stabn_is _ _
  | 13, _ => stabn_is _ _
  | 14, _ => stabn_one _ _ _
  | 15, h => absurd rfl h
  | _ + 16, _ => stabn_any _
theorem ksN_b (base g9 : Nat) (sl : Int) (le : Bool) (rad : Addr) (nr ck k tl : Nat) (A17 : Option Addr) (n17 c17 : Nat) (sv : ByteArray) (b0 : Nat) (y14 : Value) (xs : List Stp) (q : Stp) (j : Nat) : Stab ((ksN base g9 sl le rad nr ck k tl A17 n17 c17 sv b0 y14 xs q).getD j gAny) := by
  by_cases h : j = 15
  · subst h
    exact fun W W' v hb ⟨h1, h2⟩ => ⟨own_below h1 hb, h2.below hb⟩
  · exact (ksN_n base g9 sl le rad nr ck k tl A17 n17 c17 sv b0 y14 xs q j h).stab
set_option maxHeartbeats 16000000 in
set_option maxRecDepth 100000 in
theorem refNext_any (v : Value) (t : Tb.Tab) (s : Tb.St) (A : Option Addr) (c : Nat) (l : Tb.Text) (p : Nat) (w : World) (h : TabAt w w.heap.size v t) (hr : TextAt w w.heap.size A l) (hp : p < l.length) (hlang : Tb.langOk s.lang = true) (hval : Tb.valid t = 0) :
    Calls Try.prog 57 #[v, stV s, .slice A l.length c, .int .i64 (p : Int)] w fun e w' => ∃ v' xs, e = .returned v' ∧ StepsAt w' v' xs ∧ xs.map (·.sp) = Tb.next t s l p ∧ Below w.heap.size w w' := by
  have HN0 := hide (show Tb.next t s l p = if (Tb.at_ l p).1 ≠ s.lang then [⟨⟨(Tb.at_ l p).1, false, false⟩, 0, t.sw.l, -1⟩] else if Tb.digit (Tb.at_ l p).2 then [Tb.number t s (Tb.at_ l p).2] else Tb.pieces (Tb.rulesOf t s.lang) t s l p from rfl)
  obtain ⟨h96, h97, hpr, _⟩ := Tb.valid_zero hval
  obtain ⟨hri0, hri1, hd10, _, hwcap, hwnum, hwfin, hwsw⟩ := Tb.proper_parts hpr
  have hl2 : 0 ≤ s.lang ∧ s.lang < 2 := of_decide_eq_true hlang
  obtain ⟨ln, hln⟩ : ∃ ln : Nat, s.lang = (ln : Int) := ⟨s.lang.toNat, by omega⟩
  obtain ⟨rs, hrs⟩ : ∃ rs, rs = Tb.rulesOf t s.lang := ⟨_, rfl⟩
  have hrs01 : (ln = 0 ∧ rs = t.r0) ∨ (ln = 1 ∧ rs = t.r1) := by
    unfold Tb.rulesOf at hrs
    by_cases h0 : s.lang = 0
    · rw [if_pos h0] at hrs; exact .inl ⟨by omega, hrs⟩
    · rw [if_neg h0] at hrs; exact .inr ⟨by omega, hrs⟩
  have hrl : rs.length ≤ 96 := by rcases hrs01 with ⟨_, e⟩ | ⟨_, e⟩ <;> rw [e] <;> assumption
  have hrr : ∀ r ∈ rs, Tb.right r = true := by rcases hrs01 with ⟨_, e⟩ | ⟨_, e⟩ <;> rw [e] <;> assumption
  have HPC := hide (show Tb.pieces rs t s l p = (List.range rs.length).filterMap (Tb.pieceAt rs t s l p) from rfl)
  have HPS := hide (Tb.pieces_step rs t s l p)
  have HPA := hide (fun (k : Nat) (hk : k < rs.length) => (show Tb.pieceAt rs t s l p k = if Tb.fits rs[k] l p then some ⟨⟨s.lang, false, Tb.letter (Tb.at_ l p).2⟩, rs[k].text.length, Tb.before t s (Tb.at_ l p).2 ++ rs[k].cells.l, (k : Int)⟩ else none by
    unfold Tb.pieceAt
    rw [List.getElem?_eq_getElem hk]))
  have HBF := hide (show Tb.before t s (Tb.at_ l p).2 = (if Tb.letter (Tb.at_ l p).2 && s.num then t.fin.l else []) ++ (if Tb.capital (Tb.at_ l p).2 then t.cap.l else []) from rfl)
  have HNU := hide (show Tb.number t s (Tb.at_ l p).2 = ⟨⟨s.lang, true, false⟩, 1, (if s.num then [] else t.num.l) ++ [t.dig.l.getD ((Tb.at_ l p).2.toNat - 48) 0], -1⟩ from rfl)
  have HDG := hide (show Tb.digit (Tb.at_ l p).2 = decide (48 ≤ (Tb.at_ l p).2.toNat ∧ (Tb.at_ l p).2.toNat ≤ 57) from rfl)
  have CFT0 := hide (fun (r : Tb.Rl) (hm : r ∈ rs) (W : World) (hb : Below w.heap.size w W) => refFits_any r A c l p W (hrr r hm) (hr.same hb) hp)
  have HRC := hide (fun (r : Tb.Rl) (hm : r ∈ rs) => Tb.right_cells (hrr r hm))
  have CD := hide (fun W => refDigit_any (Tb.at_ l p).2 W)
  have CL := hide (fun W => refLetter_any (Tb.at_ l p).2 W)
  have hcl4 := (Tb.writable_len hwcap).2
  have hfl4 := (Tb.writable_len hwfin).2
  have hnl4 := (Tb.writable_len hwnum).2
  obtain ⟨ad, rfl, hadb, hc0, hc1⟩ := reads_sym hr p hp
  have HEC := hide (fun (W : World) (hb : Below w.heap.size w W) => sym_cells (Tb.at_ l p) W ad p (by rw [hb.cell (by rw [block_of_add]; exact hadb)]; exact hc0) (by rw [hb.cell (by rw [block_of_add]; exact hadb)]; exact hc1))
  obtain ⟨A0, A1, c0, c1, rfl, h0, h1, hk0, hk1, hdg, hcap, hnum, hfin, hsw⟩ := h
  obtain ⟨cs, hcs⟩ : ∃ cs : Array Value, cs = #[.slice A0 t.r0.length c0, .slice A1 t.r1.length c1, .slice t.dig.ad t.dig.l.length t.dig.c, .slice t.cap.ad t.cap.l.length t.cap.c, .slice t.num.ad t.num.l.length t.num.c, .slice t.fin.ad t.fin.l.length t.fin.c, .slice t.sw.ad t.sw.l.length t.sw.c] := ⟨_, rfl⟩
  obtain ⟨Ak, ck, hcell, hrk⟩ : ∃ Ak ck, cs[ln]? = some (.slice Ak rs.length ck) ∧ RulesAt w w.heap.size Ak rs := by
    rcases hrs01 with ⟨e1, e2⟩ | ⟨e1, e2⟩
    · subst e1 e2; rw [hcs]; exact ⟨A0, c0, rfl, h0⟩
    · subst e1 e2; rw [hcs]; exact ⟨A1, c1, rfl, h1⟩
  have HRU := hide hrk
  have HCAP := hide hcap
  have HNUM := hide hnum
  have HFIN := hide hfin
  have HSW := hide hsw
  have HDB := hide hdg
  have HD10 := hide hd10
  have hln2 : ln < 2 := by omega
  have hln2i : (ln : Int) < 2 := by omega
  have hln0 : (0 : Int) ≤ (ln : Int) := by omega
  have hcs5 : cs[5]? = some (.slice t.fin.ad t.fin.l.length t.fin.c) := by rw [hcs]; rfl
  have hcs3 : cs[3]? = some (.slice t.cap.ad t.cap.l.length t.cap.c) := by rw [hcs]; rfl
  have hcs4 : cs[4]? = some (.slice t.num.ad t.num.l.length t.num.c) := by rw [hcs]; rfl
  have hcs2 : cs[2]? = some (.slice t.dig.ad t.dig.l.length t.dig.c) := by rw [hcs]; rfl
  have hcs6 : cs[6]? = some (.slice t.sw.ad t.sw.l.length t.sw.c) := by rw [hcs]; rfl
  rw [← hrs] at HN0
  unfold stV
  unfold VC at CL CD
  rw [hln] at HN0 HPA HNU ⊢
  have HSN := hide (show True from trivial)
  generalize Tb.next t s l p = nxt at *
  generalize Tb.pieces rs t s l p = pcs at *
  generalize Tb.pieceAt rs t s l p = pa at *
  generalize Tb.before t s (Tb.at_ l p).2 = bf at *
  generalize Tb.number t s (Tb.at_ l p).2 = nub at *
  generalize Tb.digit (Tb.at_ l p).2 = dg at *
  generalize Tb.letter (Tb.at_ l p).2 = le at *
  generalize Tb.capital (Tb.at_ l p).2 = ca at *
  generalize (Tb.low (Tb.at_ l p).2).toNat = lo at *
  have hcn := (Tb.at_ l p).2.toNat_lt
  generalize (Tb.at_ l p).2.toNat = cn at *
  generalize (Tb.at_ l p).1 = li at *
  generalize s.num = sn at *
  generalize s.inn = si at *
  obtain ⟨nr, hnr⟩ : ∃ nr, nr = rs.length := ⟨_, rfl⟩
  have HNR := hide hnr
  rw [← hnr] at hrl hcell HPC
  obtain ⟨n, hn⟩ : ∃ n, n = l.length := ⟨_, rfl⟩
  have hbig := hr.2
  rw [← hn] at hp CFT0 hbig ⊢
  have hp0 : (0 : Int) ≤ (p : Int) := by omega
  have hp1 : (p : Int) < (n : Int) := by omega
  have hni : (n : Int) ≤ 1048576 := by omega
  have hrli : (nr : Int) ≤ 96 := by omega
  clear hc0 hc1 h0 h1 hdg hcap hnum hfin hsw hrk hr hrs hrs01 hln hl2 hlang hval hpr hri0 hri1 hwcap hwnum hwfin hwsw hrr hnr hn h96 h97 hd10 hk0 hk1
  rw [← hcs]
  have HCS := hide hcs
  have hcsz : cs.size = 7 := by rw [hcs]; rfl
  rw [hcs]
  clear hcs
  go_enter Try.func57, Try.ntmps57
  go_upto_region 1 with fail
  refine name_world fun V hV => ?_
  have V4 := hide (show Blk V w.heap.size 28 cs by rw [← hV.out, HCS.out]; exact (Blk.new w _ _).alloc _)
  have V5 := hide (show Blk V (w.heap.size + 1) 53 #[.int .i64 (ln : Int), .bool sn, .bool si] by rw [← hV.out]; exact Blk.new2 w _ _ _)
  have HV := hide (show Below w.heap.size w V by rw [← hV.out]; exact ((Below.refl _ _).alloc (Nat.le_refl _) _).alloc (by simp) _)
  have HEV := hide (HEC.out V HV.out)
  have hVs : V.heap.size = w.heap.size + 1 + 1 := by rw [← hV.out]; simp
  clear hV HEC HCS
  go_upto_region 2 with (with_reducible refine wpList_load_at rfl 67 (.tmp 20) rfl (ad.add (p * 2)) rfl [.int .i64 li, .int .u8 (cn : Int)] _ HEV.out Try.underlying67 rfl ?c1 ?_)
  case c1 => exact symInfo
  refine name_world fun X hX => ?_
  have X9 := hide (show Blk X V.heap.size 67 #[.int .i64 li, .int .u8 (cn : Int)] by rw [← hX.out]; exact Blk.new V _ _)
  have HX1 := hide (show Below V.heap.size V X by rw [← hX.out]; exact below_alloc V _)
  have HX := hide (HV.out.trans (HX1.out.mono HV.out.size))
  have hXs : X.heap.size = V.heap.size + 1 := by rw [← hX.out]; simp
  obtain ⟨g9, hg9⟩ : ∃ g9, g9 = V.heap.size := ⟨_, rfl⟩
  obtain ⟨g4, hg4⟩ : ∃ g4, g4 = w.heap.size := ⟨_, rfl⟩
  have HBL := hide (fun (W : World) (hb : Below X.heap.size X W) => (show Blk W g4 28 cs ∧ Blk W (g4 + 1) 53 #[.int .i64 (ln : Int), .bool sn, .bool si] ∧ Blk W g9 67 #[.int .i64 li, .int .u8 (cn : Int)] ∧ Below w.heap.size w W from by
    rw [hg4, hg9]
    exact ⟨(V4.out.below HX1.out (by omega)).below hb (by omega), (V5.out.below HX1.out (by omega)).below hb (by omega), X9.out.below hb (by omega), HX.out.trans (hb.mono HX.out.size)⟩))
  have hg4s : g4 + 1 < X.heap.size := by omega
  have hg9s : g9 < X.heap.size := by omega
  rw [show w.heap.size + 1 + 1 = g9 by omega]
  rw [← hg4]
  clear hX V4 V5 HV HEV HX1 X9 HX
  obtain ⟨X4, X5, X9, HXW⟩ := HBL.out X (Below.refl _ _)
  have x90 : X.cell? ⟨g9, 0, none⟩ = some (.int .i64 li) := X9.cell 0
  have x91 : X.cell? ⟨g9, 1, none⟩ = some (.int .u8 (cn : Int)) := X9.cell 1
  have x50 : X.cell? ⟨g4 + 1, 0, none⟩ = some (.int .i64 (ln : Int)) := X5.cell 0
  have x51 : X.cell? ⟨g4 + 1, 1, none⟩ = some (.bool sn) := X5.cell 1
  have x4l : X.cell? ⟨g4, ln, none⟩ = some (.slice Ak nr ck) := (X4.cell ln).trans hcell
  have x44 : X.cell? ⟨g4, 4, none⟩ = some (.slice t.num.ad t.num.l.length t.num.c) := (X4.cell 4).trans hcs4
  have x46 : X.cell? ⟨g4, 6, none⟩ = some (.slice t.sw.ad t.sw.l.length t.sw.c) := (X4.cell 6).trans hcs6
  have HXW := hide HXW
  have HXX := hide (Below.refl X.heap.size X)
  clear X4 X5 X9 hg4 hg9 hVs hXs
  by_cases hne : li = (ln : Int)
  · have hnq : (li != (ln : Int)) = false := by simp [hne]
    have HN1 := hide (show nxt = if dg then [nub] else pcs by rw [HN0.out, if_neg (by simp [hne])])
    clear HN0 HSW x46 hcs6
    cases dg with
    | true =>
      have hcd := of_decide_eq_true HDG.out.symm
      obtain ⟨d, hd⟩ : ∃ d, d = cn - 48 := ⟨_, rfl⟩
      have hd9 : d < 10 := by omega
      have hci : (cn : Int) - 48 = (d : Int) := by omega
      have hw8 : IntKind.u8.wrap (d : Int) = (d : Int) := by unfold IntKind.wrap; simp [IntKind.bits, IntKind.signed]; omega
      have hd0 : (0 : Int) ≤ (d : Int) := by omega
      obtain ⟨dn, hdn⟩ : ∃ dn, dn = t.dig.l.length := ⟨_, rfl⟩
      have hdn10 : dn = 10 := by rw [hdn]; exact HD10.out
      have hd1 : (d : Int) < (dn : Int) := by omega
      obtain ⟨dad, hda, hdab, hdc⟩ := HDB.out.1.2 (by omega)
      have hdl : d < t.dig.l.length := by omega
      have HDC := hide (show w.cell? (dad.add d) = some (.int .u8 ((t.dig.l.getD d 0).toNat : Int)) from hdc d _ (by
        rw [List.getD_eq_getElem?_getD, List.getElem?_eq_getElem hdl]
        unfold BV
        rw [List.getElem?_map, List.getElem?_eq_getElem hdl]
        rfl))
      have x42 : cs[2]? = some (.slice (some dad) dn t.dig.c) := by rw [hcs2, hda, hdn]
      have HN2 := hide (show nxt = [nub] by rw [HN1.out]; rfl)
      rw [show cn - 48 = d from hd.symm] at HNU
      generalize t.dig.l.getD d 0 = dc at *
      have hcn2 := hcn
      clear HN1 hcd hd hdc hda hdl HDG hcs2 x4l hdn
      go_upto_region 6 with (go_at_call 32; refine (unhide CD _).mono ?_; rintro e w1 ⟨rfl, rfl⟩)
      obtain ⟨b1, hb1⟩ : ∃ b1, b1 = (if sn then [] else t.num.l) := ⟨_, rfl⟩
      rw [← hb1] at HNU
      have HB1L := hide (show b1.length ≤ 4 by rw [hb1]; split; simp; exact hnl4)
      go_upto_if 39 with fail
      go_cut [10] (fun s10 wx => wx.ownsRow X.heap.size 5 1 s10 b1.length (BV b1) ∧ Below X.heap.size X wx)
      case first =>
        cases sn with
        | true =>
          go_wp2
          go_meet
          exact ⟨by rw [hb1]; exact own_nil _ _ _ _, HXX.out⟩
        | false =>
          obtain ⟨v2, W2, hrun2, ho2, hg2, _⟩ := bytes_app X X.heap.size (.slice none 0 0) [] t.num (own_nil _ _ _ _) (HNUM.out.same HXW.out) (Nat.le_refl _) (by simp) 26
          have HRUN2 := hide hrun2
          have HO2 := hide (show W2.ownsRow X.heap.size 5 1 v2 b1.length (BV b1) from by rw [hb1]; exact ho2)
          have HB2 := hide (show Below X.heap.size X W2 from (Below.refl _ _).grown hg2 (Nat.le_refl _) (fun g h => by cases h))
          clear hrun2 ho2 hg2
          go_wp2_with (at_builtin; refine Lib.wpList_append_run _ rfl _ _ _ _ rfl _ _ rfl rfl _ _ HRUN2.out ?_)
          go_meet
          exact ⟨HO2.out, HB2.out⟩
      case rest =>
        obtain ⟨hown, hbel⟩ := hcut
        obtain ⟨Y, rfl⟩ : ∃ Y, Y = wc := ⟨wc, rfl⟩
        obtain ⟨A3, c3, hv3, _⟩ := own_slice hown
        obtain ⟨bn, hbn⟩ : ∃ bn, bn = b1.length := ⟨_, rfl⟩
        have HBN := hide hbn
        subst hv3
        rw [← hbn] at hown ⊢
        have HO := hide hown
        obtain ⟨Y4, Y5, Y9, hyw⟩ := HBL.out Y hbel
        have hys := hbel.size
        have y90 : Y.cell? ⟨g9, 0, none⟩ = some (.int .i64 li) := Y9.cell 0
        have y91 : Y.cell? ⟨g9, 1, none⟩ = some (.int .u8 (cn : Int)) := Y9.cell 1
        have y42 : Y.cell? ⟨g4, 2, none⟩ = some (.slice (some dad) dn t.dig.c) := (Y4.cell 2).trans x42
        have ydc : Y.cell? (dad.add d) = some (.int .u8 (dc.toNat : Int)) := by rw [hyw.cell (by rw [block_of_add]; exact hdab)]; exact HDC.out
        have hyn := Blk.new Y 5 (BV [dc]).toArray
        obtain ⟨v5, W5, hrun5, ho5, hg5, _⟩ := bytes_push (Y.alloc (.cells (BV [dc]).toArray 5)) X.heap.size Y.heap.size (.slice A3 bn c3) b1 dc (own_below (by rw [← hbn]; exact hown) (below_alloc Y _)) hyn (by simp; omega) (by have := HB1L.out; omega) 26
        have hb5 : Below X.heap.size X W5 := (hbel.trans ((below_alloc Y (.cells (BV [dc]).toArray 5)).mono hys)).grown hg5 (by simp; omega) (fun g h => (hown.lt g h).1)
        obtain ⟨A5, c5, hv5, hbs5, _⟩ := bs_of_own ho5 (by have := HB1L.out; simp; omega)
        subst hv5
        have HRUN5 := hide hrun5
        obtain ⟨_, _, W9, hw5⟩ := HBL.out W5 hb5
        have w90 : W5.cell? ⟨g9, 0, none⟩ = some (.int .i64 li) := W9.cell 0
        have hst := steps_oneR ⟨⟨⟨(ln : Int), true, false⟩, 1, b1 ++ [dc], -1⟩, A5, c5⟩ W5 hbs5
        have hba := hw5.trans ((below_alloc W5 (.cells (spC ⟨⟨⟨(ln : Int), true, false⟩, 1, b1 ++ [dc], -1⟩, A5, c5⟩).toArray 99)).mono hw5.size)
        have e9 : (spC ⟨⟨⟨(ln : Int), true, false⟩, 1, b1 ++ [dc], -1⟩, A5, c5⟩).toArray = #[.int .i64 (ln : Int), .bool true, .bool false, .int .i64 1, .slice A5 (b1.length + 1) c5, .int .i64 (-1)] := by
          show #[Value.int .i64 (ln : Int), .bool true, .bool false, .int .i64 1, Value.slice A5 (b1 ++ [dc]).length c5, .int .i64 (-1)] = _
          rw [List.length_append]
          rfl
        rw [e9] at hst hba
        have HST := hide hst
        have HBA := hide hba
        clear hst hba e9
        have HLL := hide (show (b1 ++ [dc]).length = bn + 1 by rw [List.length_append, ← hbn]; rfl)
        rw [hne] at y90 w90
        clear hyn hrun5 ho5 hg5 hb5 hbs5 Y4 Y5 Y9 W9 hyw hw5 hbel hown hcs4 x42 x44 x50 x51 x90 x91
        have HNE := hide hne
        clear hne hnq hb1 hbn
        go_wp2_with (at_builtin; refine Lib.wpList_append_run _ rfl _ _ _ _ rfl _ _ rfl rfl _ _ HRUN5.out ?_)
        go_ret
        exact ⟨_, [⟨⟨⟨(ln : Int), true, false⟩, 1, b1 ++ [dc], -1⟩, A5, c5⟩], rfl, HST.out, by rw [HN2.out, HNU.out]; rfl, HBA.out⟩
    | false =>
      have HN2 := hide (show nxt = pcs by rw [HN1.out]; rfl)
      subst hne
      clear HN1 HNU HDG x44 hcs4 hcs2 HNUM HDB HD10
      go_upto_region 11 with (first
        | (go_at_call 32; refine (unhide CD _).mono ?_; rintro e w1 ⟨rfl, rfl⟩)
        | (go_at_call 23; refine (unhide CL _).mono ?_; rintro e w1 ⟨rfl, rfl⟩))
      obtain ⟨Y, hY⟩ : ∃ Y, Y = X := ⟨_, rfl⟩
      have HYW := hide (show Below w.heap.size w Y by rw [hY]; exact HXW.out)
      have HYY := hide (Below.refl Y.heap.size Y)
      rw [← hY] at HBL hg4s hg9s x90 x91 x50 x51 x4l ⊢
      clear hY HXW HXX
      go_wp2
      go_loopw [14, 16] (fun s14 s wr => ∃ (k : Nat) (xs : List Stp) (y14 : Value), k ≤ nr ∧ s = .int .i64 (k : Int) ∧ y14 = s14 ∧ wr.ownsRow Y.heap.size 99 6 y14 xs.length (STC xs) ∧ Hid (xs.map (·.sp) = (List.range k).filterMap pa) ∧ Hid (xs.length ≤ k) ∧ StepsF wr y14 xs ∧ Below Y.heap.size Y wr) (fun _ s _ => nr - (intOf s).toNat)
      case atStart => exact ⟨0, [], _, by omega, rfl, rfl, own_nil _ _ _ _, rfl, Nat.le_refl _, StepsF.nil _ _, HYY.out⟩
      case round =>
        obtain ⟨k, xs, y14, hk, rfl, rfl, hown, HXS, HXL, hsf, hbel⟩ := hrel
        obtain ⟨wd, rfl⟩ : ∃ wd, wd = wr := ⟨wr, rfl⟩
        have HO := hide hown
        have HSF := hide hsf
        have HB := hide hbel
        have hwd := hbel.size
        have WD := hide (HYW.out.trans (hbel.mono HYW.out.size))
        clear hown hsf hbel x90 x91 x50 x51 x4l
        by_cases hlt : k < nr
        · have hil : k < rs.length := by rw [← HNR.out]; exact hlt
          obtain ⟨rad, hAr, hrb, hcsr⟩ := reads_rule HRU.out k hil
          subst hAr
          have HRD := hide (fun (W : World) (hb : Below w.heap.size w W) => (show ∀ (j : Nat) (v : Value), ([.string (S rs[k].text), .int .i64 rs[k].wh, .slice rs[k].cells.ad rs[k].cells.l.length rs[k].cells.c] : List Value)[j]? = some v → W.cell? ((rad.add (k * 3)).add j) = some v from fun j v hv => by
            rw [hb.cell (by rw [block_of_add, block_of_add]; exact hrb)]
            exact hcsr j v hv))
          have HEC := hide (HRD.out wd WD.out)
          have hk0 : (0 : Int) ≤ (k : Int) := by omega
          have hk1 : (k : Int) < (nr : Int) := by omega
          have HLT := hide hlt
          have CFT := hide (CFT0.out rs[k] (List.getElem_mem hil) wd WD.out)
          have HPK := hide (HPA.out k hil)
          have HRL := hide (HRC.out rs[k] (List.getElem_mem hil))
          have HRB := hide (fun (W : World) (hb : Below w.heap.size w W) => ((HRU.out.2.1 rs[k] (List.getElem_mem hil)).1.below hb).more hb.size)
          generalize rs[k] = r at *
          clear hcsr hlt hil
          cases hft : Tb.fits r l p with
          | false =>
            rw [hft] at CFT
            have HPN := hide (show (List.range (k + 1)).filterMap pa = (List.range k).filterMap pa by rw [HPS.out, HPK.out, hft]; simp)
            clear hft HPK HRD
            go_wp2_with (first
              | (with_reducible refine wpList_load_at rfl 74 (.tmp 81) rfl (rad.add (k * 3)) rfl [.string (S r.text), .int .i64 r.wh, .slice r.cells.ad r.cells.l.length r.cells.c] _ HEC.out Try.underlying74 rfl ?c1 ?_)
              | (go_at_call 65; refine (unhide CFT).mono ?_; rintro e w2 ⟨rfl, hb2⟩; have HB2 := hide hb2; clear hb2))
            case c1 => exact ruleInfo
            exact ⟨⟨k + 1, xs, _, HLT.out, by go_num, rfl, own_below HO.out HB2.out, by rw [HPN.out]; exact HXS.out, Nat.le_succ_of_le HXL.out, HSF.out.below HB2.out, HB.out.trans (HB2.out.mono hwd)⟩, by have := HLT.out; simp [intOf]; omega⟩
          | true =>
            rw [hft] at CFT
            have HPN := hide (show (List.range (k + 1)).filterMap pa = (List.range k).filterMap pa ++ [⟨⟨(ln : Int), false, le⟩, r.text.length, bf ++ r.cells.l, (k : Int)⟩] by rw [HPS.out, HPK.out, hft]; simp)
            clear hft HPK
            go_upto_region 17 with (first
              | (with_reducible refine wpList_load_at rfl 74 (.tmp 81) rfl (rad.add (k * 3)) rfl [.string (S r.text), .int .i64 r.wh, .slice r.cells.ad r.cells.l.length r.cells.c] _ HEC.out Try.underlying74 rfl ?c1 ?_)
              | (go_at_call 65; refine (unhide CFT).mono ?_; rintro e w2 ⟨rfl, hb2⟩; have HB2 := hide hb2; clear hb2))
            case c1 => exact ruleInfo
            have HB3 := hide (HB.out.trans (HB2.out.mono hwd))
            have HO3 := hide (own_below HO.out HB2.out)
            have HSF3 := hide (HSF.out.below HB2.out)
            have HW3 := hide (HYW.out.trans (HB3.out.mono HYW.out.size))
            have hy3 := HB3.out.size
            have hy14 : ∀ g, y14.ownBlock = some g → g < w2.heap.size := fun g hg => (HO3.out.lt g hg).2
            clear HB HO HSF HB2 HEC CFT hwd WD
            obtain ⟨_, Z5, _, _⟩ := HBL.out w2 HB3.out
            have z51 : w2.cell? ⟨g4 + 1, 1, none⟩ = some (.bool sn) := Z5.cell 1
            have HZZ := hide (Below.refl w2.heap.size w2)
            clear Z5
            go_upto_region 18 with fail
            go_cut [91] (fun s91 wx => s91 = .bool (le && sn) ∧ w2 = wx)
            case first =>
              cases le <;>
              · go_wp2
                go_meet
                exact ⟨rfl, rfl⟩
            case rest =>
              obtain ⟨rfl, rfl⟩ := hcut
              clear z51
              go_upto_if 91 with fail
              obtain ⟨b1, hb1⟩ : ∃ b1, b1 = (if le && sn then t.fin.l else []) := ⟨_, rfl⟩
              have HB1L := hide (show b1.length ≤ 4 by rw [hb1]; split; exact hfl4; simp)
              rw [← hb1] at HBF
              go_cut [17] (fun s17 wx => wx.ownsRow w2.heap.size 5 1 s17 b1.length (BV b1) ∧ Below w2.heap.size w2 wx)
              case first =>
                cases hls : (le && sn) with
                | true =>
                  obtain ⟨v4, W4, hrun4, ho4, hg4', _⟩ := bytes_app w2 w2.heap.size (.slice none 0 0) [] t.fin (own_nil _ _ _ _) (HFIN.out.same HW3.out) (Nat.le_refl _) (by simp) 26
                  have HRUN4 := hide hrun4
                  have HO4 := hide (show W4.ownsRow w2.heap.size 5 1 v4 b1.length (BV b1) from by rw [hb1, hls]; exact ho4)
                  have HB4 := hide (show Below w2.heap.size w2 W4 from (Below.refl _ _).grown hg4' (Nat.le_refl _) (fun g h => by cases h))
                  obtain ⟨Z4, _, _, _⟩ := HBL.out w2 HB3.out
                  have z45 : w2.cell? ⟨g4, 5, none⟩ = some (.slice t.fin.ad t.fin.l.length t.fin.c) := (Z4.cell 5).trans hcs5
                  clear hrun4 ho4 hg4' Z4
                  go_wp2_with (at_builtin; refine Lib.wpList_append_run _ rfl _ _ _ _ rfl _ _ rfl rfl _ _ HRUN4.out ?_)
                  go_meet
                  exact ⟨HO4.out, HB4.out⟩
                | false =>
                  go_wp2
                  go_meet
                  exact ⟨by rw [hb1, hls]; exact own_nil _ _ _ _, HZZ.out⟩
              case rest =>
                obtain ⟨hown, hbel⟩ := hcut
                obtain ⟨Q, rfl⟩ : ∃ Q, Q = wc := ⟨wc, rfl⟩
                have HO5 := hide hown
                have HB5 := hide hbel
                have HBQ5 := hide (HB3.out.trans (hbel.mono hy3))
                have HWQ := hide (HW3.out.trans (hbel.mono HW3.out.size))
                have hqs := hbel.size
                clear hown hbel
                go_upto_if 96 with fail
                go_cut [17] (fun s17 wx => wx.ownsRow w2.heap.size 5 1 s17 bf.length (BV bf) ∧ Below w2.heap.size w2 wx)
                case first =>
                  cases ca with
                  | true =>
                    obtain ⟨v6, W6, hrun6, ho6, hg6, _⟩ := bytes_app Q w2.heap.size _ b1 t.cap HO5.out (HCAP.out.same HWQ.out) hqs (by have := HB1L.out; omega) 26
                    have HRUN6 := hide hrun6
                    have HO6 := hide (show W6.ownsRow w2.heap.size 5 1 v6 bf.length (BV bf) from by rw [HBF.out]; exact ho6)
                    have HB6 := hide (show Below w2.heap.size w2 W6 from HB5.out.grown hg6 hqs (fun g h => (HO5.out.lt g h).1))
                    obtain ⟨Z4, _, _, _⟩ := HBL.out Q HBQ5.out
                    have z43 : Q.cell? ⟨g4, 3, none⟩ = some (.slice t.cap.ad t.cap.l.length t.cap.c) := (Z4.cell 3).trans hcs3
                    clear hrun6 ho6 hg6 Z4
                    go_wp2_with (at_builtin; refine Lib.wpList_append_run _ rfl _ _ _ _ rfl _ _ rfl rfl _ _ HRUN6.out ?_)
                    go_meet
                    exact ⟨HO6.out, HB6.out⟩
                  | false =>
                    have hbe : bf = b1 := by rw [HBF.out]; simp
                    go_wp2
                    go_meet
                    exact ⟨by rw [hbe]; exact HO5.out, HB5.out⟩
                case rest =>
                  obtain ⟨hown, hbel⟩ := hcut
                  obtain ⟨R, rfl⟩ : ∃ R, R = wc := ⟨wc, rfl⟩
                  have hbfl : bf.length ≤ 8 := by
                    have h1 := HB1L.out
                    rw [HBF.out, List.length_append]
                    split
                    · omega
                    · simp; omega
                  have HWR := hide (HW3.out.trans (hbel.mono HW3.out.size))
                  have hrs := hbel.size
                  obtain ⟨v7, W7, hrun7, ho7, hg7, _⟩ := bytes_app R w2.heap.size _ bf r.cells hown (HRB.out R HWR.out) hrs (by omega) 26
                  have HRUN7 := hide hrun7
                  have hb7 : Below w2.heap.size w2 W7 := hbel.grown hg7 hrs (fun g h => (hown.lt g h).1)
                  obtain ⟨A17, c17, hv7, hbs7, hab7⟩ := bs_of_own ho7 (by rw [List.length_append]; have := HRL.out.2; omega)
                  subst hv7
                  have rd2 := HRD.out R HWR.out 2 _ rfl
                  have rd2' : R.cell? ⟨(rad.add (k * 3)).block, (rad.add (k * 3)).off + 2, none⟩ = some (.slice r.cells.ad r.cells.l.length r.cells.c) := rd2
                  have HUY := hide (HB3.out.trans (hb7.mono hy3))
                  have HOU := hide (own_below HO3.out hb7)
                  have HSU := hide (HSF3.out.below hb7)
                  obtain ⟨tl, htl⟩ : ∃ tl, tl = r.text.length := ⟨_, rfl⟩
                  obtain ⟨n17, hn17⟩ : ∃ n17, n17 = (bf ++ r.cells.l).length := ⟨_, rfl⟩
                  obtain ⟨q, hq⟩ : ∃ q : Stp, q = ⟨⟨⟨(ln : Int), false, le⟩, r.text.length, bf ++ r.cells.l, (k : Int)⟩, A17, c17⟩ := ⟨_, rfl⟩
                  have HBQ := hide (show BsAt W7 W7.heap.size (bsOf q) by rw [hq]; exact hbs7)
                  have HQA := hide (show ∀ a, q.ad = some a → some a.block ≠ y14.ownBlock from fun a ha hc => by
                    rw [hq] at ha
                    have h1 := hab7 a ha
                    have h2 := hy14 _ hc.symm
                    omega)
                  have HQP := hide (show 0 < q.sp.cells.length by rw [hq]; show 0 < (bf ++ r.cells.l).length; rw [List.length_append]; have := HRL.out.1; omega)
                  have HQC := hide (show (spC q).toArray = [Value.int .i64 (ln : Int), .bool false, .bool le, .int .i64 (tl : Int), .slice A17 n17 c17, .int .i64 (k : Int)].toArray by rw [hq, htl, hn17]; rfl)
                  have HXN := hide (show (xs ++ [q]).map (·.sp) = (List.range (k + 1)).filterMap pa by rw [HPN.out, List.map_append, HXS.out, hq]; rfl)
                  have hxl : xs.length ≤ 96 := by have := HXL.out; have := HLT.out; omega
                  have hts : (S r.text).size = tl := by rw [S_size, htl]
                  obtain ⟨sv, hsv⟩ : ∃ sv, sv = S r.text := ⟨_, rfl⟩
                  rw [← hsv] at hts
                  have HLD := hide (fun (W : World) (hb : Below Y.heap.size Y W) => (show W.cell? ⟨g9, 0, none⟩ = some (.int .i64 (ln : Int)) ∧ W.cell? (rad.add (k * 3)) = some (.string sv) from by
                    obtain ⟨_, _, Z9, hw⟩ := HBL.out W hb
                    refine ⟨Z9.cell 0, ?_⟩
                    rw [hsv]
                    exact HRD.out W hw 0 _ rfl))
                  rw [← hn17] at HRUN7
                  obtain ⟨sl, hsl⟩ : ∃ sl : Int, sl = (ln : Int) := ⟨_, rfl⟩
                  rw [← hsl] at HQC HLD
                  clear hsl hrun7 ho7 hg7 hbs7 hown hbel hb7 hq hn17 htl hsv hy14 HSF3 HO3 hab7 rd2 HRD HRB HRL HPN
                  go_upto_region 23 with (at_builtin; refine Lib.wpList_append_run _ rfl _ _ _ _ rfl _ _ rfl rfl _ _ HRUN7.out ?_)
                  clear HRUN7 rd2' hb1 hrs HBF
                  obtain ⟨U, rfl⟩ : ∃ U, U = W7 := ⟨W7, rfl⟩
                  obtain ⟨b0, hb0⟩ : ∃ b0, b0 = U.heap.size := ⟨_, rfl⟩
                  refine wp_region_threeT 15 16 [some 108, some 109, some 110, some 111, some 112, some 113, some 114, some 115, some 116, some 117, some 118, some 119, some 120, some 121, some 122, some 123] (gAll (ksN Y.heap.size g9 sl le rad nr ck k tl A17 n17 c17 sv b0 y14 xs q))
                    (fun b W => (b = false → Below U.heap.size U W) ∧ Below Y.heap.size Y W ∧ U.grownBy W y14.ownBlock ∧ b0 ≤ W.heap.size) (by decide) (by kernel_rfl) (by kernel_rfl) (by kernel_rfl) (by rfl) (by decide) (by rfl) ⟨fun _ => (Below.refl _ _).drew, HUY.out.drew, only_drew (World.grownBy.refl _ _), by rw [hb0]; exact Nat.le_refl _⟩ ?_ ?_ ?_
                  · intro j hj hjm b A x W hC hd hr
                    have stay : ∀ W', Below W.heap.size W W' → (b = false → Below U.heap.size U W') ∧ Below Y.heap.size Y W' ∧ U.grownBy W' y14.ownBlock ∧ b0 ≤ W'.heap.size := fun W' hb => ⟨fun h => (hC.1 h).trans (hb.mono (hC.1 h).size), hC.2.1.trans (hb.mono hC.2.1.size), grown_below hC.2.2.1 hb, Nat.le_trans hC.2.2.2 hb.size⟩
                    have KSB : ∀ k' u {W'}, Below W.heap.size W W' → gAll (ksN Y.heap.size g9 sl le rad nr ck k tl A17 n17 c17 sv b0 y14 xs q) k' u W → gAll (ksN Y.heap.size g9 sl le rad nr ck k tl A17 n17 c17 sv b0 y14 xs q) k' u W' := fun k' u W' hb h => ksN_b Y.heap.size g9 sl le rad nr ck k tl A17 n17 c17 sv b0 y14 xs q k' W W' u hb h
                    have KSN : ∀ k', k' ≠ 15 → ∀ u {W' row}, W.grownBy W' row → (∀ g, row = some g → g < b0) → gAll (ksN Y.heap.size g9 sl le rad nr ck k tl A17 n17 c17 sv b0 y14 xs q) k' u W → gAll (ksN Y.heap.size g9 sl le rad nr ck k tl A17 n17 c17 sv b0 y14 xs q) k' u W' := fun k' hk u W' row hg hr h => ksN_n Y.heap.size g9 sl le rad nr ck k tl A17 n17 c17 sv b0 y14 xs q k' hk W W' row u hg hr h
                    have hj' : j = 0 ∨ j = 1 ∨ j = 2 ∨ j = 3 ∨ j = 4 ∨ j = 5 ∨ j = 6 ∨ j = 7 ∨ j = 8 ∨ j = 9 ∨ j = 10 ∨ j = 11 ∨ j = 12 ∨ j = 13 ∨ j = 14 := by omega
                    rcases hj' with rfl | rfl | rfl | rfl | rfl | rfl | rfl | rfl | rfl | rfl | rfl | rfl | rfl | rfl | rfl
                    · have e14 : A.tmps[14]?.getD undef = y14 := hr 14 (by decide)
                      refine wpOp_step rfl (fun K' hK => ?_)
                      go_simp
                      exact hK _ _ ⟨_, rfl, rfl, fun _ _ _ h => h, hC⟩
                    · have e9 : A.tmps[9]?.getD undef = .pointer (some ⟨g9, 0, none⟩) := hr 9 (by decide)
                      refine wpOp_step rfl (fun K' hK => ?_)
                      go_simp
                      exact hK _ _ ⟨_, rfl, rfl, fun _ _ _ h => h, hC⟩
                    · have d1 : A.tmps[109]?.getD undef = .pointer (some ⟨g9, 0, none⟩) := ((hd 1 (by decide)).1 109 rfl).trans (hd 1 (by decide)).2
                      refine wpOp_step rfl (fun K' hK => ?_)
                      have s0 : W.cell? ⟨g9, 0, none⟩ = some (.int .i64 sl) := (HLD.out W hC.2.1).1
                      go_simp
                      exact hK _ _ ⟨_, rfl, rfl, fun _ _ _ h => h, hC⟩
                    · have e12 : A.tmps[12]?.getD undef = .bool le := hr 12 (by decide)
                      refine wpOp_step rfl (fun K' hK => ?_)
                      go_simp
                      exact hK _ _ ⟨_, rfl, rfl, fun _ _ _ h => h, hC⟩
                    · have d2 : A.tmps[110]?.getD undef = .int .i64 sl := ((hd 2 (by decide)).1 110 rfl).trans (hd 2 (by decide)).2
                      have d3 : A.tmps[111]?.getD undef = .bool le := ((hd 3 (by decide)).1 111 rfl).trans (hd 3 (by decide)).2
                      refine wpOp_step rfl (fun K' hK => ?_)
                      go_simp
                      exact hK _ _ ⟨_, rfl, rfl, fun _ _ _ h => h, hC⟩
                    · have e15 : A.tmps[15]?.getD undef = .slice (some rad) nr ck := hr 15 (by decide)
                      refine wpOp_step rfl (fun K' hK => ?_)
                      go_simp
                      exact hK _ _ ⟨_, rfl, rfl, fun _ _ _ h => h, hC⟩
                    · have e16 : A.tmps[16]?.getD undef = .int .i64 (k : Int) := hr 16 (by decide)
                      refine wpOp_step rfl (fun K' hK => ?_)
                      go_simp
                      exact hK _ _ ⟨_, rfl, rfl, fun _ _ _ h => h, hC⟩
                    · have d5 : A.tmps[113]?.getD undef = .slice (some rad) nr ck := ((hd 5 (by decide)).1 113 rfl).trans (hd 5 (by decide)).2
                      have d6 : A.tmps[114]?.getD undef = .int .i64 (k : Int) := ((hd 6 (by decide)).1 114 rfl).trans (hd 6 (by decide)).2
                      refine wpOp_step rfl (fun K' hK => ?_)
                      go_simp
                      exact hK _ _ ⟨_, rfl, rfl, fun _ _ _ h => h, hC⟩
                    · have d7 : A.tmps[115]?.getD undef = .pointer (some (rad.add (k * 3))) := ((hd 7 (by decide)).1 115 rfl).trans (hd 7 (by decide)).2
                      refine wpOp_step rfl (fun K' hK => ?_)
                      go_simp
                      exact hK _ _ ⟨_, rfl, rfl, fun _ _ _ h => h, hC⟩
                    · have d8 : A.tmps[116]?.getD undef = .pointer (some (rad.add (k * 3))) := ((hd 8 (by decide)).1 116 rfl).trans (hd 8 (by decide)).2
                      refine wpOp_step rfl (fun K' hK => ?_)
                      have s1 : W.cell? (rad.add (k * 3)) = some (.string sv) := (HLD.out W hC.2.1).2
                      go_simp
                      exact hK _ _ ⟨_, rfl, rfl, fun _ _ _ h => h, hC⟩
                    · have d9 : A.tmps[117]?.getD undef = .string sv := ((hd 9 (by decide)).1 117 rfl).trans (hd 9 (by decide)).2
                      refine wpOp_step rfl (fun K' hK => ?_)
                      go_simp
                      exact hK _ _ ⟨_, rfl, rfl, fun _ _ _ h => h, hC⟩
                    · have e17 : A.tmps[17]?.getD undef = .slice A17 n17 c17 := hr 17 (by decide)
                      refine wpOp_step rfl (fun K' hK => ?_)
                      go_simp
                      exact hK _ _ ⟨_, rfl, rfl, fun _ _ _ h => h, hC⟩
                    · have e16 : A.tmps[16]?.getD undef = .int .i64 (k : Int) := hr 16 (by decide)
                      refine wpOp_step rfl (fun K' hK => ?_)
                      go_simp
                      exact hK _ _ ⟨_, rfl, rfl, fun _ _ _ h => h, hC⟩
                    · have d4 : A.tmps[112]?.getD undef = .agg #[.int .i64 sl, .bool false, .bool le] := ((hd 4 (by decide)).1 112 rfl).trans (hd 4 (by decide)).2
                      have d10 : A.tmps[118]?.getD undef = .int .i64 (tl : Int) := ((hd 10 (by decide)).1 118 rfl).trans (hd 10 (by decide)).2
                      have d11 : A.tmps[119]?.getD undef = .slice A17 n17 c17 := ((hd 11 (by decide)).1 119 rfl).trans (hd 11 (by decide)).2
                      have d12 : A.tmps[120]?.getD undef = .int .i64 (k : Int) := ((hd 12 (by decide)).1 120 rfl).trans (hd 12 (by decide)).2
                      refine wpOp_step rfl (fun K' hK => ?_)
                      go_simp
                      exact hK _ _ ⟨_, rfl, rfl, fun _ _ _ h => h, hC⟩
                    · have d13 : A.tmps[121]?.getD undef = .agg #[.int .i64 sl, .bool false, .bool le, .int .i64 (tl : Int), .slice A17 n17 c17, .int .i64 (k : Int)] := ((hd 13 (by decide)).1 121 rfl).trans (hd 13 (by decide)).2
                      refine wpOp_step rfl (fun K' hK => ?_)
                      go_simp
                      exact hK _ _ ⟨_, rfl, ⟨W.heap.size, rfl, hC.2.2.2, Blk.new W _ _⟩, fun k' _ u h => KSB k' u (below_alloc W _) h, stay _ (below_alloc W _)⟩
                  · intro A x W hC hd hr
                    have stay : ∀ W', Below W.heap.size W W' → (false = false → Below U.heap.size U W') ∧ Below Y.heap.size Y W' ∧ U.grownBy W' y14.ownBlock ∧ b0 ≤ W'.heap.size := fun W' hb => ⟨fun h => (hC.1 h).trans (hb.mono (hC.1 h).size), hC.2.1.trans (hb.mono hC.2.1.size), grown_below hC.2.2.1 hb, Nat.le_trans hC.2.2.2 hb.size⟩
                    have KSB : ∀ k' u {W'}, Below W.heap.size W W' → gAll (ksN Y.heap.size g9 sl le rad nr ck k tl A17 n17 c17 sv b0 y14 xs q) k' u W → gAll (ksN Y.heap.size g9 sl le rad nr ck k tl A17 n17 c17 sv b0 y14 xs q) k' u W' := fun k' u W' hb h => ksN_b Y.heap.size g9 sl le rad nr ck k tl A17 n17 c17 sv b0 y14 xs q k' W W' u hb h
                    have KSN : ∀ k', k' ≠ 15 → ∀ u {W' row}, W.grownBy W' row → (∀ g, row = some g → g < b0) → gAll (ksN Y.heap.size g9 sl le rad nr ck k tl A17 n17 c17 sv b0 y14 xs q) k' u W → gAll (ksN Y.heap.size g9 sl le rad nr ck k tl A17 n17 c17 sv b0 y14 xs q) k' u W' := fun k' hk u W' row hg hr h => ksN_n Y.heap.size g9 sl le rad nr ck k tl A17 n17 c17 sv b0 y14 xs q k' hk W W' row u hg hr h
                    obtain ⟨g, hx, hg0, hgb⟩ : gOne b0 99 [.int .i64 sl, .bool false, .bool le, .int .i64 (tl : Int), .slice A17 n17 c17, .int .i64 (k : Int)] W (x 14) := (hd 14 (by decide)).2
                    have dr : A.tmps[122]?.getD undef = .slice (some ⟨g, 0, none⟩) 1 1 := ((hd 14 (by decide)).1 122 rfl).trans hx
                    have dy : A.tmps[108]?.getD undef = y14 := ((hd 0 (by decide)).1 108 rfl).trans (hd 0 (by decide)).2
                    have hbw := hC.1 rfl
                    obtain ⟨v', W', hrun, hown', hgrow', hat'⟩ := steps_pushR W Y.heap.size g y14 xs q (own_below HOU.out hbw) (by rw [HQC.out]; exact hgb) hC.2.1.size (by omega) 56
                    refine wpOp_step rfl (fun K' hK => ?_)
                    refine step_run_append (by rfl) (.tmp 108) (.tmp 122) 56 rfl y14 (.slice (some ⟨g, 0, none⟩) 1 1) (by show A.tmps.getD 108 undef = _; simpa using dy) (by show A.tmps.getD 122 undef = _; simpa using dr) v' W' hrun ?_
                    refine hK _ _ ⟨v', rfl, ⟨hown', (HSU.out.below hbw).snoc (HBQ.out.same hbw) HQA.out HQP.out hgrow' hat'⟩, fun k' hk' u h => KSN k' hk' u hgrow' (fun g' hg' => by rw [hb0]; exact (HOU.out.lt g' hg').2) h, ⟨fun h => (by cases h), hC.2.1.grown hgrow' hC.2.1.size (fun g' hg' => (HOU.out.lt g' hg').1), grown_tr hC.2.2.1 hgrow', Nat.le_trans hC.2.2.2 hgrow'.size⟩⟩
                  · intro x W hC hR
                    obtain ⟨hown', hsf'⟩ : W.ownsRow Y.heap.size 99 6 (x 15) (xs ++ [q]).length (STC (xs ++ [q])) ∧ StepsF W (x 15) (xs ++ [q]) := hR 15 (by decide)
                    have HO9 := hide hown'
                    have HS9 := hide hsf'
                    have HB9 := hide hC.2.1
                    clear hown' hsf' hC hR
                    refine wpOp_step rfl (fun K' hK => ?_)
                    simp only [putL, Act.put, Nat.zero_add, Nat.reduceAdd, List.setIfInBounds_toArray, List.set_cons_succ, List.set_cons_zero]
                    generalize x 0 = z0
                    generalize x 1 = z1
                    generalize x 2 = z2
                    generalize x 3 = z3
                    generalize x 4 = z4
                    generalize x 5 = z5
                    generalize x 6 = z6
                    generalize x 7 = z7
                    generalize x 8 = z8
                    generalize x 9 = z9
                    generalize x 10 = z10
                    generalize x 11 = z11
                    generalize x 12 = z12
                    generalize x 13 = z13
                    generalize x 14 = z14
                    generalize x 15 = x15 at *
                    go_simp
                    refine hK _ _ ?_
                    clear hK K'
                    go_wp2
                    exact ⟨⟨k + 1, xs ++ [q], _, HLT.out, by go_num, rfl, HO9.out, HXN.out, by have := HXL.out; simp [Hid]; omega, HS9.out, HB9.out⟩, by have := HLT.out; simp [intOf]; omega⟩
        · obtain rfl : k = nr := by omega
          have HPF := hide (show xs.map (·.sp) = nxt by rw [HXS.out, HN2.out, HPC.out])
          have HFS := hide (show StepsAt wd y14 xs from own_formR HO.out (fun x hx => (HSF.out x hx).1) (by have := HXL.out; omega))
          have hnt : ¬ ((k : Int) < (k : Int)) := by omega
          clear hlt HXS HPC HPS HPA
          go_wp2
          go_ret
          first
            | exact ⟨_, xs, rfl, HFS.out, HPF.out, WD.out⟩
            | exact ⟨_, rfl, xs, HFS.out, HPF.out, WD.out⟩
  · have hnq : (li != (ln : Int)) = true := by simp [hne]
    have HF := hide (show nxt = [⟨⟨li, false, false⟩, 0, t.sw.l, -1⟩] by rw [HN0.out, if_pos (by simp [hne])])
    have HST := hide (steps_oneR ⟨⟨⟨li, false, false⟩, 0, t.sw.l, -1⟩, t.sw.ad, t.sw.c⟩ X (HSW.out.same HXW.out))
    have HBA := hide (HXW.out.trans ((below_alloc X (.cells (spC ⟨⟨⟨li, false, false⟩, 0, t.sw.l, -1⟩, t.sw.ad, t.sw.c⟩).toArray 99)).mono HXW.out.size))
    clear HN0 x44 x4l x91
    go_wp2
    go_ret
    first
      | exact ⟨_, [⟨⟨⟨li, false, false⟩, 0, t.sw.l, -1⟩, t.sw.ad, t.sw.c⟩], rfl, HST.out, by rw [HF.out]; rfl, HBA.out⟩
      | exact ⟨_, rfl, [⟨⟨⟨li, false, false⟩, 0, t.sw.l, -1⟩, t.sw.ad, t.sw.c⟩], HST.out, by rw [HF.out]; rfl, HBA.out⟩
end Go.Proofs.Ytbcfndhnopmbbaa
