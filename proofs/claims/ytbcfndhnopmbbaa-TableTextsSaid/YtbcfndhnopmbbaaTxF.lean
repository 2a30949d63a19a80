/-
  Running text: the walk of the law of Symbols, Runs and Letter.
-/
import Derived.Test.YtbcfndhnopmbbaaTxE
namespace Go.Proofs.Ytbcfndhnopmbbaa
open Go.RowKit
set_option linter.unusedVariables false
set_option linter.unusedSimpArgs false
theorem runs_rn {W : World} {A : Option Addr} {c : Nat} {l : List Tb.Run} (h : RunsAt W W.heap.size A l) : gRn W (.slice A l.length c) := ⟨A, c, l, rfl, h⟩
set_option maxHeartbeats 16000000 in
set_option maxRecDepth 100000 in
theorem textslaw_walk (A : Option Addr) (c : Nat) (l : List Tb.Run) (A2 : Option Addr) (c2 : Nat) (ml : Tb.Text) (A3 : Option Addr) (c3 : Nat) (kl : List Int) (ch : UInt8) (x : Int) (w : World) (hr : Reads w w.heap.size 2 A l.length (RNC l)) (hm : Reads w w.heap.size 2 A2 ml.length (SC ml)) (hmc : ml.length ≤ c2) (hmc2 : c2 ≤ maxLen) (hk : IntsAt w w.heap.size A3 kl) (hx : Wr.inI x) (hL : LivesC) :
    Calls Try.prog 4 #[.slice A l.length c, .slice A2 ml.length c2, .slice A3 kl.length c3, .int .u8 (ch.toNat : Int), .int .i64 x] w fun e w' => e = .returned (.bool true) ∧ Below w.heap.size w w' := by
  have CL := hide hL
  have CRL := hide (runsL_any A c l w hr)
  have CS := hide (fun (W : World) (hb : Below w.heap.size w W) => syms_any A3 c3 kl W ⟨(hk.1.below hb).more hb.size, hk.2⟩)
  obtain ⟨hgl, _⟩ := Tb.symsT_good kl
  obtain ⟨hmt, hml⟩ := text_rawT hm
  have HMT := hide hmt
  have CR := hide (fun (W : World) => rawT_any A2 ml.length c2 W hmc hmc2)
  rw [← hml] at CR
  have hm40 : (ml.take 40).length ≤ 40 := by rw [hml]; omega
  have CLO := hide (fun (W : World) => long_any x W hx)
  have CL1 := hide (fun (W : World) => letter_any ch W)
  have CL2 := hide (fun (W : World) => refLetter_any ch W)
  unfold VC at CL1 CL2
  generalize ml.take 40 = mx at *
  generalize ml.length = mn at *
  obtain ⟨mk, hmk⟩ : ∃ mk, mk = mx.length := ⟨_, rfl⟩
  have CRM := hide (fun (W : World) (hb : Below w.heap.size w W) => runs_any A2 c2 mx W (HMT.out.same hb) (by omega))
  have CRN := hide (fun (W : World) (hb : Below w.heap.size w W) => refRuns_any A2 c2 mx W (HMT.out.same hb) (by omega))
  rw [← hmk] at CR CRM CRN
  generalize Tb.symsT kl = tk at *
  obtain ⟨nk, hnk⟩ : ∃ nk, nk = tk.length := ⟨_, rfl⟩
  have HNK := hide hnk
  have CRK := hide (fun (Ak : Option Addr) (ck : Nat) (W : World) (h : TextAt W W.heap.size Ak tk) => runs_any Ak ck tk W h (by omega))
  have CRQ := hide (fun (Ak : Option Addr) (ck : Nat) (W : World) (h : TextAt W W.heap.size Ak tk) => refRuns_any Ak ck tk W h (by omega))
  rw [← hnk] at CS CRK CRQ
  generalize (Tb.low ch).toNat = cl at *
  generalize Tb.letter ch = le at *
  generalize Tb.capital ch = ca at *
  generalize ch.toNat = cn at *
  generalize l.length = ln at *
  generalize kl.length = kn at *
  obtain ⟨rm, hrm⟩ : ∃ rm, rm = Tb.runsT mx := ⟨_, rfl⟩
  obtain ⟨rk, hrk⟩ : ∃ rk, rk = Tb.runsT tk := ⟨_, rfl⟩
  rw [← hrm] at CRM CRN
  rw [← hrk] at CRK CRQ
  clear hr hL hm hmt hml hmc hmc2 hk hx hmk hgl hm40 hnk hrm hrk
  go_enter Try.func4, Try.ntmps4
  go_upto_region 2 with (first
    | (go_at_call 13; (with_reducible refine (unhide CRL).mono ?_); rintro e w1 ⟨v1, rfl, ⟨a1, d1, l1, rfl, hr1⟩, hb1⟩; have G1 := hide hr1; have B1 := hide hb1; clear hr1 hb1)
    | (go_at_call 15; (with_reducible refine (CS.out w1 B1.out).mono ?_); rintro e w2 ⟨Ak, ck, rfl, hck, htk, hb2⟩; have T2 := hide htk; have B2 := hide (B1.out.trans (hb2.mono B1.out.size)); have B12 := hide hb2; clear hck htk hb2)
    | (go_at_call 14; (with_reducible refine (CRQ.out Ak ck w2 T2.out).mono ?_); rintro e w3 ⟨Aq, cq, rfl, hcq, hrq, hb3⟩; have R3 := hide hrq; have B3 := hide (B2.out.trans (hb3.mono B2.out.size)); have B23 := hide hb3; clear hcq hrq hb3)
    | (go_at_call 16; (with_reducible refine (CLO.out w3).mono ?_); rintro e w4 ⟨v4, rfl, ⟨a4, d4, l4, rfl, hr4⟩, hb4⟩; have G4 := hide hr4; have B4 := hide (B3.out.trans (hb4.mono B3.out.size)); have B34 := hide hb4; clear hr4 hb4))
  refine name_world fun V hV => ?_
  have hr1 := G1.out.same ((B12.out.trans (B23.out.mono B12.out.size)).trans (B34.out.mono (B12.out.trans (B23.out.mono B12.out.size)).size))
  have hr3 := R3.out.same B34.out
  have hr4 := G4.out
  have HV4 := hide (show Below w4.heap.size w4 V by rw [← hV.out]; exact below_alloc w4 _)
  have VB := hide (show Blk V w4.heap.size 36 #[.slice a1 l1.length d1, .slice Aq rk.length cq, .slice a4 l4.length d4, .slice none 0 0] by rw [← hV.out]; exact Blk.new w4 _ _)
  obtain ⟨g, hg⟩ : ∃ g, g = w4.heap.size := ⟨_, rfl⟩
  rw [← hg] at VB ⊢
  have HWV := hide (B4.out.trans (HV4.out.mono B4.out.size))
  have HTX := hide (fun (i : Nat) (hi : i < 4) => (show ∃ (Ai : Option Addr) (ci : Nat) (rl : List Tb.Run), V.cell? ⟨g, i, none⟩ = some (.slice Ai rl.length ci) ∧ RunsAt V V.heap.size Ai rl from by
    have h4 : i = 0 ∨ i = 1 ∨ i = 2 ∨ i = 3 := by omega
    rcases h4 with rfl | rfl | rfl | rfl
    · exact ⟨a1, d1, l1, VB.out.cell 0, hr1.same HV4.out⟩
    · exact ⟨Aq, cq, rk, VB.out.cell 1, hr3.same HV4.out⟩
    · exact ⟨a4, d4, l4, VB.out.cell 2, hr4.same HV4.out⟩
    · exact ⟨none, 0, [], VB.out.cell 3, ⟨rfl, fun h => absurd h (by simp)⟩, by simp, by simp [Tb.flat]⟩))
  have hgV := VB.out.lt
  have HVV := hide (Below.refl V.heap.size V)
  clear hV hr1 hr3 hr4 HV4 B1 B2 B3 B4 B12 B23 B34 R3 T2 G1 G4 hg VB CRL CLO
  go_wp2
  go_loopw [12] (fun s wr => ∃ (i : Nat), i ≤ 4 ∧ s = .int .i64 (i : Int) ∧ Below V.heap.size V wr) (fun s _ => 4 - (intOf s).toNat)
  case atStart => exact ⟨0, by omega, rfl, HVV.out⟩
  case round =>
    obtain ⟨i, hi, rfl, hbel⟩ := hrel
    obtain ⟨wd, rfl⟩ : ∃ wd, wd = wr := ⟨wr, rfl⟩
    have HB := hide hbel
    have hi0 : (0 : Int) ≤ (i : Int) := by omega
    have HWD := hide (HWV.out.trans (hbel.mono HWV.out.size))
    by_cases hi4 : i < 4
    · have hi4i : (i : Int) < 4 := by omega
      obtain ⟨Ai, ci, rl, hcell, hrl⟩ := HTX.out i hi4
      have hcd : wd.cell? ⟨g, i, none⟩ = some (.slice Ai rl.length ci) := by rw [hbel.cell (by exact hgV)]; exact hcell
      have HCD := hide (fun (W : World) (hb : Below wd.heap.size wd W) => (show W.cell? ⟨g, i, none⟩ = some (.slice Ai rl.length ci) by rw [(hbel.trans (hb.mono hbel.size)).cell (by exact hgV)]; exact hcell))
      have CSY := hide (symbols_any Ai ci rl wd (hrl.same hbel))
      have CSR := hide (fun (W : World) (hb : Below wd.heap.size wd W) => refSymbols_any Ai ci rl W ((hrl.same hbel).same hb))
      obtain ⟨tx, htx⟩ : ∃ tx, tx = Tb.symT rl := ⟨_, rfl⟩
      obtain ⟨se, hse⟩ : ∃ se, se = Tb.symE rl := ⟨_, rfl⟩
      have HOK := Tb.symT_ok rl
      rw [← htx] at HOK
      rw [← htx, ← hse] at CSY
      rw [← htx, ← hse] at CSR
      obtain ⟨hbk1, hbk2⟩ := Tb.back_ok HOK.1 HOK.2
      obtain ⟨m, hm⟩ : ∃ m, m = tx.length := ⟨_, rfl⟩
      obtain ⟨rn, hrn⟩ : ∃ rn, rn = Tb.runsT tx := ⟨_, rfl⟩
      rw [← hrn] at hbk1 hbk2
      have CSS := hide (fun (P Q : Option Addr) (p q : Nat) (W : World) (h1 : TextAt W W.heap.size P tx) (h2 : TextAt W W.heap.size Q tx) => sameSyms_any P Q p q tx W h1 h2)
      have CRT := hide (fun (P : Option Addr) (p : Nat) (W : World) (h : TextAt W W.heap.size P tx) => runs_any P p tx W h (by omega))
      have CBK := hide (fun (P : Option Addr) (p : Nat) (W : World) (h : RunsAt W W.heap.size P rn) => (show Calls Try.prog 17 #[.slice P rn.length p] W fun e w' => ∃ A' c', e = .returned (.tuple #[.slice A' tx.length c', .int .i64 0]) ∧ TextAt w' w'.heap.size A' tx ∧ Below W.heap.size W w' from by
        have h9 := symbols_any P p rn W h
        rw [hbk1, hbk2] at h9
        exact h9.mono fun e w' ⟨A', c', h1, _, h3, h4⟩ => ⟨A', c', h1, h3, h4⟩))
      rw [← hrn] at CRT
      rw [← hm] at CSY CSR CSS CRT CBK
      obtain ⟨rlen, hrlen⟩ : ∃ rlen, rlen = rl.length := ⟨_, rfl⟩
      rw [← hrlen] at hcd HCD CSY CSR
      have hnee : (se != se) = false := by simp
      have hn0 : ((0 : Int) != 0) = false := by decide
      have HI := hide hi4
      clear hbel hi4 hcell hrl htx hse HOK hbk1 hbk2 hm hrn hrlen
      by_cases hez : se = 0
      · have hezb : (se == 0) = true := by simp [hez]
        clear hez
        go_wp2_with (first
          | (go_at_call 17; (with_reducible refine (unhide CSY).mono ?_); rintro e w2 ⟨P1, p1, rfl, hp1, ht1, hb2⟩; have T1 := hide ht1; have B2 := hide hb2; have k2 := HCD.out w2 hb2; clear hp1 ht1 hb2)
          | (go_at_call 18; (with_reducible refine (CSR.out w2 B2.out).mono ?_); rintro e w3 ⟨P2, p2, rfl, hp2, ht2, hb3⟩; have T2 := hide ht2; have T13 := hide (T1.out.same hb3); have B3 := hide (B2.out.trans (hb3.mono B2.out.size)); clear hp2 ht2 hb3)
          | (go_at_call 19; (with_reducible refine (CSS.out P1 P2 p1 p2 w3 T13.out T2.out).mono ?_); rintro e w4 ⟨rfl, hb4⟩; have T14 := hide (T13.out.same hb4); have B4 := hide (B3.out.trans (hb4.mono B3.out.size)); clear hb4)
          | (go_at_call 20; (with_reducible refine (CRT.out P1 p1 w4 T14.out).mono ?_); rintro e w5 ⟨P5, p5, rfl, hp5, hr5, hb5⟩; have R5 := hide hr5; have T15 := hide (T14.out.same hb5); have B5 := hide (B4.out.trans (hb5.mono B4.out.size)); clear hp5 hr5 hb5)
          | (go_at_call 17; (with_reducible refine (CBK.out P5 p5 w5 R5.out).mono ?_); rintro e w6 ⟨P6, p6, rfl, ht6, hb6⟩; have T6 := hide ht6; have T16 := hide (T15.out.same hb6); have B6 := hide (B5.out.trans (hb6.mono B5.out.size)); clear ht6 hb6)
          | (go_at_call 19; (with_reducible refine (CSS.out P6 P1 p6 p1 w6 T6.out T16.out).mono ?_); rintro e w7 ⟨rfl, hb7⟩; have B7 := hide (B6.out.trans (hb7.mono B6.out.size)); clear hb7))
        have hi9 := HI.out
        exact ⟨⟨i + 1, hi9, by go_num, HB.out.trans (B7.out.mono HB.out.size)⟩, by simp [intOf]; omega⟩
      · have hezb : (se == 0) = false := by simp [hez]
        clear hez
        go_wp2_with (first
          | (go_at_call 17; (with_reducible refine (unhide CSY).mono ?_); rintro e w2 ⟨P1, p1, rfl, hp1, ht1, hb2⟩; have T1 := hide ht1; have B2 := hide hb2; have k2 := HCD.out w2 hb2; clear hp1 ht1 hb2)
          | (go_at_call 18; (with_reducible refine (CSR.out w2 B2.out).mono ?_); rintro e w3 ⟨P2, p2, rfl, hp2, ht2, hb3⟩; have T2 := hide ht2; have T13 := hide (T1.out.same hb3); have B3 := hide (B2.out.trans (hb3.mono B2.out.size)); clear hp2 ht2 hb3)
          | (go_at_call 19; (with_reducible refine (CSS.out P1 P2 p1 p2 w3 T13.out T2.out).mono ?_); rintro e w4 ⟨rfl, hb4⟩; have T14 := hide (T13.out.same hb4); have B4 := hide (B3.out.trans (hb4.mono B3.out.size)); clear hb4)
          | (go_at_call 20; (with_reducible refine (CRT.out P1 p1 w4 T14.out).mono ?_); rintro e w5 ⟨P5, p5, rfl, hp5, hr5, hb5⟩; have R5 := hide hr5; have B5 := hide (B4.out.trans (hb5.mono B4.out.size)); clear hp5 hr5 hb5)
          | (go_at_call 17; (with_reducible refine (CBK.out P5 p5 w5 R5.out).mono ?_); rintro e w6 ⟨P6, p6, rfl, ht6, hb6⟩; have B6 := hide (B5.out.trans (hb6.mono B5.out.size)); clear ht6 hb6))
        have hi9 := HI.out
        exact ⟨⟨i + 1, hi9, by go_num, HB.out.trans (B6.out.mono HB.out.size)⟩, by simp [intOf]; omega⟩
    · obtain rfl : i = 4 := by omega
      have hq1 : ((cl : Int) != (cl : Int)) = false := by simp
      have hq2 : (le != le) = false := by simp
      have hq3 : (ca != ca) = false := by simp
      have CSM := hide (fun (P Q : Option Addr) (p q : Nat) (W : World) (h1 : RunsAt W W.heap.size P rm) (h2 : RunsAt W W.heap.size Q rm) => sameRuns_any P Q p q rm W h1 h2)
      have CSK := hide (fun (P Q : Option Addr) (p q : Nat) (W : World) (h1 : RunsAt W W.heap.size P rk) (h2 : RunsAt W W.heap.size Q rk) => sameRuns_any P Q p q rk W h1 h2)
      generalize rm.length = rml at *
      generalize rk.length = rkl at *
      clear hbel HTX HB
      go_wp2_with (first
        | (go_at_call 21; (with_reducible refine (CR.out wd).mono ?_); rintro e w5 ⟨rfl, rfl⟩)
        | (go_at_call 22; (with_reducible refine (CL1.out wd).mono ?_); rintro e w5 ⟨rfl, rfl⟩)
        | (go_at_call 23; (with_reducible refine (CL2.out wd).mono ?_); rintro e w5 ⟨rfl, rfl⟩)
        | (go_at_call 20; (with_reducible refine (CRM.out wd HWD.out).mono ?_); rintro e w6 ⟨P6, p6, rfl, _, hr6, hb6⟩; have R6 := hide hr6; have B6 := hide (HWD.out.trans (hb6.mono HWD.out.size)); clear hr6 hb6)
        | (go_at_call 14; (with_reducible refine (CRN.out w6 B6.out).mono ?_); rintro e w7 ⟨P7, p7, rfl, _, hr7, hb7⟩; have R7 := hide hr7; have R67 := hide (R6.out.same hb7); have B7 := hide (B6.out.trans (hb7.mono B6.out.size)); clear hr7 hb7)
        | (go_at_call 24; (with_reducible refine (CSM.out P6 P7 p6 p7 w7 R67.out R7.out).mono ?_); rintro e w8 ⟨rfl, hb8⟩; have B8 := hide (B7.out.trans (hb8.mono B7.out.size)); clear hb8)
        | (go_at_call 15; (with_reducible refine (CS.out w8 B8.out).mono ?_); rintro e w9 ⟨P9, p9, rfl, _, ht9, hb9⟩; have T9 := hide ht9; have B9 := hide (B8.out.trans (hb9.mono B8.out.size)); clear ht9 hb9)
        | (go_at_call 20; (with_reducible refine (CRK.out P9 p9 w9 T9.out).mono ?_); rintro e w10 ⟨P10, p10, rfl, _, hr10, hb10⟩; have R10 := hide hr10; have B10 := hide (B9.out.trans (hb10.mono B9.out.size)); clear hr10 hb10)
        | (go_at_call 15; (with_reducible refine (CS.out w10 B10.out).mono ?_); rintro e w11 ⟨P11, p11, rfl, _, ht11, hb11⟩; have T11 := hide ht11; have R11 := hide (R10.out.same hb11); have B11 := hide (B10.out.trans (hb11.mono B10.out.size)); clear ht11 hb11)
        | (go_at_call 14; (with_reducible refine (CRQ.out P11 p11 w11 T11.out).mono ?_); rintro e w12 ⟨P12, p12, rfl, _, hr12, hb12⟩; have R12 := hide hr12; have R112 := hide (R11.out.same hb12); have B12 := hide (B11.out.trans (hb12.mono B11.out.size)); clear hr12 hb12)
        | (go_at_call 24; (with_reducible refine (CSK.out P10 P12 p10 p12 w12 R112.out R12.out).mono ?_); rintro e w13 ⟨rfl, hb13⟩; have B13 := hide (B12.out.trans (hb13.mono B12.out.size)); clear hb13)
        | (go_at_call 12; refine (unhide CL _).mono ?_; rintro e w14 ⟨rfl, hb14⟩; have B14 := hide (B13.out.trans (hb14.mono B13.out.size)); clear hb14))
      go_ret
      exact ⟨rfl, B14.out⟩
end Go.Proofs.Ytbcfndhnopmbbaa
