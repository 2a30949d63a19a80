/-
  Tables: Steps of the reference, by contract; own and raw of the law.
-/
import Derived.Test.YtbcfndhnopmbbaaTabQc
import Derived.Test.YtbcfndhnopmbbaaTabLw
namespace Go.Proofs.Ytbcfndhnopmbbaa
open Go.RowKit
set_option linter.unusedVariables false
set_option linter.unusedSimpArgs false
set_option maxHeartbeats 8000000 in
set_option maxRecDepth 100000 in
theorem refSteps_any (v : Value) (t : Tb.Tab) (s : Tb.St) (A : Option Addr) (c : Nat) (l : Tb.Text) (p : Int) (w : World) (h : TabAt w w.heap.size v t) (hr : TextAt w w.heap.size A l) :
    Calls Try.prog 29 #[v, stV s, .slice A l.length c, .int .i64 p] w fun e w' => ∃ v' xs, e = .returned v' ∧ StepsAt w' v' xs ∧ xs.map (·.sp) = Tb.steps t s l p ∧ Below w.heap.size w w' := by
  have HS := hide (show Tb.steps t s l p = if 0 ≤ p ∧ p < l.length ∧ Tb.langOk s.lang = true ∧ l.all Tb.symOk = true ∧ Tb.valid t = 0 then Tb.next t s l p.toNat else [] from rfl)
  have CVA0 := hide (fun (W : World) (hb : Below w.heap.size w W) => refValid_any v t W ((h.below hb).more hb.size))
  have CG := hide (fun (W : World) (hb : Below w.heap.size w W) => refGood_any A c l W (hr.same hb))
  have CNX0 := hide (fun (q : Nat) (hq : q < l.length) (hlang : Tb.langOk s.lang = true) (hv : Tb.valid t = 0) (W : World) (hb : Below w.heap.size w W) => refNext_any v t s A c l q W ((h.below hb).more hb.size) (hr.same hb) hq hlang hv)
  have HLO := hide (show Tb.langOk s.lang = decide (0 ≤ s.lang ∧ s.lang < 2) from rfl)
  obtain ⟨A0, A1, c0, c1, rfl, h0, h1, _, _, hd, hcap, hnum, hfin, hsw⟩ := h
  have hbig := hr.2
  clear h0 h1 hd hcap hnum hfin hsw hr
  unfold stV at *
  generalize Tb.steps t s l p = sts at *
  generalize Tb.valid t = va at *
  generalize l.all Tb.symOk = al at *
  generalize Tb.langOk s.lang = lo at *
  generalize Tb.next t s l = nx at *
  generalize l.length = n at *
  have hni : (n : Int) ≤ 1048576 := by omega
  generalize t.r0.length = n0 at *
  generalize t.r1.length = n1 at *
  generalize t.dig.l.length = n2 at *
  generalize t.cap.l.length = n3 at *
  generalize t.num.l.length = n4 at *
  generalize t.fin.l.length = n5 at *
  generalize t.sw.l.length = n6 at *
  generalize s.lang = sl at *
  generalize s.num = sn at *
  generalize s.inn = si at *
  go_enter Try.func29, Try.ntmps29
  go_upto_region 1 with fail
  refine name_world fun V hV => ?_
  have V4 := hide (show Blk V w.heap.size 28 #[.slice A0 n0 c0, .slice A1 n1 c1, .slice t.dig.ad n2 t.dig.c, .slice t.cap.ad n3 t.cap.c, .slice t.num.ad n4 t.num.c, .slice t.fin.ad n5 t.fin.c, .slice t.sw.ad n6 t.sw.c] by rw [← hV.out]; exact (Blk.new w _ _).alloc _)
  have V5 := hide (show Blk V (w.heap.size + 1) 53 #[.int .i64 sl, .bool sn, .bool si] by rw [← hV.out]; exact Blk.new2 w _ _ _)
  have HV := hide (show Below w.heap.size w V by rw [← hV.out]; exact ((Below.refl _ _).alloc (Nat.le_refl _) _).alloc (by simp) _)
  have HBL := hide (fun (W : World) (hb : Below V.heap.size V W) => And.intro (V4.out.below hb V4.out.lt) (And.intro (V5.out.below hb V5.out.lt) (HV.out.trans (hb.mono HV.out.size))))
  have CVA := hide (CVA0.out V HV.out)
  obtain ⟨g4, hg4⟩ : ∃ g4, g4 = w.heap.size := ⟨_, rfl⟩
  rw [← hg4] at HBL V4 V5 ⊢
  clear hV CVA0 hg4
  have k0 : V.cell? ⟨g4, 0, none⟩ = some (.slice A0 n0 c0) := V4.out.cell 0
  have k1 : V.cell? ⟨g4, 1, none⟩ = some (.slice A1 n1 c1) := V4.out.cell 1
  have k2 : V.cell? ⟨g4, 2, none⟩ = some (.slice t.dig.ad n2 t.dig.c) := V4.out.cell 2
  have k3 : V.cell? ⟨g4, 3, none⟩ = some (.slice t.cap.ad n3 t.cap.c) := V4.out.cell 3
  have k4 : V.cell? ⟨g4, 4, none⟩ = some (.slice t.num.ad n4 t.num.c) := V4.out.cell 4
  have k5 : V.cell? ⟨g4, 5, none⟩ = some (.slice t.fin.ad n5 t.fin.c) := V4.out.cell 5
  have k6 : V.cell? ⟨g4, 6, none⟩ = some (.slice t.sw.ad n6 t.sw.c) := V4.out.cell 6
  clear V4 V5
  by_cases hva : va = 0
  · have tva : (va != 0) = false := by simp [hva]
    by_cases hl0 : sl < 0
    · have hlf : lo = false := by rw [HLO.out]; exact decide_eq_false (by omega)
      have HF := hide (show sts = [] by rw [HS.out, if_neg (by rw [hlf]; simp)])
      clear HS CNX0
      go_wp2_with (first
        | (go_at_call 11; refine (unhide CVA).mono ?_; rintro e w1 ⟨rfl, hb1⟩; have B1 := hide (HV.out.trans (hb1.mono HV.out.size)); obtain ⟨Q4, Q5, _⟩ := HBL.out w1 hb1; have s0 : w1.cell? ⟨g4 + 1, 0, none⟩ = some (.int .i64 sl) := Q5.cell 0; have s1 : w1.cell? ⟨g4 + 1, 1, none⟩ = some (.bool sn) := Q5.cell 1; have s2 : w1.cell? ⟨g4 + 1, 2, none⟩ = some (.bool si) := Q5.cell 2; have q0 : w1.cell? ⟨g4, 0, none⟩ = some (.slice A0 n0 c0) := Q4.cell 0; have q1 : w1.cell? ⟨g4, 1, none⟩ = some (.slice A1 n1 c1) := Q4.cell 1; have q2 : w1.cell? ⟨g4, 2, none⟩ = some (.slice t.dig.ad n2 t.dig.c) := Q4.cell 2; have q3 : w1.cell? ⟨g4, 3, none⟩ = some (.slice t.cap.ad n3 t.cap.c) := Q4.cell 3; have q4 : w1.cell? ⟨g4, 4, none⟩ = some (.slice t.num.ad n4 t.num.c) := Q4.cell 4; have q5 : w1.cell? ⟨g4, 5, none⟩ = some (.slice t.fin.ad n5 t.fin.c) := Q4.cell 5; have q6 : w1.cell? ⟨g4, 6, none⟩ = some (.slice t.sw.ad n6 t.sw.c) := Q4.cell 6; clear hb1 Q4 Q5)
        | (go_at_call 44; refine (CG.out _ B1.out).mono ?_; rintro e w2 ⟨rfl, rfl⟩))
      go_ret
      first
        | exact ⟨_, [], rfl, StepsAt.nil _, by rw [HF.out]; rfl, B1.out⟩
        | exact ⟨_, rfl, [], StepsAt.nil _, by rw [HF.out]; rfl, B1.out⟩
    · by_cases hl1 : 1 < sl
      · have hlf : lo = false := by rw [HLO.out]; exact decide_eq_false (by omega)
        have HF := hide (show sts = [] by rw [HS.out, if_neg (by rw [hlf]; simp)])
        clear HS CNX0
        go_wp2_with (first
          | (go_at_call 11; refine (unhide CVA).mono ?_; rintro e w1 ⟨rfl, hb1⟩; have B1 := hide (HV.out.trans (hb1.mono HV.out.size)); obtain ⟨Q4, Q5, _⟩ := HBL.out w1 hb1; have s0 : w1.cell? ⟨g4 + 1, 0, none⟩ = some (.int .i64 sl) := Q5.cell 0; have s1 : w1.cell? ⟨g4 + 1, 1, none⟩ = some (.bool sn) := Q5.cell 1; have s2 : w1.cell? ⟨g4 + 1, 2, none⟩ = some (.bool si) := Q5.cell 2; have q0 : w1.cell? ⟨g4, 0, none⟩ = some (.slice A0 n0 c0) := Q4.cell 0; have q1 : w1.cell? ⟨g4, 1, none⟩ = some (.slice A1 n1 c1) := Q4.cell 1; have q2 : w1.cell? ⟨g4, 2, none⟩ = some (.slice t.dig.ad n2 t.dig.c) := Q4.cell 2; have q3 : w1.cell? ⟨g4, 3, none⟩ = some (.slice t.cap.ad n3 t.cap.c) := Q4.cell 3; have q4 : w1.cell? ⟨g4, 4, none⟩ = some (.slice t.num.ad n4 t.num.c) := Q4.cell 4; have q5 : w1.cell? ⟨g4, 5, none⟩ = some (.slice t.fin.ad n5 t.fin.c) := Q4.cell 5; have q6 : w1.cell? ⟨g4, 6, none⟩ = some (.slice t.sw.ad n6 t.sw.c) := Q4.cell 6; clear hb1 Q4 Q5)
          | (go_at_call 44; refine (CG.out _ B1.out).mono ?_; rintro e w2 ⟨rfl, rfl⟩))
        go_ret
        first
          | exact ⟨_, [], rfl, StepsAt.nil _, by rw [HF.out]; rfl, B1.out⟩
          | exact ⟨_, rfl, [], StepsAt.nil _, by rw [HF.out]; rfl, B1.out⟩
      · have hlt : lo = true := by rw [HLO.out]; exact decide_eq_true (by omega)
        cases al with
        | false =>
          have HF := hide (show sts = [] by rw [HS.out, if_neg (by simp)])
          clear HS CNX0
          go_wp2_with (first
            | (go_at_call 11; refine (unhide CVA).mono ?_; rintro e w1 ⟨rfl, hb1⟩; have B1 := hide (HV.out.trans (hb1.mono HV.out.size)); obtain ⟨Q4, Q5, _⟩ := HBL.out w1 hb1; have s0 : w1.cell? ⟨g4 + 1, 0, none⟩ = some (.int .i64 sl) := Q5.cell 0; have s1 : w1.cell? ⟨g4 + 1, 1, none⟩ = some (.bool sn) := Q5.cell 1; have s2 : w1.cell? ⟨g4 + 1, 2, none⟩ = some (.bool si) := Q5.cell 2; have q0 : w1.cell? ⟨g4, 0, none⟩ = some (.slice A0 n0 c0) := Q4.cell 0; have q1 : w1.cell? ⟨g4, 1, none⟩ = some (.slice A1 n1 c1) := Q4.cell 1; have q2 : w1.cell? ⟨g4, 2, none⟩ = some (.slice t.dig.ad n2 t.dig.c) := Q4.cell 2; have q3 : w1.cell? ⟨g4, 3, none⟩ = some (.slice t.cap.ad n3 t.cap.c) := Q4.cell 3; have q4 : w1.cell? ⟨g4, 4, none⟩ = some (.slice t.num.ad n4 t.num.c) := Q4.cell 4; have q5 : w1.cell? ⟨g4, 5, none⟩ = some (.slice t.fin.ad n5 t.fin.c) := Q4.cell 5; have q6 : w1.cell? ⟨g4, 6, none⟩ = some (.slice t.sw.ad n6 t.sw.c) := Q4.cell 6; clear hb1 Q4 Q5)
            | (go_at_call 44; refine (CG.out _ B1.out).mono ?_; rintro e w2 ⟨rfl, rfl⟩))
          go_ret
          first
            | exact ⟨_, [], rfl, StepsAt.nil _, by rw [HF.out]; rfl, B1.out⟩
            | exact ⟨_, rfl, [], StepsAt.nil _, by rw [HF.out]; rfl, B1.out⟩
        | true =>
          by_cases hp0 : p < 0
          · have HF := hide (show sts = [] by rw [HS.out, if_neg (by omega)])
            clear HS CNX0
            go_wp2_with (first
              | (go_at_call 11; refine (unhide CVA).mono ?_; rintro e w1 ⟨rfl, hb1⟩; have B1 := hide (HV.out.trans (hb1.mono HV.out.size)); obtain ⟨Q4, Q5, _⟩ := HBL.out w1 hb1; have s0 : w1.cell? ⟨g4 + 1, 0, none⟩ = some (.int .i64 sl) := Q5.cell 0; have s1 : w1.cell? ⟨g4 + 1, 1, none⟩ = some (.bool sn) := Q5.cell 1; have s2 : w1.cell? ⟨g4 + 1, 2, none⟩ = some (.bool si) := Q5.cell 2; have q0 : w1.cell? ⟨g4, 0, none⟩ = some (.slice A0 n0 c0) := Q4.cell 0; have q1 : w1.cell? ⟨g4, 1, none⟩ = some (.slice A1 n1 c1) := Q4.cell 1; have q2 : w1.cell? ⟨g4, 2, none⟩ = some (.slice t.dig.ad n2 t.dig.c) := Q4.cell 2; have q3 : w1.cell? ⟨g4, 3, none⟩ = some (.slice t.cap.ad n3 t.cap.c) := Q4.cell 3; have q4 : w1.cell? ⟨g4, 4, none⟩ = some (.slice t.num.ad n4 t.num.c) := Q4.cell 4; have q5 : w1.cell? ⟨g4, 5, none⟩ = some (.slice t.fin.ad n5 t.fin.c) := Q4.cell 5; have q6 : w1.cell? ⟨g4, 6, none⟩ = some (.slice t.sw.ad n6 t.sw.c) := Q4.cell 6; clear hb1 Q4 Q5)
              | (go_at_call 44; refine (CG.out _ B1.out).mono ?_; rintro e w2 ⟨rfl, rfl⟩))
            go_ret
            first
              | exact ⟨_, [], rfl, StepsAt.nil _, by rw [HF.out]; rfl, B1.out⟩
              | exact ⟨_, rfl, [], StepsAt.nil _, by rw [HF.out]; rfl, B1.out⟩
          · obtain ⟨q, rfl⟩ : ∃ q : Nat, p = (q : Int) := ⟨p.toNat, by omega⟩
            by_cases hqn : (n : Int) ≤ (q : Int)
            · have HF := hide (show sts = [] by rw [HS.out, if_neg (by omega)])
              clear HS CNX0
              go_wp2_with (first
                | (go_at_call 11; refine (unhide CVA).mono ?_; rintro e w1 ⟨rfl, hb1⟩; have B1 := hide (HV.out.trans (hb1.mono HV.out.size)); obtain ⟨Q4, Q5, _⟩ := HBL.out w1 hb1; have s0 : w1.cell? ⟨g4 + 1, 0, none⟩ = some (.int .i64 sl) := Q5.cell 0; have s1 : w1.cell? ⟨g4 + 1, 1, none⟩ = some (.bool sn) := Q5.cell 1; have s2 : w1.cell? ⟨g4 + 1, 2, none⟩ = some (.bool si) := Q5.cell 2; have q0 : w1.cell? ⟨g4, 0, none⟩ = some (.slice A0 n0 c0) := Q4.cell 0; have q1 : w1.cell? ⟨g4, 1, none⟩ = some (.slice A1 n1 c1) := Q4.cell 1; have q2 : w1.cell? ⟨g4, 2, none⟩ = some (.slice t.dig.ad n2 t.dig.c) := Q4.cell 2; have q3 : w1.cell? ⟨g4, 3, none⟩ = some (.slice t.cap.ad n3 t.cap.c) := Q4.cell 3; have q4 : w1.cell? ⟨g4, 4, none⟩ = some (.slice t.num.ad n4 t.num.c) := Q4.cell 4; have q5 : w1.cell? ⟨g4, 5, none⟩ = some (.slice t.fin.ad n5 t.fin.c) := Q4.cell 5; have q6 : w1.cell? ⟨g4, 6, none⟩ = some (.slice t.sw.ad n6 t.sw.c) := Q4.cell 6; clear hb1 Q4 Q5)
                | (go_at_call 44; refine (CG.out _ B1.out).mono ?_; rintro e w2 ⟨rfl, rfl⟩))
              go_ret
              first
                | exact ⟨_, [], rfl, StepsAt.nil _, by rw [HF.out]; rfl, B1.out⟩
                | exact ⟨_, rfl, [], StepsAt.nil _, by rw [HF.out]; rfl, B1.out⟩
            · have hq1 : (q : Int) < (n : Int) := by omega
              have HF := hide (show sts = nx q by rw [HS.out, if_pos ⟨by omega, hq1, hlt, rfl, hva⟩, show ((q : Int)).toNat = q by omega])
              have CNX := hide (CNX0.out q (by omega) hlt hva)
              subst hlt
              clear HS CNX0 HLO
              go_wp2_with (first
                | (go_at_call 11; refine (unhide CVA).mono ?_; rintro e w1 ⟨rfl, hb1⟩; have B1 := hide (HV.out.trans (hb1.mono HV.out.size)); obtain ⟨Q4, Q5, _⟩ := HBL.out w1 hb1; have s0 : w1.cell? ⟨g4 + 1, 0, none⟩ = some (.int .i64 sl) := Q5.cell 0; have s1 : w1.cell? ⟨g4 + 1, 1, none⟩ = some (.bool sn) := Q5.cell 1; have s2 : w1.cell? ⟨g4 + 1, 2, none⟩ = some (.bool si) := Q5.cell 2; have q0 : w1.cell? ⟨g4, 0, none⟩ = some (.slice A0 n0 c0) := Q4.cell 0; have q1 : w1.cell? ⟨g4, 1, none⟩ = some (.slice A1 n1 c1) := Q4.cell 1; have q2 : w1.cell? ⟨g4, 2, none⟩ = some (.slice t.dig.ad n2 t.dig.c) := Q4.cell 2; have q3 : w1.cell? ⟨g4, 3, none⟩ = some (.slice t.cap.ad n3 t.cap.c) := Q4.cell 3; have q4 : w1.cell? ⟨g4, 4, none⟩ = some (.slice t.num.ad n4 t.num.c) := Q4.cell 4; have q5 : w1.cell? ⟨g4, 5, none⟩ = some (.slice t.fin.ad n5 t.fin.c) := Q4.cell 5; have q6 : w1.cell? ⟨g4, 6, none⟩ = some (.slice t.sw.ad n6 t.sw.c) := Q4.cell 6; clear hb1 Q4 Q5)
                | (go_at_call 44; refine (CG.out _ B1.out).mono ?_; rintro e w2 ⟨rfl, rfl⟩)
                | (go_at_call 57; refine (CNX.out _ B1.out).mono ?_; rintro e w3 ⟨v', xs, rfl, hst, hxs, hb3⟩; have HST := hide hst; have HXS := hide hxs; have B3 := hide (B1.out.trans (hb3.mono B1.out.size)); clear hst hxs hb3))
              go_ret
              first
                | exact ⟨_, xs, rfl, HST.out, by rw [HF.out]; exact HXS.out, B3.out⟩
                | exact ⟨_, rfl, xs, HST.out, by rw [HF.out]; exact HXS.out, B3.out⟩
  · have tva : (va != 0) = true := by simp [hva]
    have HF := hide (show sts = [] by rw [HS.out, if_neg (by exact fun h => hva h.2.2.2.2)])
    clear HS CNX0
    go_wp2_with (first
      | (go_at_call 11; refine (unhide CVA).mono ?_; rintro e w1 ⟨rfl, hb1⟩; have B1 := hide (HV.out.trans (hb1.mono HV.out.size)); obtain ⟨Q4, Q5, _⟩ := HBL.out w1 hb1; have s0 : w1.cell? ⟨g4 + 1, 0, none⟩ = some (.int .i64 sl) := Q5.cell 0; have s1 : w1.cell? ⟨g4 + 1, 1, none⟩ = some (.bool sn) := Q5.cell 1; have s2 : w1.cell? ⟨g4 + 1, 2, none⟩ = some (.bool si) := Q5.cell 2; have q0 : w1.cell? ⟨g4, 0, none⟩ = some (.slice A0 n0 c0) := Q4.cell 0; have q1 : w1.cell? ⟨g4, 1, none⟩ = some (.slice A1 n1 c1) := Q4.cell 1; have q2 : w1.cell? ⟨g4, 2, none⟩ = some (.slice t.dig.ad n2 t.dig.c) := Q4.cell 2; have q3 : w1.cell? ⟨g4, 3, none⟩ = some (.slice t.cap.ad n3 t.cap.c) := Q4.cell 3; have q4 : w1.cell? ⟨g4, 4, none⟩ = some (.slice t.num.ad n4 t.num.c) := Q4.cell 4; have q5 : w1.cell? ⟨g4, 5, none⟩ = some (.slice t.fin.ad n5 t.fin.c) := Q4.cell 5; have q6 : w1.cell? ⟨g4, 6, none⟩ = some (.slice t.sw.ad n6 t.sw.c) := Q4.cell 6; clear hb1 Q4 Q5)
      | (go_at_call 44; refine (CG.out _ B1.out).mono ?_; rintro e w2 ⟨rfl, rfl⟩))
    go_ret
    first
      | exact ⟨_, [], rfl, StepsAt.nil _, by rw [HF.out]; rfl, B1.out⟩
      | exact ⟨_, rfl, [], StepsAt.nil _, by rw [HF.out]; rfl, B1.out⟩
end Go.Proofs.Ytbcfndhnopmbbaa
/-
  Tables: own and raw of the law, by contract.
-/
namespace Go.Proofs.Ytbcfndhnopmbbaa
open Go.RowKit
set_option linter.unusedVariables false
set_option linter.unusedSimpArgs false
theorem stateInfoP : (Try.prog.info? 60).map (·.size) = some 3 := by kernel_rfl
set_option maxHeartbeats 1000000 in
theorem own_any (s : Tb.St) (w : World) : Calls Try.prog 28 #[stV s] w fun e w' => e = .returned (stV s) ∧ Below w.heap.size w w' := by
  unfold stV
  generalize s.lang = sl
  generalize s.num = sn
  generalize s.inn = si
  go_enter Try.func28, Try.ntmps28
  go_wp2
  exact bodyPost_ret (results_cell0 Try.results28 _ _ ⟨w.heap.size + 1, 0, none⟩ _ rfl (run_loadVar_row _ _ _ _ _ _ _ (Blk.new2 w _ _ _) Try.underlying60 rfl stateInfoP)) rfl ⟨rfl, ((Below.refl _ _).alloc (Nat.le_refl _) _).alloc (by simp) _⟩
set_option maxHeartbeats 1000000 in
theorem raw_any (A : Option Addr) (n c : Nat) (w : World) (hc : n ≤ c) (hc2 : c ≤ maxLen) : Calls Try.prog 21 #[.slice A n c] w fun e w' => e = .returned (.slice A (min n 40) c) ∧ w = w' := by
  have hm : maxLen = 9223372036854775807 := rfl
  by_cases h : n ≤ 40
  · have e : min n 40 = n := Nat.min_eq_left h
    rw [e]
    have h1 : (n : Int) ≤ 40 := by omega
    have hci : (n : Int) ≤ (c : Int) := by omega
    clear hm
    go_enter Try.func21, Try.ntmps21
    go_wp2
    all_goals go_ret
    all_goals first
      | exact ⟨rfl, rfl⟩
      | (obtain rfl : n = 40 := by omega
         exact ⟨rfl, rfl⟩)
  · have e : min n 40 = 40 := Nat.min_eq_right (by omega)
    rw [e]
    have h1 : ¬ (n : Int) ≤ 40 := by omega
    have h2 : (40 : Int) < (n : Int) := by omega
    have hci : (40 : Int) ≤ (c : Int) := by omega
    clear hm
    go_enter Try.func21, Try.ntmps21
    go_wp2
    all_goals go_ret
    all_goals exact ⟨rfl, rfl⟩
/-- the first characters of a text, however long it is -/
theorem text_raw {w : World} {A : Option Addr} {l : Tb.Text} (h : Reads w w.heap.size 2 A l.length (SC l)) : TextAt w w.heap.size A (l.take 40) ∧ (l.take 40).length = min l.length 40 := by
  have hl : (l.take 40).length = min l.length 40 := by rw [List.length_take, Nat.min_comm]
  refine ⟨⟨⟨by rw [SC_len], fun hn => ?_⟩, by omega⟩, hl⟩
  obtain ⟨ad, e, hb, hc⟩ := h.2 (by omega)
  refine ⟨ad, e, hb, fun j u hu => hc j u ?_⟩
  rw [← SC_take] at hu
  have hj : j < 40 * 2 := by
    have h := (List.getElem?_eq_some_iff.1 hu).1
    rw [List.length_take] at h
    omega
  rw [List.getElem?_take_of_lt hj] at hu
  exact hu
theorem refsteps_call (TV : Value) (t : Tb.Tab) (s : Tb.St) (sv : Value) (hsv : sv = stV s) (A : Option Addr) (c : Nat) (l : Tb.Text) (p : Int) (w W : World) (ht : TabAt w w.heap.size TV t) (hx : TextAt w w.heap.size A l) (hb : Below w.heap.size w W) (L : List Tb.Sp) (hL : Tb.steps t s l p = L) :
    Calls Try.prog 29 #[TV, sv, .slice A l.length c, .int .i64 p] W fun e w' => ∃ v, e = .returned v ∧ gSps L w' v ∧ Below W.heap.size W w' := by
  subst hsv
  subst hL
  refine (refSteps_any TV t s A c l p W ((ht.below hb).more hb.size) (hx.same hb)).mono ?_
  rintro e w' ⟨v', xs, rfl, hst, hxs, hb2⟩
  exact ⟨v', rfl, ⟨xs, hst, hxs⟩, hb2⟩
end Go.Proofs.Ytbcfndhnopmbbaa
