/-
  Tables: Good and inWord of the reference, by contract.
-/
import Derived.Test.YtbcfndhnopmbbaaTabVr
import Derived.Test.YtbcfndhnopmbbaaTabS
import Derived.Deep.QuietTactic
import Derived.BigQuiet
namespace Go.Proofs.Ytbcfndhnopmbbaa
open Go.RowKit
set_option linter.unusedVariables false
set_option linter.unusedSimpArgs false
set_option maxHeartbeats 4000000 in
set_option maxRecDepth 100000 in
theorem refGood_any (A : Option Addr) (c : Nat) (l : Tb.Text) (w : World) (hr : TextAt w w.heap.size A l) :
    Calls Try.prog 44 #[.slice A l.length c] w fun e w' => e = .returned (.bool (l.all Tb.symOk)) ∧ w = w' := by
  have hbig := hr.2
  obtain ⟨n, hn⟩ : ∃ n, n = l.length := ⟨_, rfl⟩
  have HN := hide hn
  rw [← hn] at hbig ⊢
  have hni : (n : Int) ≤ 1048576 := by omega
  have HR := hide hr
  clear hn hr
  generalize hres : l.all Tb.symOk = res at *
  have HRES := hide hres
  clear hres
  go_enter Try.func44, Try.ntmps44
  go_wp2
  go_loopw [3] (fun s wr => ∃ i : Nat, i ≤ n ∧ s = .int .i64 (i : Int) ∧ Hid ((l.take i).all Tb.symOk = true) ∧ w = wr) (fun s _ => n - (intOf s).toNat)
  case atStart => exact ⟨0, by omega, rfl, by rw [List.take_zero]; exact rfl, rfl⟩
  case round =>
    obtain ⟨i, hi, rfl, HT, rfl⟩ := hrel
    by_cases hlt : i < n
    · have hil : i < l.length := by rw [← HN.out]; exact hlt
      obtain ⟨ad, rfl, hadb, hc0, hc1⟩ := reads_sym' HR.out i hil
      rw [at_get l i hil] at hc0 hc1
      have hi0 : (0 : Int) ≤ (i : Int) := by omega
      have hi1 : (i : Int) < (n : Int) := by omega
      have HLT := hide hlt
      have CW := hide (fun W => refWritten_any l[i].2 W)
      have HTS := hide (all_take_succ Tb.symOk l i hil)
      have HBAD := hide (all_bad Tb.symOk l i hil)
      have HS := hide (show Tb.symOk l[i] = (decide (0 ≤ l[i].1 ∧ l[i].1 < 2) && Tb.written l[i].2) from rfl)
      unfold VC at CW
      generalize Tb.symOk l[i] = ok at *
      generalize Tb.written l[i].2 = wr at *
      generalize l[i].1 = la at *
      generalize l[i].2.toNat = cn at *
      clear hlt hil hadb
      by_cases h0 : la < 0
      · have HF := hide (show res = false by rw [← HRES.out]; exact HBAD.out (by rw [HS.out, decide_eq_false (by omega)]; rfl))
        clear HBAD HTS HS HT
        go_wp2_with (go_at_call 48; refine (unhide CW _).mono ?_; rintro e w1 ⟨rfl, rfl⟩)
        go_ret
        exact ⟨by rw [HF.out]; rfl, rfl⟩
      · by_cases h1 : 1 < la
        · have HF := hide (show res = false by rw [← HRES.out]; exact HBAD.out (by rw [HS.out, decide_eq_false (by omega)]; rfl))
          clear HBAD HTS HS HT
          go_wp2_with (go_at_call 48; refine (unhide CW _).mono ?_; rintro e w1 ⟨rfl, rfl⟩)
          go_ret
          exact ⟨by rw [HF.out]; rfl, rfl⟩
        · have HOK := hide (show ok = wr by rw [HS.out, decide_eq_true (by omega), Bool.true_and])
          clear HS
          cases wr with
          | false =>
            have HF := hide (show res = false by rw [← HRES.out]; exact HBAD.out HOK.out)
            clear HBAD HTS HOK HT
            go_wp2_with (go_at_call 48; refine (unhide CW _).mono ?_; rintro e w1 ⟨rfl, rfl⟩)
            go_ret
            exact ⟨by rw [HF.out]; rfl, rfl⟩
          | true =>
            have HT2 := hide (show (l.take (i + 1)).all Tb.symOk = true by rw [HTS.out, HT.out, HOK.out]; rfl)
            clear HBAD HTS HOK HT
            go_wp2_with (go_at_call 48; refine (unhide CW _).mono ?_; rintro e w1 ⟨rfl, rfl⟩)
            exact ⟨⟨i + 1, HLT.out, by go_num, HT2, by first | trivial | rfl⟩, by have := HLT.out; simp [intOf]; omega⟩
    · obtain rfl : i = n := by omega
      have HF := hide (show res = true by
        rw [← HRES.out]
        have h := HT.out
        rwa [List.take_of_length_le (by have := HN.out; omega)] at h)
      have hnt : ¬ ((i : Int) < (i : Int)) := by omega
      clear HRES HT hlt
      go_wp2
      go_ret
      exact ⟨by rw [HF.out]; rfl, rfl⟩
set_option maxHeartbeats 4000000 in
set_option maxRecDepth 100000 in
theorem refInWord_any (A : Option Addr) (c : Nat) (l : Tb.Text) (p : Nat) (w : World) (hr : TextAt w w.heap.size A l) (hp : p ≤ l.length) :
    Calls Try.prog 71 #[.slice A l.length c, .int .i64 (p : Int)] w fun e w' => e = .returned (.bool (Tb.inside l p)) ∧ ∃ q, w' = w.drewN q := by
  have HI := hide (show Tb.inside l p = (decide (0 < p ∧ p < l.length) && decide ((Tb.at_ l (p - 1)).1 = (Tb.at_ l p).1) && Tb.letter (Tb.at_ l (p - 1)).2 && Tb.letter (Tb.at_ l p).2) from rfl)
  have hbig := hr.2
  by_cases h0 : p = 0
  · have HF := hide (show Tb.inside l p = false by rw [HI.out, decide_eq_false (by omega)]; rfl)
    generalize Tb.inside l p = res at *
    generalize l.length = n at *
    have h1 : (p : Int) < 1 := by omega
    clear HI hr hp h0
    go_enter Try.func71, Try.ntmps71
    go_wp2
    go_ret
    exact ⟨by rw [HF.out]; rfl, 0, rfl⟩
  · by_cases h1 : p = l.length
    · have HF := hide (show Tb.inside l p = false by rw [HI.out, decide_eq_false (by omega)]; rfl)
      generalize Tb.inside l p = res at *
      rw [← h1]
      have d0 : ¬ ((p : Int) < 1) := by omega
      clear HI hr hp h1 h0
      go_enter Try.func71, Try.ntmps71
      go_wp2
      go_ret
      exact ⟨by rw [HF.out]; rfl, 0, rfl⟩
    · obtain ⟨q, rfl⟩ : ∃ q, p = q + 1 := ⟨p - 1, by omega⟩
      obtain ⟨ad, rfl, hadb, hc0, hc1⟩ := reads_sym' hr q (by omega)
      obtain ⟨ad', he, _, hc2, hc3⟩ := reads_sym' hr (q + 1) (by omega)
      injection he with he
      subst he
      have HI2 := hide (show Tb.inside l (q + 1) = (decide ((Tb.at_ l q).1 = (Tb.at_ l (q + 1)).1) && Tb.letter (Tb.at_ l q).2 && Tb.letter (Tb.at_ l (q + 1)).2) by rw [HI.out, decide_eq_true (by omega)]; simp)
      have CA := hide (fun (j : Nat) => (show Calls Try.prog 31 #[VC (Tb.at_ l q).2] (w.drewN j) fun e w' => e = .returned (.bool (Tb.letter (Tb.at_ l q).2)) ∧ ∃ z, w' = w.drewN z from (refIs_any (Tb.at_ l q).2 (w.drewN j)).mono fun e w' ⟨he, hz⟩ => ⟨he, j, hz.symm⟩))
      have CB := hide (fun (j : Nat) => (show Calls Try.prog 31 #[VC (Tb.at_ l (q + 1)).2] (w.drewN j) fun e w' => e = .returned (.bool (Tb.letter (Tb.at_ l (q + 1)).2)) ∧ ∃ z, w' = w.drewN z from (refIs_any (Tb.at_ l (q + 1)).2 (w.drewN j)).mono fun e w' ⟨he, hz⟩ => ⟨he, j, hz.symm⟩))
      clear HI
      unfold VC at CA CB
      generalize Tb.inside l (q + 1) = res at *
      generalize Tb.letter (Tb.at_ l q).2 = la at *
      generalize Tb.letter (Tb.at_ l (q + 1)).2 = lb at *
      generalize (Tb.at_ l q).2.toNat = na at *
      generalize (Tb.at_ l (q + 1)).2.toNat = nb at *
      generalize (Tb.at_ l q).1 = ga at *
      generalize (Tb.at_ l (q + 1)).1 = gb at *
      have hlt : (q : Int) + 1 < (l.length : Int) := by omega
      have hni : (l.length : Int) ≤ 1048576 := by omega
      generalize l.length = n at *
      have hq0 : (0 : Int) ≤ (q : Int) := by omega
      have hq1 : (q : Int) < (n : Int) := by omega
      have d0 : ¬ ((q : Int) + 1 < 1) := by omega
      have d1 : ¬ ((n : Int) ≤ (q : Int) + 1) := by omega
      clear hr hp h0 h1 hbig hadb
      rw [show (((q + 1 : Nat)) : Int) = (q : Int) + 1 from rfl]
      go_enter Try.func71, Try.ntmps71
      cases la with
      | false =>
        have HF := hide (show res = false by rw [HI2.out]; simp)
        clear HI2
        go_wp2
        go_quiet (first
          | (go_at_call 31; with_reducible exact unhide CA _)
          | (go_at_call 31; with_reducible exact unhide CB _))
        go_wp2
        go_ret
        exact ⟨by rw [HF.out]; rfl, _, rfl⟩
      | true =>
        cases lb with
        | false =>
          have HF := hide (show res = false by rw [HI2.out]; simp)
          clear HI2
          go_wp2
          go_quiet (first
            | (go_at_call 31; with_reducible exact unhide CA _)
            | (go_at_call 31; with_reducible exact unhide CB _))
          go_wp2
          go_ret
          exact ⟨by rw [HF.out]; rfl, _, rfl⟩
        | true =>
          by_cases hg : ga = gb
          · have hge : (ga == gb) = true := by simp [hg]
            have HF := hide (show res = true by rw [HI2.out, decide_eq_true hg]; rfl)
            clear HI2 hg
            go_wp2
            go_quiet (first
              | (go_at_call 31; with_reducible exact unhide CA _)
              | (go_at_call 31; with_reducible exact unhide CB _))
            go_wp2
            go_ret
            exact ⟨by rw [HF.out]; rfl, _, rfl⟩
          · have hge : (ga == gb) = false := by simp [hg]
            have HF := hide (show res = false by rw [HI2.out, decide_eq_false hg]; rfl)
            clear HI2 hg
            go_wp2
            go_quiet (first
              | (go_at_call 31; with_reducible exact unhide CA _)
              | (go_at_call 31; with_reducible exact unhide CB _))
            go_wp2
            go_ret
            exact ⟨by rw [HF.out]; rfl, _, rfl⟩
end Go.Proofs.Ytbcfndhnopmbbaa
/-
  Tables: Fits of the reference, by contract.
-/
namespace Go.Proofs.Ytbcfndhnopmbbaa
open Go.RowKit
set_option linter.unusedVariables false
set_option linter.unusedSimpArgs false
namespace Tb
theorem small_not_capital {c : UInt8} (h : small c = true) : capital c = false := by
  unfold small at h
  unfold capital
  have := of_decide_eq_true h
  exact decide_eq_false (by omega)
/-- the reference's test of a character, for a rule as it has to be -/
theorem standsAt_ref {r : Rl} (h : right r = true) (l : Text) (p i : Nat) (hi : i < r.text.length) :
    standsAt r.text l p i = (decide (low (at_ l (p + i)).2 = r.text.getD i 0) && decide ((at_ l (p + i)).1 = (at_ l p).1) && !(decide (0 < i) && capital (at_ l (p + i)).2)) := by
  unfold standsAt
  by_cases h0 : i = 0
  · subst h0
    simp
  · rw [if_neg h0, decide_eq_true (show 0 < i by omega), Bool.true_and]
    have hs : small (r.text.getD i 0) = true := by
      unfold right at h
      simp only [Bool.and_eq_true] at h
      have h2 := h.2
      by_cases ha : r.text.all small = true
      · rw [List.getD_eq_getElem?_getD, List.getElem?_eq_getElem hi]
        exact (List.all_eq_true.1 ha) _ (List.getElem_mem hi)
      · rw [if_neg ha] at h2
        simp only [Bool.and_eq_true, decide_eq_true_eq] at h2
        omega
    generalize r.text.getD i 0 = s at *
    generalize (at_ l (p + i)).2 = c
    cases hc : capital c with
    | true =>
      have hne : c ≠ s := fun e => by
        rw [e] at hc
        rw [small_not_capital hs] at hc
        cases hc
      rw [decide_eq_false hne]
      simp
    | false =>
      have hl : low c = c := by unfold low; rw [hc]; rfl
      rw [hl]
      simp
end Tb
theorem int_eqF {x y : Int} (h : x ≠ y) : (x != y) = true := by simp [h]
set_option maxHeartbeats 8000000 in
set_option maxRecDepth 100000 in
theorem refFits_any (r : Tb.Rl) (A : Option Addr) (c : Nat) (l : Tb.Text) (p : Nat) (w : World) (hR : Tb.right r = true) (hr : TextAt w w.heap.size A l) (hp : p < l.length) :
    Calls Try.prog 65 #[.agg #[.string (S r.text), .int .i64 r.wh, .slice r.cells.ad r.cells.l.length r.cells.c], .slice A l.length c, .int .i64 (p : Int)] w fun e w' => e = .returned (.bool (Tb.fits r l p)) ∧ Below w.heap.size w w' := by
  have hbig := hr.2
  have HR := hide hr
  have htx := Tb.right_text hR
  have HFI := hide (show Tb.fits r l p = (Tb.stands r.text l p && Tb.whereOk r.wh (Tb.inside l p) (Tb.inside l (p + r.text.length))) from rfl)
  have HST := hide (show Tb.stands r.text l p = (decide (p + r.text.length ≤ l.length) && (List.range r.text.length).all (Tb.standsAt r.text l p)) from rfl)
  have HSA := hide (Tb.standsAt_ref hR l p)
  have HWH := hide (show r.text.all Tb.small = false → r.wh = 0 from fun h => by
    unfold Tb.right at hR
    simp only [Bool.and_eq_true] at hR
    have h2 := hR.2
    rw [if_neg (by rw [h]; decide)] at h2
    simp only [Bool.and_eq_true, decide_eq_true_eq] at h2
    exact h2.2)
  have CSM := hide (fun (W : World) => refSmall_any r.text W (by omega))
  have CI0 := hide (fun (W : World) (hb : Below w.heap.size w W) => refInWord_any A c l p W (hr.same hb) (by omega))
  have CI1 := hide (fun (h : p + r.text.length ≤ l.length) (W : World) (hb : Below w.heap.size w W) => refInWord_any A c l (p + r.text.length) W (hr.same hb) h)
  obtain ⟨ad, rfl, hadb, hcl, _⟩ := reads_sym' hr p hp
  have hsz : (S r.text).size = r.text.length := S_size r.text
  have HSX := hide (fun (i : Nat) (hi : i < r.text.length) (W : World) => run_index_S r.text i hi W)
  have HWD := hide (show ∀ b e, Tb.whereOk r.wh b e = if r.wh = 1 then !b && !e else if r.wh = 2 then !b && e else if r.wh = 3 then b else true from fun _ _ => rfl)
  clear hr hR
  generalize Tb.fits r l p = res at *
  generalize Tb.stands r.text l p = sts at *
  generalize Tb.inside l p = bg at *
  generalize Tb.inside l (p + r.text.length) = en at *
  generalize Tb.whereOk r.wh = wo at *
  generalize Tb.standsAt r.text l p = sa at *
  generalize r.text.all Tb.small = sm at *
  generalize r.wh = wh at *
  generalize hn : l.length = n at *
  have HN := hide hn
  generalize r.cells.l.length = cln at *
  generalize r.cells.ad = cad at *
  generalize r.cells.c = ccp at *
  have HTX := hide (show True from trivial)
  obtain ⟨tx, htxe⟩ : ∃ tx, tx = r.text := ⟨_, rfl⟩
  rw [← htxe] at HST HSA HSX CI1 CSM hsz htx ⊢
  clear htxe
  obtain ⟨m, hm⟩ : ∃ m, m = tx.length := ⟨_, rfl⟩
  rw [← hm] at HST HSX CI1 hsz htx HSA
  generalize S tx = sv at *
  have hni : (n : Int) ≤ 1048576 := by omega
  have hmi : (m : Int) ≤ 8 := by omega
  have hp0 : (0 : Int) ≤ (p : Int) := by omega
  have hpn : (p : Int) < (n : Int) := by omega
  clear hm hn
  go_enter Try.func65, Try.ntmps65
  go_upto_region 1 with fail
  refine name_world fun V hV => ?_
  have V3 := hide (show Blk V w.heap.size 74 #[.string sv, .int .i64 wh, .slice cad cln ccp] by rw [← hV.out]; exact Blk.new w _ _)
  have HV := hide (show Below w.heap.size w V by rw [← hV.out]; exact below_alloc w _)
  have f0 : V.cell? ⟨w.heap.size, 0, none⟩ = some (.string sv) := V3.out.cell 0
  have hg3 := V3.out.lt
  clear hV
  by_cases hlong : (n : Int) < (p : Int) + (m : Int)
  · have HF := hide (show res = false by rw [HFI.out, HST.out, decide_eq_false (by omega)]; rfl)
    go_wp2
    go_ret
    exact ⟨by rw [HF.out]; rfl, HV.out⟩
  · have hpm : p + m ≤ n := by omega
    have HST2 := hide (show sts = (List.range m).all sa by rw [HST.out, decide_eq_true hpm, Bool.true_and])
    have C1 := hide (fun (W : World) (hb : Below w.heap.size w W) => (show Calls Try.prog 71 #[.slice (some ad) n c, .int .i64 ((p : Int) + (m : Int))] W fun e w' => e = .returned (.bool en) ∧ ∃ q, w' = W.drewN q from CI1.out hpm W hb))
    have HVV := hide (Below.refl V.heap.size V)
    clear HST CI1
    go_wp2
    go_loopw [8] (fun s wr => ∃ (i q : Nat), i ≤ m ∧ s = .int .i64 (i : Int) ∧ Hid ((List.range i).all sa = true) ∧ wr = V.drewN q) (fun s _ => m - (intOf s).toNat)
    case atStart => exact ⟨0, 0, by omega, rfl, rfl, rfl⟩
    case round =>
      obtain ⟨i, q, hi, rfl, HT, rfl⟩ := hrel
      by_cases hlt : i < m
      · obtain ⟨k, hk⟩ : ∃ k, k = p + i := ⟨_, rfl⟩
        obtain ⟨ad', he, _, hd0, hd1⟩ := reads_sym' HR.out k (by rw [HN.out]; omega)
        injection he with he
        subst he
        have v0 : V.cell? (ad.add (k * 2)) = some (.int .i64 (Tb.at_ l k).1) := by rw [HV.out.cell (by rw [block_of_add]; exact hadb)]; exact hd0
        have v1 : V.cell? ⟨(ad.add (k * 2)).block, (ad.add (k * 2)).off + 1, none⟩ = some (.int .u8 ((Tb.at_ l k).2.toNat : Int)) := by rw [HV.out.cell (by show (ad.add (k * 2)).block < _; rw [block_of_add]; exact hadb)]; exact hd1
        have v2 : V.cell? (ad.add (p * 2)) = some (.int .i64 (Tb.at_ l p).1) := by rw [HV.out.cell (by rw [block_of_add]; exact hadb)]; exact hcl
        have hi0 : (0 : Int) ≤ (i : Int) := by omega
        have hi2 : (i : Int) < (m : Int) := by omega
        have hix := fun W => HSX.out i hlt W
        have HLT := hide hlt
        have HTS := hide (show (List.range (i + 1)).all sa = ((List.range i).all sa && sa i) by rw [List.range_succ, List.all_append]; simp)
        have HSI := hide (HSA.out i hlt)
        rw [← hk] at HSI
        have HBAD := hide (show sa i = false → res = false by
          intro h
          rw [HFI.out, HST2.out, List.all_eq_false.2 ⟨i, List.mem_range.2 hlt, by rw [h]; decide⟩]
          rfl)
        have CL := hide (fun W => refLetter_any (Tb.at_ l k).2 W)
        unfold VC at CL
        have hki : (p : Int) + (i : Int) = (k : Int) := by omega
        have hk0 : (0 : Int) ≤ (k : Int) := by omega
        have hkn : (k : Int) < (n : Int) := by omega
        clear hd0 hd1 hlt HSX HSA hk
        generalize sa i = ok at *
        generalize tx.getD i 0 = sc at *
        generalize Tb.letter (Tb.at_ l k).2 = le at *
        generalize Tb.capital (Tb.at_ l k).2 = ca at *
        generalize Tb.low (Tb.at_ l k).2 = lo at *
        generalize (Tb.at_ l k).2.toNat = cc at *
        generalize (Tb.at_ l k).1 = li at *
        generalize (Tb.at_ l p).1 = lp at *
        have E1 := hide (u8_ne lo sc)
        have E2 := hide (int_ne li lp)
        by_cases e1 : lo = sc
        · have E1' := E1.out
          rw [decide_eq_true e1] at E1'
          by_cases e2 : li = lp
          · have E2' := E2.out
            rw [decide_eq_true e2] at E2'
            rw [decide_eq_true e1, decide_eq_true e2] at HSI
            by_cases hz : 0 < i
            · have hzi : (0 : Int) < (i : Int) := by omega
              rw [decide_eq_true hz] at HSI
              cases ca with
              | true =>
                have HF := hide (show res = false from HBAD.out (by rw [HSI.out]; rfl))
                clear E1 E2 HSI HBAD HTS HT e1 e2
                generalize (lo.toNat : Int) = cv at *
                generalize (sc.toNat : Int) = scv at *
                go_wp2_with (go_at_call 23; refine (unhide CL _).mono ?_; rintro e w1 ⟨rfl, rfl⟩)
                go_quiet (fail)
                go_wp2
                go_ret
                exact ⟨by rw [HF.out]; rfl, below_drewN (below_drewN HV.out _) _⟩
              | false =>
                have HOK := hide (show (List.range (i + 1)).all sa = true by rw [HTS.out, HT.out, HSI.out]; rfl)
                clear E1 E2 HSI HBAD HTS HT e1 e2
                generalize (lo.toNat : Int) = cv at *
                generalize (sc.toNat : Int) = scv at *
                go_wp2_with (go_at_call 23; refine (unhide CL _).mono ?_; rintro e w1 ⟨rfl, rfl⟩)
                go_quiet (fail)
                go_wp2
                exact ⟨⟨i + 1, _, HLT.out, by go_num, HOK, rfl⟩, by have := HLT.out; simp [intOf]; omega⟩
            · have hzi : decide ((0 : Int) < (i : Int)) = false := decide_eq_false (by omega)
              have hzi2 : decide (0 < i) = false := decide_eq_false hz
              rw [decide_eq_false hz] at HSI
              have HOK := hide (show (List.range (i + 1)).all sa = true by rw [HTS.out, HT.out, HSI.out]; rfl)
              clear E1 E2 HSI HBAD HTS HT e1 e2 hz
              generalize (lo.toNat : Int) = cv at *
              generalize (sc.toNat : Int) = scv at *
              go_wp2_with (go_at_call 23; refine (unhide CL _).mono ?_; rintro e w1 ⟨rfl, rfl⟩)
              go_quiet (fail)
              go_wp2
              exact ⟨⟨i + 1, _, HLT.out, by go_num, HOK, rfl⟩, by have := HLT.out; simp [intOf]; omega⟩
          · have E2' := E2.out
            rw [decide_eq_false e2] at E2'
            have HF := hide (show res = false from HBAD.out (by rw [HSI.out, decide_eq_false e2, Bool.and_false]; rfl))
            clear E1 E2 HSI HBAD HTS HT e1 e2
            generalize (lo.toNat : Int) = cv at *
            generalize (sc.toNat : Int) = scv at *
            go_wp2_with (go_at_call 23; refine (unhide CL _).mono ?_; rintro e w1 ⟨rfl, rfl⟩)
            go_quiet (fail)
            go_wp2
            go_ret
            exact ⟨by rw [HF.out]; rfl, below_drewN (below_drewN HV.out _) _⟩
        · have E1' := E1.out
          rw [decide_eq_false e1] at E1'
          have HF := hide (show res = false from HBAD.out (by rw [HSI.out, decide_eq_false e1, Bool.false_and]; rfl))
          clear E1 E2 HSI HBAD HTS HT e1
          generalize (lo.toNat : Int) = cv at *
          generalize (sc.toNat : Int) = scv at *
          go_wp2_with (go_at_call 23; refine (unhide CL _).mono ?_; rintro e w1 ⟨rfl, rfl⟩)
          go_quiet (fail)
          go_wp2
          go_ret
          exact ⟨by rw [HF.out]; rfl, below_drewN (below_drewN HV.out _) _⟩
      · obtain rfl : i = m := by omega
        have HFI2 := hide (show res = wo bg en by rw [HFI.out, HST2.out, HT.out, Bool.true_and])
        have hnt : ¬ ((i : Int) < (i : Int)) := by omega
        have HB := hide (below_drewN HV.out q)
        have X3 := hide (show Blk (V.drewN q) w.heap.size 74 #[.string sv, .int .i64 wh, .slice cad cln ccp] from V3.out)
        generalize V.drewN q = X at *
        have x0 : X.cell? ⟨w.heap.size, 0, none⟩ = some (.string sv) := X3.out.cell 0
        have x1 : X.cell? ⟨w.heap.size, 1, none⟩ = some (.int .i64 wh) := X3.out.cell 1
        have hpmi : wrap64 ((p : Int) + (i : Int)) = (p : Int) + (i : Int) := by unfold wrap64; omega
        clear HT hlt HSX HSA HST2 HFI f0
        cases sm with
        | false =>
          have hw0 := HWH.out rfl
          have HF := hide (show res = true by rw [HFI2.out, HWD.out, hw0]; rfl)
          clear hw0 HFI2 HWD HWH
          go_wp2_with (go_at_call 62; refine (unhide CSM _).mono ?_; rintro e w1 ⟨rfl, hb1⟩; have B1 := hide (HB.out.trans (hb1.mono HB.out.size)); clear hb1)
          go_ret
          exact ⟨by rw [HF.out]; rfl, B1.out⟩
        | true =>
          clear HWH
          by_cases h1 : wh = 1
          · have t1 : (wh == 1) = true := by rw [h1]; rfl
            have HF := hide (show res = (!bg && !en) by rw [HFI2.out, HWD.out, if_pos h1])
            clear HFI2 HWD h1
            cases bg <;> cases en <;>
            · go_wp2_with (first
                | (go_at_call 62; refine (unhide CSM _).mono ?_; rintro e w1 ⟨rfl, hb1⟩; have B1 := hide (HB.out.trans (hb1.mono HB.out.size)); have P1 := hide (X3.out.below hb1 X3.out.lt); have p1 : w1.cell? ⟨w.heap.size, 1, none⟩ = some (.int .i64 wh) := P1.out.cell 1; clear hb1)
                | (go_at_call 71; (with_reducible refine (CI0.out _ B1.out).mono ?_); rintro e w2 ⟨rfl, q2, rfl⟩)
                | (go_at_call 71; (with_reducible refine (C1.out _ (below_drewN B1.out _)).mono ?_); rintro e w3 ⟨rfl, q3, rfl⟩))
              go_ret
              exact ⟨by rw [HF.out]; rfl, below_drewN B1.out _⟩
          · have t1 : (wh == 1) = false := by rw [beq_eq_false_iff_ne]; exact h1
            by_cases h2 : wh = 2
            · have t2 : (wh == 2) = true := by rw [h2]; rfl
              have HF := hide (show res = (!bg && en) by rw [HFI2.out, HWD.out, if_neg h1, if_pos h2])
              clear HFI2 HWD h1 h2
              cases bg <;> cases en <;>
              · go_wp2_with (first
                  | (go_at_call 62; refine (unhide CSM _).mono ?_; rintro e w1 ⟨rfl, hb1⟩; have B1 := hide (HB.out.trans (hb1.mono HB.out.size)); have P1 := hide (X3.out.below hb1 X3.out.lt); have p1 : w1.cell? ⟨w.heap.size, 1, none⟩ = some (.int .i64 wh) := P1.out.cell 1; clear hb1)
                  | (go_at_call 71; (with_reducible refine (CI0.out _ B1.out).mono ?_); rintro e w2 ⟨rfl, q2, rfl⟩)
                  | (go_at_call 71; (with_reducible refine (C1.out _ (below_drewN B1.out _)).mono ?_); rintro e w3 ⟨rfl, q3, rfl⟩))
                go_ret
                exact ⟨by rw [HF.out]; rfl, below_drewN B1.out _⟩
            · have t2 : (wh == 2) = false := by rw [beq_eq_false_iff_ne]; exact h2
              by_cases h3 : wh = 3
              · have t3 : (wh == 3) = true := by rw [h3]; rfl
                have HF := hide (show res = bg by rw [HFI2.out, HWD.out, if_neg h1, if_neg h2, if_pos h3])
                clear HFI2 HWD h1 h2 h3
                cases bg <;> cases en <;>
                · go_wp2_with (first
                    | (go_at_call 62; refine (unhide CSM _).mono ?_; rintro e w1 ⟨rfl, hb1⟩; have B1 := hide (HB.out.trans (hb1.mono HB.out.size)); have P1 := hide (X3.out.below hb1 X3.out.lt); have p1 : w1.cell? ⟨w.heap.size, 1, none⟩ = some (.int .i64 wh) := P1.out.cell 1; clear hb1)
                    | (go_at_call 71; (with_reducible refine (CI0.out _ B1.out).mono ?_); rintro e w2 ⟨rfl, q2, rfl⟩)
                    | (go_at_call 71; (with_reducible refine (C1.out _ (below_drewN B1.out _)).mono ?_); rintro e w3 ⟨rfl, q3, rfl⟩))
                  go_ret
                  exact ⟨by rw [HF.out]; rfl, below_drewN B1.out _⟩
              · have t3 : (wh == 3) = false := by rw [beq_eq_false_iff_ne]; exact h3
                have HF := hide (show res = true by rw [HFI2.out, HWD.out, if_neg h1, if_neg h2, if_neg h3])
                clear HFI2 HWD h1 h2 h3
                cases bg <;> cases en <;>
                · go_wp2_with (first
                    | (go_at_call 62; refine (unhide CSM _).mono ?_; rintro e w1 ⟨rfl, hb1⟩; have B1 := hide (HB.out.trans (hb1.mono HB.out.size)); have P1 := hide (X3.out.below hb1 X3.out.lt); have p1 : w1.cell? ⟨w.heap.size, 1, none⟩ = some (.int .i64 wh) := P1.out.cell 1; clear hb1)
                    | (go_at_call 71; (with_reducible refine (CI0.out _ B1.out).mono ?_); rintro e w2 ⟨rfl, q2, rfl⟩)
                    | (go_at_call 71; (with_reducible refine (C1.out _ (below_drewN B1.out _)).mono ?_); rintro e w3 ⟨rfl, q3, rfl⟩))
                  go_ret
                  exact ⟨by rw [HF.out]; rfl, below_drewN B1.out _⟩
end Go.Proofs.Ytbcfndhnopmbbaa
