/-
  Tables: Valid of the reference, by contract.
-/
import Derived.Test.YtbcfndhnopmbbaaTabVp
namespace Go.Proofs.Ytbcfndhnopmbbaa
open Go.RowKit
set_option linter.unusedVariables false
set_option linter.unusedSimpArgs false
set_option maxHeartbeats 8000000 in
set_option maxRecDepth 100000 in
theorem refValid_any (v : Value) (t : Tb.Tab) (w : World) (h : TabAt w w.heap.size v t) :
    Calls Try.prog 11 #[v] w fun e w' => e = .returned (.int .i64 (Tb.valid t)) ∧ Below w.heap.size w w' := by
  obtain ⟨A0, A1, c0, c1, rfl, hr0, hr1, hc0, hc1, hd, hc, hn, hf, hs⟩ := h
  have HR0 := hide hr0
  have HR1 := hide hr1
  have VLIM := hide (Tb.valid_limit t)
  have VWR := hide (Tb.valid_wrong t)
  have VTW := hide (Tb.valid_twice t)
  have VNO := hide (Tb.valid_none t)
  have VFI := hide (Tb.valid_fine t)
  have VPR := hide (Tb.proper_rule t)
  have HPR := hide (show Tb.proper t = ((t.r0.all Tb.right && t.r1.all Tb.right) && (decide (t.dig.l.length = 10) && t.dig.l.all Tb.filled && Tb.writable t.cap.l && Tb.writable t.num.l && Tb.writable t.fin.l && Tb.writable t.sw.l)) by
    unfold Tb.proper
    simp only [Bool.and_assoc])
  have CD := hide (fun (W : World) (hb : Below w.heap.size w W) => (show Calls Try.prog 38 #[.slice t.dig.ad t.dig.l.length t.dig.c, .int .i64 10, .int .i64 10] W fun e w' => e = .returned (.bool (decide (t.dig.l.length = 10) && t.dig.l.all Tb.filled)) ∧ Below W.heap.size W w' by
    have h := refCells_lit t.dig.ad t.dig.c t.dig.l 10 10 10 10 rfl rfl w W hd (by omega) (by omega) hb
    rw [show decide (10 ≤ t.dig.l.length ∧ t.dig.l.length ≤ 10) = decide (t.dig.l.length = 10) by
      by_cases h : t.dig.l.length = 10
      · rw [decide_eq_true h, decide_eq_true (by omega)]
      · rw [decide_eq_false h, decide_eq_false (by omega)], Bool.and_comm] at h
    exact h))
  have CI := hide (fun (b : Tb.Bs) (hb : BsAt w w.heap.size b) (W : World) (hw : Below w.heap.size w W) => (show Calls Try.prog 38 #[.slice b.ad b.l.length b.c, .int .i64 1, .int .i64 4] W fun e w' => e = .returned (.bool (Tb.writable b.l)) ∧ Below W.heap.size W w' by
    rw [← writable_cells]
    exact refCells_lit b.ad b.c b.l 1 4 1 4 rfl rfl w W hb (by omega) (by omega) hw))
  have C1 := hide (CI.out t.cap hc)
  have C2 := hide (CI.out t.num hn)
  have C3 := hide (CI.out t.fin hf)
  have C4 := hide (CI.out t.sw hs)
  have CR := hide (fun (k : Nat) (hk : k < 2) (i : Nat) (hi : i < (Tb.rulesN t k).length) (W : World) (hw : Below w.heap.size w W) => refRight_any (Tb.rulesN t k)[i] W (by
      rcases Tb.rulesN_two (t := t) hk with ⟨_, e⟩ | ⟨_, e⟩
      · exact ((hr0.2.1 _ (by rw [← e]; exact List.getElem_mem hi)).1.below hw).more hw.size
      · exact ((hr1.2.1 _ (by rw [← e]; exact List.getElem_mem hi)).1.below hw).more hw.size) (by
      rcases Tb.rulesN_two (t := t) hk with ⟨_, e⟩ | ⟨_, e⟩
      · exact (hr0.2.1 _ (by rw [← e]; exact List.getElem_mem hi)).2.1
      · exact (hr1.2.1 _ (by rw [← e]; exact List.getElem_mem hi)).2.1))
  obtain ⟨cs, hcs⟩ : ∃ cs : Array Value, cs = #[.slice A0 t.r0.length c0, .slice A1 t.r1.length c1, .slice t.dig.ad t.dig.l.length t.dig.c, .slice t.cap.ad t.cap.l.length t.cap.c, .slice t.num.ad t.num.l.length t.num.c, .slice t.fin.ad t.fin.l.length t.fin.c, .slice t.sw.ad t.sw.l.length t.sw.c] := ⟨_, rfl⟩
  have HLK := hide (show ∀ k, k < 2 → ∃ A c, cs[k]? = some (.slice A (Tb.rulesN t k).length c) ∧ RulesAt w w.heap.size A (Tb.rulesN t k) from fun k hk => by
    rcases Tb.rulesN_two (t := t) hk with ⟨e0, e⟩ | ⟨e0, e⟩
    · subst e0; rw [e, hcs]; exact ⟨A0, c0, rfl, hr0⟩
    · subst e0; rw [e, hcs]; exact ⟨A1, c1, rfl, hr1⟩)
  obtain ⟨res, hres⟩ : ∃ res, res = Tb.valid t := ⟨_, rfl⟩
  rw [← hres] at VLIM VWR VTW VNO VFI ⊢
  clear hres CI
  generalize hwd : (decide (t.dig.l.length = 10) && t.dig.l.all Tb.filled) = bd at *
  rw [Bool.and_assoc, Bool.and_assoc, Bool.and_assoc] at HPR
  go_enter Try.func11, Try.ntmps11
  go_upto_region 1 with fail
  refine name_world fun B hB => ?_
  have BT := hide (show Blk B w.heap.size 28 cs by rw [← hB.out, hcs]; exact Blk.new w _ _)
  have HWB := hide (show Below w.heap.size w B by rw [← hB.out]; exact below_alloc w _)
  clear hB
  generalize w.heap.size = gb at BT ⊢
  have HBB := hide (Below.refl B.heap.size B)
  have HCK := hide (fun (k : Nat) (hk : k < 2) => (show ∃ A c, (∀ W, Below B.heap.size B W → W.cell? ⟨gb, k, none⟩ = some (.slice A (Tb.rulesN t k).length c)) ∧ RulesAt w w.heap.size A (Tb.rulesN t k) from by
    obtain ⟨A, c, h1, h2⟩ := HLK.out k hk
    exact ⟨A, c, fun W hb => by rw [(BT.out.below hb BT.out.lt).cell k]; exact h1, h2⟩))
  clear HLK
  go_wp2
  go_loopw [3] (fun s wr => ∃ k : Nat, k ≤ 2 ∧ s = .int .i64 (k : Int) ∧ wr = B ∧ Hid (∀ j, j < k → (Tb.rulesN t j).length ≤ 96)) (fun s _ => 2 - (intOf s).toNat)
  case atStart => exact ⟨0, by omega, rfl, rfl, fun j hj => by omega⟩
  case round =>
    obtain ⟨k, hk, rfl, rfl, HL⟩ := hrel
    obtain ⟨B, rfl⟩ : ∃ B, B = wr := ⟨wr, rfl⟩
    have hk0 : (0 : Int) ≤ (k : Int) := by omega
    by_cases hk2 : (k : Int) < 2
    · obtain ⟨Ak, ck, hcell, _⟩ := HCK.out k (by omega)
      have hcl := hcell B HBB.out
      have HLS := hide (fun (h : (Tb.rulesN t k).length ≤ 96) => (show ∀ j, j < k + 1 → (Tb.rulesN t j).length ≤ 96 from fun j hj => by
        by_cases hjk : j = k
        · subst hjk; exact h
        · exact HL.out j (by omega)))
      have HLF := hide (VLIM.out k (by omega))
      clear hcell
      generalize (Tb.rulesN t k).length = nk at *
      by_cases h96 : 96 < nk
      · have h96i : (96 : Int) < (nk : Int) := by omega
        have hfin := hide (HLF.out h96)
        clear HLF HLS HL h96
        go_wp2
        go_ret
        exact ⟨by rw [hfin.out]; rfl, HWB.out⟩
      · have h96i : ¬ ((96 : Int) < (nk : Int)) := by omega
        have HLN := hide (HLS.out (by omega))
        clear HLF HLS HL h96
        go_wp2
        exact ⟨⟨k + 1, by omega, by go_num, by first | trivial | rfl, HLN.out⟩, by simp only [intOf]; omega⟩
    · have L0 := hide (show t.r0.length ≤ 96 from HL.out 0 (by omega))
      have L1 := hide (show t.r1.length ≤ 96 from HL.out 1 (by omega))
      clear HL
      go_wp2
      go_loopw [4] (fun s wr => ∃ k : Nat, k ≤ 2 ∧ s = .int .i64 (k : Int) ∧ Below B.heap.size B wr ∧ Hid (∀ j, j < k → (Tb.rulesN t j).all Tb.right = true)) (fun s _ => 2 - (intOf s).toNat)
      case atStart => exact ⟨0, by omega, rfl, HBB.out, fun j hj => by omega⟩
      case round =>
        clear hk hk0 hk2
        obtain ⟨k, hk, rfl, hbel, HL⟩ := hrel
        obtain ⟨wd, rfl⟩ : ∃ wd, wd = wr := ⟨wr, rfl⟩
        have HBD := hide hbel
        clear hbel
        have hk0 : (0 : Int) ≤ (k : Int) := by omega
        by_cases hk2 : (k : Int) < 2
        · obtain ⟨Ak, ck, hcell, hrk⟩ := HCK.out k (by omega)
          have HCELL := hide hcell
          have HRK := hide hrk
          have CRK := hide (CR.out k (by omega))
          have HWR := hide (fun (h : (Tb.rulesN t k).all Tb.right = false) => VWR.out L0.out L1.out (VPR.out k (by omega) h))
          have HLS := hide (fun (h : (Tb.rulesN t k).all Tb.right = true) => (show ∀ j, j < k + 1 → (Tb.rulesN t j).all Tb.right = true from fun j hj => by
            by_cases hjk : j = k
            · subst hjk; exact h
            · exact HL.out j (by omega)))
          clear hcell hrk HL
          generalize Tb.rulesN t k = rs at *
          obtain ⟨n, hn⟩ : ∃ n, n = rs.length := ⟨_, rfl⟩
          have HN := hide hn
          have hnb := HRK.out.2.2
          have hni : (n : Int) ≤ 1048576 := by omega
          clear hnb
          simp only [← hn] at HCELL
          clear hn
          go_wp2
          go_loopw [5] (fun s wr => ∃ i : Nat, i ≤ n ∧ s = .int .i64 (i : Int) ∧ Below B.heap.size B wr ∧ Hid ((rs.take i).all Tb.right = true)) (fun s _ => n - (intOf s).toNat)
          case atStart => exact ⟨0, by omega, rfl, HBD.out, by rw [List.take_zero]; exact rfl⟩
          case round =>
            obtain ⟨i, hi, rfl, hbel, HA⟩ := hrel
            obtain ⟨we, rfl⟩ : ∃ we, we = wr := ⟨wr, rfl⟩
            have HBE := hide hbel
            have hcl := HCELL.out we hbel
            clear hbel
            have hi0 : (0 : Int) ≤ (i : Int) := by omega
            by_cases hlt : i < n
            · have hil : i < rs.length := by have := HN.out; omega
              have hin : (i : Int) < (n : Int) := by omega
              obtain ⟨ad, hA, hadb, hcs⟩ := reads_rule HRK.out i hil
              subst hA
              have HWE := hide (HWB.out.trans (HBE.out.mono HWB.out.size))
              have HEC := hide (show ∀ (j : Nat) (v : Value), ([.string (S (rs[i]'hil).text), .int .i64 (rs[i]'hil).wh, .slice (rs[i]'hil).cells.ad (rs[i]'hil).cells.l.length (rs[i]'hil).cells.c] : List Value)[j]? = some v → we.cell? ((ad.add (i * 3)).add j) = some v from fun j v hv => by
                rw [HWE.out.cell (by rw [block_of_add, block_of_add]; exact hadb)]
                exact hcs j v hv)
              have CRI := hide (CRK.out i hil we HWE.out)
              have HST := hide (fun (h : Tb.right (rs[i]'hil) = false) => HWR.out (all_stop Tb.right rs i hil h))
              have HTK := hide (fun (h : Tb.right (rs[i]'hil) = true) => all_take Tb.right rs i hil HA.out h)
              have HLT := hide hlt
              generalize rs[i]'hil = r at *
              clear hcs hil hlt HA CRK HWR
              obtain ⟨br, hbr⟩ : ∃ br, br = Tb.right r := ⟨_, rfl⟩
              rw [← hbr] at CRI HST HTK
              clear hbr
              cases br with
              | false =>
                have hfin := hide (HST.out rfl)
                clear HST HTK
                go_wp2_with (first
                  | (with_reducible refine wpList_load_rule rfl (.tmp 43) rfl (ad.add (i * 3)) rfl (.string (S r.text)) (.int .i64 r.wh) (.slice r.cells.ad r.cells.l.length r.cells.c) HEC.out ?_)
                  | (go_at_call 37; refine (unhide CRI).mono ?_; rintro e w5 ⟨rfl, hb5⟩; have B5 := hide (HWE.out.trans (hb5.mono HWE.out.size)); clear hb5))
                go_ret
                exact ⟨by rw [hfin.out]; rfl, B5.out⟩
              | true =>
                have HA2 := hide (HTK.out rfl)
                clear HST HTK
                go_wp2_with (first
                  | (with_reducible refine wpList_load_rule rfl (.tmp 43) rfl (ad.add (i * 3)) rfl (.string (S r.text)) (.int .i64 r.wh) (.slice r.cells.ad r.cells.l.length r.cells.c) HEC.out ?_)
                  | (go_at_call 37; refine (unhide CRI).mono ?_; rintro e w5 ⟨rfl, hb5⟩; have B5 := hide (HBE.out.trans (hb5.mono HBE.out.size)); clear hb5))
                have h9 := HLT.out
                exact ⟨⟨i + 1, by omega, by go_num, B5.out, HA2.out⟩, by simp only [intOf]; omega⟩
            · have hfull := hide (HLS.out (by
                have h := HA.out
                rwa [List.take_of_length_le (by have := HN.out; omega)] at h))
              obtain rfl : i = n := by omega
              have hnt : ¬ ((i : Int) < (i : Int)) := by omega
              clear hlt HA HLS HWR
              go_wp2
              exact ⟨⟨k + 1, by omega, by go_num, HBE.out, hfull.out⟩, by simp only [intOf]; omega⟩
        · have R0 := hide (show t.r0.all Tb.right = true from HL.out 0 (by omega))
          have R1 := hide (show t.r1.all Tb.right = true from HL.out 1 (by omega))
          clear HL CR VPR
          have HWD := hide (HWB.out.trans (HBD.out.mono HWB.out.size))
          have CDW := hide (CD.out wd HWD.out)
          have HQ := hide (fun (W : World) (hb : Below B.heap.size B W) => (show W.cell? ⟨gb, 2, none⟩ = some (.slice t.dig.ad t.dig.l.length t.dig.c) ∧ W.cell? ⟨gb, 3, none⟩ = some (.slice t.cap.ad t.cap.l.length t.cap.c) ∧ W.cell? ⟨gb, 4, none⟩ = some (.slice t.num.ad t.num.l.length t.num.c) ∧ W.cell? ⟨gb, 5, none⟩ = some (.slice t.fin.ad t.fin.l.length t.fin.c) ∧ W.cell? ⟨gb, 6, none⟩ = some (.slice t.sw.ad t.sw.l.length t.sw.c) ∧ W.cell? ⟨gb, 6, none⟩ = some (.slice t.sw.ad t.sw.l.length t.sw.c) from by
            have Q := BT.out.below hb BT.out.lt
            rw [hcs] at Q
            exact ⟨Q.cell 2, Q.cell 3, Q.cell 4, Q.cell 5, Q.cell 6, Q.cell 6⟩))
          clear CD
          obtain ⟨w1, hw1⟩ : ∃ w1, w1 = Tb.writable t.cap.l := ⟨_, rfl⟩
          obtain ⟨w2, hw2⟩ : ∃ w2, w2 = Tb.writable t.num.l := ⟨_, rfl⟩
          obtain ⟨w3, hw3⟩ : ∃ w3, w3 = Tb.writable t.fin.l := ⟨_, rfl⟩
          obtain ⟨w4, hw4⟩ : ∃ w4, w4 = Tb.writable t.sw.l := ⟨_, rfl⟩
          have HP2 := hide (show Tb.proper t = (bd && (w1 && (w2 && (w3 && w4)))) by
            have h := HPR.out
            rw [R0.out, R1.out, ← hw1, ← hw2, ← hw3, ← hw4] at h
            simpa [Bool.and_assoc] using h)
          rw [← hw1] at C1
          rw [← hw2] at C2
          rw [← hw3] at C3
          rw [← hw4] at C4
          clear hw1 hw2 hw3 hw4 HPR
          obtain ⟨p2, p3, p4, p5, p6, _⟩ := HQ.out wd HBD.out
          cases bd with
          | false =>
            have hfin := hide (VWR.out L0.out L1.out (by rw [HP2.out]; simp))
            clear VWR VTW VNO VFI
            go_wp2_with (first
              | (go_at_call 38; first
                | ((with_reducible refine (unhide CDW).mono ?_); rintro e v1 ⟨rfl, hb⟩; have E1 := hide (HBD.out.trans (hb.mono HBD.out.size)); obtain ⟨p2, p3, p4, p5, p6, _⟩ := HQ.out v1 E1.out; have X1 := hide (C1.out v1 (HWB.out.trans (E1.out.mono HWB.out.size))); clear hb)
                | ((with_reducible refine (unhide X1).mono ?_); rintro e v2 ⟨rfl, hb⟩; have E2 := hide (E1.out.trans (hb.mono E1.out.size)); obtain ⟨p2, p3, p4, p5, p6, _⟩ := HQ.out v2 E2.out; have X2 := hide (C2.out v2 (HWB.out.trans (E2.out.mono HWB.out.size))); clear hb)
                | ((with_reducible refine (unhide X2).mono ?_); rintro e v3 ⟨rfl, hb⟩; have E3 := hide (E2.out.trans (hb.mono E2.out.size)); obtain ⟨p2, p3, p4, p5, p6, _⟩ := HQ.out v3 E3.out; have X3 := hide (C3.out v3 (HWB.out.trans (E3.out.mono HWB.out.size))); clear hb)
                | ((with_reducible refine (unhide X3).mono ?_); rintro e v4 ⟨rfl, hb⟩; have E4 := hide (E3.out.trans (hb.mono E3.out.size)); obtain ⟨p2, p3, p4, p5, p6, _⟩ := HQ.out v4 E4.out; have X4 := hide (C4.out v4 (HWB.out.trans (E4.out.mono HWB.out.size))); clear hb)
                | ((with_reducible refine (unhide X4).mono ?_); rintro e v5 ⟨rfl, hb⟩; have E5 := hide (E4.out.trans (hb.mono E4.out.size)); clear hb)))
            go_ret
            exact ⟨by rw [hfin.out]; rfl, HWB.out.trans (E1.out.mono HWB.out.size)⟩
          | true =>
            cases w1 with
            | false =>
              have hfin := hide (VWR.out L0.out L1.out (by rw [HP2.out]; simp))
              clear VWR VTW VNO VFI
              go_wp2_with (first
                | (go_at_call 38; first
                  | ((with_reducible refine (unhide CDW).mono ?_); rintro e v1 ⟨rfl, hb⟩; have E1 := hide (HBD.out.trans (hb.mono HBD.out.size)); obtain ⟨p2, p3, p4, p5, p6, _⟩ := HQ.out v1 E1.out; have X1 := hide (C1.out v1 (HWB.out.trans (E1.out.mono HWB.out.size))); clear hb)
                  | ((with_reducible refine (unhide X1).mono ?_); rintro e v2 ⟨rfl, hb⟩; have E2 := hide (E1.out.trans (hb.mono E1.out.size)); obtain ⟨p2, p3, p4, p5, p6, _⟩ := HQ.out v2 E2.out; have X2 := hide (C2.out v2 (HWB.out.trans (E2.out.mono HWB.out.size))); clear hb)
                  | ((with_reducible refine (unhide X2).mono ?_); rintro e v3 ⟨rfl, hb⟩; have E3 := hide (E2.out.trans (hb.mono E2.out.size)); obtain ⟨p2, p3, p4, p5, p6, _⟩ := HQ.out v3 E3.out; have X3 := hide (C3.out v3 (HWB.out.trans (E3.out.mono HWB.out.size))); clear hb)
                  | ((with_reducible refine (unhide X3).mono ?_); rintro e v4 ⟨rfl, hb⟩; have E4 := hide (E3.out.trans (hb.mono E3.out.size)); obtain ⟨p2, p3, p4, p5, p6, _⟩ := HQ.out v4 E4.out; have X4 := hide (C4.out v4 (HWB.out.trans (E4.out.mono HWB.out.size))); clear hb)
                  | ((with_reducible refine (unhide X4).mono ?_); rintro e v5 ⟨rfl, hb⟩; have E5 := hide (E4.out.trans (hb.mono E4.out.size)); clear hb)))
              go_ret
              exact ⟨by rw [hfin.out]; rfl, HWB.out.trans (E2.out.mono HWB.out.size)⟩
            | true =>
              cases w2 with
              | false =>
                have hfin := hide (VWR.out L0.out L1.out (by rw [HP2.out]; simp))
                clear VWR VTW VNO VFI
                go_wp2_with (first
                  | (go_at_call 38; first
                    | ((with_reducible refine (unhide CDW).mono ?_); rintro e v1 ⟨rfl, hb⟩; have E1 := hide (HBD.out.trans (hb.mono HBD.out.size)); obtain ⟨p2, p3, p4, p5, p6, _⟩ := HQ.out v1 E1.out; have X1 := hide (C1.out v1 (HWB.out.trans (E1.out.mono HWB.out.size))); clear hb)
                    | ((with_reducible refine (unhide X1).mono ?_); rintro e v2 ⟨rfl, hb⟩; have E2 := hide (E1.out.trans (hb.mono E1.out.size)); obtain ⟨p2, p3, p4, p5, p6, _⟩ := HQ.out v2 E2.out; have X2 := hide (C2.out v2 (HWB.out.trans (E2.out.mono HWB.out.size))); clear hb)
                    | ((with_reducible refine (unhide X2).mono ?_); rintro e v3 ⟨rfl, hb⟩; have E3 := hide (E2.out.trans (hb.mono E2.out.size)); obtain ⟨p2, p3, p4, p5, p6, _⟩ := HQ.out v3 E3.out; have X3 := hide (C3.out v3 (HWB.out.trans (E3.out.mono HWB.out.size))); clear hb)
                    | ((with_reducible refine (unhide X3).mono ?_); rintro e v4 ⟨rfl, hb⟩; have E4 := hide (E3.out.trans (hb.mono E3.out.size)); obtain ⟨p2, p3, p4, p5, p6, _⟩ := HQ.out v4 E4.out; have X4 := hide (C4.out v4 (HWB.out.trans (E4.out.mono HWB.out.size))); clear hb)
                    | ((with_reducible refine (unhide X4).mono ?_); rintro e v5 ⟨rfl, hb⟩; have E5 := hide (E4.out.trans (hb.mono E4.out.size)); clear hb)))
                go_ret
                exact ⟨by rw [hfin.out]; rfl, HWB.out.trans (E3.out.mono HWB.out.size)⟩
              | true =>
                cases w3 with
                | false =>
                  have hfin := hide (VWR.out L0.out L1.out (by rw [HP2.out]; simp))
                  clear VWR VTW VNO VFI
                  go_wp2_with (first
                    | (go_at_call 38; first
                      | ((with_reducible refine (unhide CDW).mono ?_); rintro e v1 ⟨rfl, hb⟩; have E1 := hide (HBD.out.trans (hb.mono HBD.out.size)); obtain ⟨p2, p3, p4, p5, p6, _⟩ := HQ.out v1 E1.out; have X1 := hide (C1.out v1 (HWB.out.trans (E1.out.mono HWB.out.size))); clear hb)
                      | ((with_reducible refine (unhide X1).mono ?_); rintro e v2 ⟨rfl, hb⟩; have E2 := hide (E1.out.trans (hb.mono E1.out.size)); obtain ⟨p2, p3, p4, p5, p6, _⟩ := HQ.out v2 E2.out; have X2 := hide (C2.out v2 (HWB.out.trans (E2.out.mono HWB.out.size))); clear hb)
                      | ((with_reducible refine (unhide X2).mono ?_); rintro e v3 ⟨rfl, hb⟩; have E3 := hide (E2.out.trans (hb.mono E2.out.size)); obtain ⟨p2, p3, p4, p5, p6, _⟩ := HQ.out v3 E3.out; have X3 := hide (C3.out v3 (HWB.out.trans (E3.out.mono HWB.out.size))); clear hb)
                      | ((with_reducible refine (unhide X3).mono ?_); rintro e v4 ⟨rfl, hb⟩; have E4 := hide (E3.out.trans (hb.mono E3.out.size)); obtain ⟨p2, p3, p4, p5, p6, _⟩ := HQ.out v4 E4.out; have X4 := hide (C4.out v4 (HWB.out.trans (E4.out.mono HWB.out.size))); clear hb)
                      | ((with_reducible refine (unhide X4).mono ?_); rintro e v5 ⟨rfl, hb⟩; have E5 := hide (E4.out.trans (hb.mono E4.out.size)); clear hb)))
                  go_ret
                  exact ⟨by rw [hfin.out]; rfl, HWB.out.trans (E4.out.mono HWB.out.size)⟩
                | true =>
                  cases w4 with
                  | false =>
                    have hfin := hide (VWR.out L0.out L1.out (by rw [HP2.out]; simp))
                    clear VWR VTW VNO VFI
                    go_wp2_with (first
                      | (go_at_call 38; first
                        | ((with_reducible refine (unhide CDW).mono ?_); rintro e v1 ⟨rfl, hb⟩; have E1 := hide (HBD.out.trans (hb.mono HBD.out.size)); obtain ⟨p2, p3, p4, p5, p6, _⟩ := HQ.out v1 E1.out; have X1 := hide (C1.out v1 (HWB.out.trans (E1.out.mono HWB.out.size))); clear hb)
                        | ((with_reducible refine (unhide X1).mono ?_); rintro e v2 ⟨rfl, hb⟩; have E2 := hide (E1.out.trans (hb.mono E1.out.size)); obtain ⟨p2, p3, p4, p5, p6, _⟩ := HQ.out v2 E2.out; have X2 := hide (C2.out v2 (HWB.out.trans (E2.out.mono HWB.out.size))); clear hb)
                        | ((with_reducible refine (unhide X2).mono ?_); rintro e v3 ⟨rfl, hb⟩; have E3 := hide (E2.out.trans (hb.mono E2.out.size)); obtain ⟨p2, p3, p4, p5, p6, _⟩ := HQ.out v3 E3.out; have X3 := hide (C3.out v3 (HWB.out.trans (E3.out.mono HWB.out.size))); clear hb)
                        | ((with_reducible refine (unhide X3).mono ?_); rintro e v4 ⟨rfl, hb⟩; have E4 := hide (E3.out.trans (hb.mono E3.out.size)); obtain ⟨p2, p3, p4, p5, p6, _⟩ := HQ.out v4 E4.out; have X4 := hide (C4.out v4 (HWB.out.trans (E4.out.mono HWB.out.size))); clear hb)
                        | ((with_reducible refine (unhide X4).mono ?_); rintro e v5 ⟨rfl, hb⟩; have E5 := hide (E4.out.trans (hb.mono E4.out.size)); clear hb)))
                    go_ret
                    exact ⟨by rw [hfin.out]; rfl, HWB.out.trans (E5.out.mono HWB.out.size)⟩
                  | true =>
                    have HPT := hide (show Tb.proper t = true by rw [HP2.out]; rfl)
                    clear HP2 VWR
                    go_wp2_with (first
                      | (go_at_call 38; first
                        | ((with_reducible refine (unhide CDW).mono ?_); rintro e v1 ⟨rfl, hb⟩; have E1 := hide (HBD.out.trans (hb.mono HBD.out.size)); obtain ⟨p2, p3, p4, p5, p6, _⟩ := HQ.out v1 E1.out; have X1 := hide (C1.out v1 (HWB.out.trans (E1.out.mono HWB.out.size))); clear hb)
                        | ((with_reducible refine (unhide X1).mono ?_); rintro e v2 ⟨rfl, hb⟩; have E2 := hide (E1.out.trans (hb.mono E1.out.size)); obtain ⟨p2, p3, p4, p5, p6, _⟩ := HQ.out v2 E2.out; have X2 := hide (C2.out v2 (HWB.out.trans (E2.out.mono HWB.out.size))); clear hb)
                        | ((with_reducible refine (unhide X2).mono ?_); rintro e v3 ⟨rfl, hb⟩; have E3 := hide (E2.out.trans (hb.mono E2.out.size)); obtain ⟨p2, p3, p4, p5, p6, _⟩ := HQ.out v3 E3.out; have X3 := hide (C3.out v3 (HWB.out.trans (E3.out.mono HWB.out.size))); clear hb)
                        | ((with_reducible refine (unhide X3).mono ?_); rintro e v4 ⟨rfl, hb⟩; have E4 := hide (E3.out.trans (hb.mono E3.out.size)); obtain ⟨p2, p3, p4, p5, p6, _⟩ := HQ.out v4 E4.out; have X4 := hide (C4.out v4 (HWB.out.trans (E4.out.mono HWB.out.size))); clear hb)
                        | ((with_reducible refine (unhide X4).mono ?_); rintro e v5 ⟨rfl, hb⟩; have E5 := hide (E4.out.trans (hb.mono E4.out.size)); clear hb)))
                    clear HQ CDW p2 p3 p4 p5 p6 C1 C2 C3 C4 X1 X2 X3 X4 E1 E2 E3 E4 HBD HWD hk hk0 hk2
                    go_loopw [6] (fun s wr => ∃ k : Nat, k ≤ 2 ∧ s = .int .i64 (k : Int) ∧ Below B.heap.size B wr ∧ Hid (∀ j, j < k → Tb.lone (Tb.rulesN t j) = true)) (fun s _ => 2 - (intOf s).toNat)
                    case atStart => exact ⟨0, by omega, rfl, E5.out, fun j hj => by omega⟩
                    case round =>
                      clear E5
                      obtain ⟨k, hk, rfl, hbel, HL⟩ := hrel
                      obtain ⟨wd, rfl⟩ : ∃ wd, wd = wr := ⟨wr, rfl⟩
                      have HBD := hide hbel
                      clear hbel
                      have hk0 : (0 : Int) ≤ (k : Int) := by omega
                      by_cases hk2 : (k : Int) < 2
                      · obtain ⟨Ak, ck, hcell, hrk⟩ := HCK.out k (by omega)
                        have hcl := hcell wd HBD.out
                        have HRK := hide hrk
                        have HWR := hide (VTW.out L0.out L1.out HPT.out k (by omega))
                        have HLS := hide (fun (h : Tb.lone (Tb.rulesN t k) = true) => (show ∀ j, j < k + 1 → Tb.lone (Tb.rulesN t j) = true from fun j hj => by
                          by_cases hjk : j = k
                          · subst hjk; exact h
                          · exact HL.out j (by omega)))
                        clear hcell hrk HL
                        generalize Tb.rulesN t k = rs at *
                        obtain ⟨n, hn⟩ : ∃ n, n = rs.length := ⟨_, rfl⟩
                        have HN := hide hn
                        have hnb := HRK.out.2.2
                        have hni : (n : Int) ≤ 1048576 := by omega
                        clear hnb
                        rw [← hn] at hcl
                        clear hn
                        go_wp2
                        go_loopw [8] (fun s wr => ∃ i : Nat, i ≤ n ∧ s = .int .i64 (i : Int) ∧ Below B.heap.size B wr ∧ Hid (((rs.take i).map Tb.key).Nodup)) (fun s _ => n - (intOf s).toNat)
                        case atStart => exact ⟨0, by omega, rfl, HBD.out, by rw [List.take_zero]; exact List.nodup_nil⟩
                        case round =>
                          obtain ⟨i, hi, rfl, hbel, HA⟩ := hrel
                          obtain ⟨we, rfl⟩ : ∃ we, we = wr := ⟨wr, rfl⟩
                          have HBE := hide hbel
                          clear hbel hcl
                          have hi0 : (0 : Int) ≤ (i : Int) := by omega
                          by_cases hlt : i < n
                          · have hil : i < rs.length := by have := HN.out; omega
                            have hin : (i : Int) < (n : Int) := by omega
                            have HWE := hide (HWB.out.trans (HBE.out.mono HWB.out.size))
                            have HRE := hide (show RulesAt we w.heap.size Ak rs from HRK.out.below HWE.out)
                            obtain ⟨ad, hA, hadb, hc0, hc1⟩ := rule_fields HRE.out i hil
                            subst hA
                            have HLT := hide hlt
                            have HIL := hide hil
                            clear hlt
                            go_wp2
                            go_loopw [9] (fun s wr => ∃ j q : Nat, j ≤ i ∧ s = .int .i64 (j : Int) ∧ wr = we.drewN q ∧ Hid (Tb.key (rs[i]'hil) ∉ (rs.take j).map Tb.key)) (fun s _ => i - (intOf s).toNat)
                            case atStart => exact ⟨0, 0, by omega, rfl, rfl, by rw [List.take_zero]; exact List.not_mem_nil⟩
                            case round =>
                              obtain ⟨j, q, hj, rfl, rfl, HNM⟩ := hrel
                              have hj0 : (0 : Int) ≤ (j : Int) := by omega
                              by_cases hjl : j < i
                              · have hji : (j : Int) < (i : Int) := by omega
                                have hjn : (j : Int) < (n : Int) := by omega
                                have hjr : j < rs.length := by omega
                                obtain ⟨ad2, hA2, _, hd0, hd1⟩ := rule_fields HRE.out j hjr
                                injection hA2 with hA2
                                subst hA2
                                have HDU := hide (fun (h : Tb.key (rs[i]'hil) = Tb.key (rs[j]'hjr)) => HWR.out (Tb.lone_dup rs i j hil hjl h))
                                have HNX := hide (fun (h : Tb.key (rs[i]'hil) ≠ Tb.key (rs[j]'hjr)) => (show Tb.key (rs[i]'hil) ∉ (rs.take (j + 1)).map Tb.key by
                                  rw [List.take_succ_eq_append_getElem hjr, List.map_append, List.mem_append]
                                  rintro (h2 | h2)
                                  · exact HNM.out h2
                                  · rw [List.map_singleton, List.mem_singleton] at h2
                                    exact h h2))
                                have HKI := hide (show Tb.key (rs[i]'hil) = ((rs[i]'hil).text, (rs[i]'hil).wh) from rfl)
                                have HKJ := hide (show Tb.key (rs[j]'hjr) = ((rs[j]'hjr).text, (rs[j]'hjr).wh) from rfl)
                                have HNE := hide (str_eq (rs[i]'hil).text (rs[j]'hjr).text)
                                have HJL := hide hjl
                                generalize Tb.key (rs[j]'hjr) = kj at *
                                generalize (rs[j]'hjr).text = tj at *
                                generalize (rs[j]'hjr).wh = wj at *
                                have HDU2 := hide (fun (h1 : (rs[i]'hil).text = tj) (h2 : (rs[i]'hil).wh = wj) => HDU.out (by rw [HKI.out, HKJ.out, h1, h2]))
                                have HNX2 := hide (fun (h : ¬ ((rs[i]'hil).text = tj ∧ (rs[i]'hil).wh = wj)) => HNX.out (by
                                  rw [HKI.out, HKJ.out]
                                  intro e
                                  injection e with e1 e2
                                  exact h ⟨e1, e2⟩))
                                clear HDU HNX HKI HKJ HNM
                                by_cases h1 : (rs[i]'hil).text = tj
                                · have hne := HNE.out
                                  rw [decide_eq_true h1] at hne
                                  by_cases h2 : (rs[i]'hil).wh = wj
                                  · have hfin := hide (HDU2.out h1 h2)
                                    have hww : ((rs[i]'hil).wh == wj) = true := by rw [h2]; simp
                                    clear HDU2 HNX2 HNE h1 h2 hjl
                                    generalize S (rs[i]'hil).text = s1 at *
                                    generalize (rs[i]'hil).wh = wi at *
                                    generalize S tj = s2 at *
                                    go_wp2
                                    go_quiet (fail)
                                    go_wp2
                                    go_ret
                                    exact ⟨by rw [hfin.out]; rfl, below_drewN (below_drewN (HWB.out.trans (HBE.out.mono HWB.out.size)) _) _⟩
                                  · have hy := hide (HNX2.out (fun h => h2 h.2))
                                    have hww : ((rs[i]'hil).wh == wj) = false := by rw [beq_eq_false_iff_ne]; exact h2
                                    clear HDU2 HNX2 HNE h1 h2 hjl
                                    generalize S (rs[i]'hil).text = s1 at *
                                    generalize (rs[i]'hil).wh = wi at *
                                    generalize S tj = s2 at *
                                    go_wp2
                                    go_quiet (fail)
                                    go_wp2
                                    have h9 := HJL.out
                                    exact ⟨⟨j + 1, q + nq, by omega, by go_num, by first | rfl | trivial | rw [World.drewN_drewN], hy.out⟩, by simp only [intOf]; omega⟩
                                · have hne := HNE.out
                                  rw [decide_eq_false h1] at hne
                                  have hy := hide (HNX2.out (fun h => h1 h.1))
                                  clear HDU2 HNX2 HNE h1 hjl
                                  generalize S (rs[i]'hil).text = s1 at *
                                  generalize (rs[i]'hil).wh = wi at *
                                  generalize S tj = s2 at *
                                  go_wp2
                                  go_quiet (fail)
                                  go_wp2
                                  have h9 := HJL.out
                                  exact ⟨⟨j + 1, q + nq, by omega, by go_num, by first | rfl | trivial | rw [World.drewN_drewN], hy.out⟩, by simp only [intOf]; omega⟩
                              · obtain rfl : j = i := by omega
                                have hnt : ¬ ((j : Int) < (j : Int)) := by omega
                                have HA2 := hide (Tb.nodup_take rs j hil HA.out HNM.out)
                                clear hjl HNM hc0 hc1
                                go_wp2
                                have h9 := HLT.out
                                exact ⟨⟨j + 1, by omega, by go_num, below_drewN HBE.out q, HA2.out⟩, by simp only [intOf]; omega⟩
                          · have hfull := hide (HLS.out (by
                              have h := HA.out
                              rw [List.take_of_length_le (by have := HN.out; omega)] at h
                              exact decide_eq_true h))
                            obtain rfl : i = n := by omega
                            have hnt : ¬ ((i : Int) < (i : Int)) := by omega
                            clear hlt HA HLS HWR
                            go_wp2
                            exact ⟨⟨k + 1, by omega, by go_num, HBE.out, hfull.out⟩, by simp only [intOf]; omega⟩
                      · have O0 := hide (show Tb.lone t.r0 = true from HL.out 0 (by omega))
                        have O1 := hide (show Tb.lone t.r1 = true from HL.out 1 (by omega))
                        have CO := hide (fun (k : Nat) (hk : k < 2) (A : Option Addr) (c : Nat) (hr : RulesAt w w.heap.size A (Tb.rulesN t k)) (x : UInt8) (W : World) (hb : Below w.heap.size w W) => refOwn_any A c (Tb.rulesN t k) x W ((hr.below hb).more hb.size))
                        clear HL VTW
                        go_wp2
                        go_loopw [10] (fun s wr => ∃ k : Nat, k ≤ 2 ∧ s = .int .i64 (k : Int) ∧ Below B.heap.size B wr ∧ Hid (∀ j, j < k → Tb.owns (Tb.rulesN t j) = true)) (fun s _ => 2 - (intOf s).toNat)
                        case atStart => exact ⟨0, by omega, rfl, HBD.out, fun j hj => by omega⟩
                        case round =>
                          clear hk hk0 hk2 HBD
                          obtain ⟨k, hk, rfl, hbel, HL⟩ := hrel
                          obtain ⟨wf, rfl⟩ : ∃ wf, wf = wr := ⟨wr, rfl⟩
                          have HBF := hide hbel
                          clear hbel
                          have hk0 : (0 : Int) ≤ (k : Int) := by omega
                          by_cases hk2 : (k : Int) < 2
                          · obtain ⟨Ak, ck, hcell, hrk⟩ := HCK.out k (by omega)
                            have HCELL := hide hcell
                            have COK := hide (CO.out k (by omega) Ak ck hrk)
                            have HWR := hide (VNO.out L0.out L1.out HPT.out O0.out O1.out k (by omega))
                            have HLS := hide (fun (h : Tb.owns (Tb.rulesN t k) = true) => (show ∀ j, j < k + 1 → Tb.owns (Tb.rulesN t j) = true from fun j hj => by
                              by_cases hjk : j = k
                              · subst hjk; exact h
                              · exact HL.out j (by omega)))
                            clear hcell hrk HL
                            generalize Tb.rulesN t k = rs at *
                            generalize rs.length = n at *
                            go_wp2
                            go_loopw [11] (fun s wr => ∃ i : Nat, i ≤ 26 ∧ s = .int .i64 ((97 + i : Nat) : Int) ∧ Below B.heap.size B wr ∧ Hid (∀ j, j < i → Tb.ownsC rs (UInt8.ofNat (97 + j)) = true)) (fun s _ => 123 - (intOf s).toNat)
                            case atStart => exact ⟨0, by omega, rfl, HBF.out, fun j hj => by omega⟩
                            case round =>
                              obtain ⟨i, hi, rfl, hbel, HA⟩ := hrel
                              obtain ⟨wg, rfl⟩ : ∃ wg, wg = wr := ⟨wr, rfl⟩
                              have HBG := hide hbel
                              have hcl := HCELL.out wg hbel
                              clear hbel
                              obtain ⟨c, hc⟩ : ∃ c, c = 97 + i := ⟨_, rfl⟩
                              have HC := hide hc
                              rw [← hc]
                              by_cases hlt : i < 26
                              · have hcc : (c : Int) ≤ 122 := by omega
                                have hc0 : (97 : Int) ≤ (c : Int) := by omega
                                have COC := hide (show Calls Try.prog 39 #[.slice Ak n ck, .int .u8 (c : Int)] wg fun e w' => e = .returned (.bool (Tb.ownsC rs (UInt8.ofNat (97 + i)))) ∧ Below wg.heap.size wg w' by
                                  have h := COK.out (UInt8.ofNat (97 + i)) wg (HWB.out.trans (HBG.out.mono HWB.out.size))
                                  unfold VC at h
                                  have e : ((UInt8.ofNat (97 + i)).toNat : Int) = (c : Int) := by simp only [UInt8.toNat_ofNat']; omega
                                  rw [e] at h
                                  exact h)
                                have HSTOP := hide (fun (h : Tb.ownsC rs (UInt8.ofNat (97 + i)) = false) => HWR.out (Tb.owns_stop rs i hlt h))
                                have HLT := hide hlt
                                obtain ⟨ob, hob⟩ : ∃ ob, ob = Tb.ownsC rs (UInt8.ofNat (97 + i)) := ⟨_, rfl⟩
                                have HOB := hide hob
                                rw [← hob] at COC HSTOP
                                clear hob hlt hc
                                cases ob with
                                | false =>
                                  have hfin := hide (HSTOP.out rfl)
                                  clear HSTOP
                                  go_wp2_with (go_at_call 39; refine (unhide COC).mono ?_; rintro e w5 ⟨rfl, hb5⟩; have B5 := hide (HBG.out.trans (hb5.mono HBG.out.size)); clear hb5)
                                  go_ret
                                  exact ⟨by rw [hfin.out]; rfl, HWB.out.trans (B5.out.mono HWB.out.size)⟩
                                | true =>
                                  have HA2 := hide (show ∀ j, j < i + 1 → Tb.ownsC rs (UInt8.ofNat (97 + j)) = true from fun j hj => by
                                    by_cases hji : j = i
                                    · subst hji; exact HOB.out.symm
                                    · exact HA.out j (by omega))
                                  clear HSTOP HA
                                  go_wp2_with (go_at_call 39; refine (unhide COC).mono ?_; rintro e w5 ⟨rfl, hb5⟩; have B5 := hide (HBG.out.trans (hb5.mono HBG.out.size)); clear hb5)
                                  have h9 := HLT.out
                                  have h8 := HC.out
                                  exact ⟨⟨i + 1, by omega, by rw [h8]; go_num, B5.out, HA2.out⟩, by simp only [intOf]; omega⟩
                              · obtain rfl : i = 26 := by omega
                                have hcc : ¬ ((c : Int) ≤ 122) := by omega
                                have hfull := hide (HLS.out (Tb.owns_full rs HA.out))
                                clear hlt HA HLS HWR hc
                                go_wp2
                                exact ⟨⟨k + 1, by omega, by go_num, HBG.out, hfull.out⟩, by simp only [intOf]; omega⟩
                          · have P0 := hide (show Tb.owns t.r0 = true from HL.out 0 (by omega))
                            have P1 := hide (show Tb.owns t.r1 = true from HL.out 1 (by omega))
                            have hfin := hide (VFI.out L0.out L1.out HPT.out O0.out O1.out P0.out P1.out)
                            clear HL VNO VFI CO
                            go_wp2
                            go_ret
                            exact ⟨by rw [hfin.out]; rfl, HWB.out.trans (HBF.out.mono HWB.out.size)⟩
end Go.Proofs.Ytbcfndhnopmbbaa
