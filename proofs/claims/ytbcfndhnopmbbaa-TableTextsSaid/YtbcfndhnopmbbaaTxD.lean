/-
  Running text: Symbols of the reference and of the program, by contract. (Written by tools/gen_txd.py.)
-/
import Derived.Test.YtbcfndhnopmbbaaTxC
namespace Go.Proofs.Ytbcfndhnopmbbaa
open Go.RowKit
set_option linter.unusedVariables false
set_option linter.unusedSimpArgs false
namespace Tb
theorem flat_take (l : List Run) (i : Nat) (h : i < l.length) : flat (l.take (i + 1)) = flat (l.take i) ++ l[i].2.map fun c => (l[i].1, c) := by
  rw [List.take_succ_eq_append_getElem h, flat_append, flat_one]
theorem flat_take_le (l : List Run) (i : Nat) : (flat (l.take i)).length ≤ (flat l).length := by
  have h := congrArg (fun z => (flat z).length) (List.take_append_drop i l)
  simp only [flat_append, List.length_append] at h
  omega
theorem runOk_bad {l : List Run} {i : Nat} (h : i < l.length) (hb : runOk l[i] = false) : l.all runOk = false := by
  rw [List.all_eq_false]
  exact ⟨_, List.getElem_mem h, by rw [hb]; decide⟩
end Tb
def ksYr (base : Nat) (ad : Addr) (n c i jj : Nat) (la : Int) (ch : UInt8) (sv : ByteArray) (b0 : Nat) (y4 : Value) (o1 : Tb.Text) : List (World → Value → Prop) := [gIs (y4), gIs (.slice (some ad) n c), gIs (.int .i64 (i : Int)), gIs (.pointer (some (ad.add (i * 2)))), gIs (.pointer (some (ad.add (i * 2)))), gIs (.int .i64 la), gIs (.slice (some ad) n c), gIs (.int .i64 (i : Int)), gIs (.pointer (some (ad.add (i * 2)))), gIs (.pointer (some ⟨(ad.add (i * 2)).block, (ad.add (i * 2)).off + 1, none⟩)), gIs (.string sv), gIs (.int .i64 (jj : Int)), gIs (.int .u8 (ch.toNat : Int)), gIs (.agg #[.int .i64 la, .int .u8 (ch.toNat : Int)]), gOne b0 67 [.int .i64 la, .int .u8 (ch.toNat : Int)], (fun W v => W.ownsRow base 67 2 v (o1 ++ [(la, ch)]).length (SC (o1 ++ [(la, ch)])))]
theorem ksYr_n (base : Nat) (ad : Addr) (n c i jj : Nat) (la : Int) (ch : UInt8) (sv : ByteArray) (b0 : Nat) (y4 : Value) (o1 : Tb.Text) : ∀ j, j ≠ 15 → StabN b0 ((ksYr base ad n c i jj la ch sv b0 y4 o1).getD j gAny)
  | 0, _ => stabn_is _ _
  | 1, _ => stabn_is _ _
  | 2, _ => stabn_is _ _
  | 3, _ => stabn_is _ _
  | 4, _ => stabn_is _ _
  | 5, _ => stabn_is _ _
  | 6, _ => stabn_is _ _
  | 7, _ => stabn_is _ _
  | 8, _ => stabn_is _ _
  | 9, _ => stabn_is _ _
  | 10, _ => stabn_is _ _
  | 11, _ => stabn_is _ _
  | 12, _ => stabn_is _ _
  | 13, _ => stabn_is _ _
  | 14, _ => stabn_one _ _ _
  | 15, h => absurd rfl h
  | _ + 16, _ => stabn_any _
theorem ksYr_b (base : Nat) (ad : Addr) (n c i jj : Nat) (la : Int) (ch : UInt8) (sv : ByteArray) (b0 : Nat) (y4 : Value) (o1 : Tb.Text) (j : Nat) : Stab ((ksYr base ad n c i jj la ch sv b0 y4 o1).getD j gAny) := by
  by_cases h : j = 15
  · subst h
    exact fun W W' v hb h1 => own_below h1 hb
  · exact (ksYr_n base ad n c i jj la ch sv b0 y4 o1 j h).stab
def ksYp (base g8 jj : Nat) (la : Int) (ch : UInt8) (sv : ByteArray) (b0 : Nat) (y4 : Value) (o1 : Tb.Text) : List (World → Value → Prop) := [gIs (y4), gIs (.pointer (some ⟨g8, 0, none⟩)), gIs (.int .i64 la), gIs (.pointer (some ⟨g8, 1, none⟩)), gIs (.string sv), gIs (.int .i64 (jj : Int)), gIs (.int .u8 (ch.toNat : Int)), gIs (.agg #[.int .i64 la, .int .u8 (ch.toNat : Int)]), gOne b0 67 [.int .i64 la, .int .u8 (ch.toNat : Int)], (fun W v => W.ownsRow base 67 2 v (o1 ++ [(la, ch)]).length (SC (o1 ++ [(la, ch)])))]
theorem ksYp_n (base g8 jj : Nat) (la : Int) (ch : UInt8) (sv : ByteArray) (b0 : Nat) (y4 : Value) (o1 : Tb.Text) : ∀ j, j ≠ 9 → StabN b0 ((ksYp base g8 jj la ch sv b0 y4 o1).getD j gAny)
  | 0, _ => stabn_is _ _
  | 1, _ => stabn_is _ _
  | 2, _ => stabn_is _ _
  | 3, _ => stabn_is _ _
  | 4, _ => stabn_is _ _
  | 5, _ => stabn_is _ _
  | 6, _ => stabn_is _ _
  | 7, _ => stabn_is _ _
  | 8, _ => stabn_one _ _ _
  | 9, h => absurd rfl h
  | _ + 10, _ => stabn_any _
theorem ksYp_b (base g8 jj : Nat) (la : Int) (ch : UInt8) (sv : ByteArray) (b0 : Nat) (y4 : Value) (o1 : Tb.Text) (j : Nat) : Stab ((ksYp base g8 jj la ch sv b0 y4 o1).getD j gAny) := by
  by_cases h : j = 9
  · subst h
    exact fun W W' v hb h1 => own_below h1 hb
  · exact (ksYp_n base g8 jj la ch sv b0 y4 o1 j h).stab
set_option maxHeartbeats 8000000 in
set_option maxRecDepth 100000 in
theorem refSymbols_any (A : Option Addr) (c : Nat) (l : List Tb.Run) (w : World) (hr : RunsAt w w.heap.size A l) :
    Calls Try.prog 18 #[.slice A l.length c] w fun e w' => ∃ A' c', e = .returned (.tuple #[.slice A' (Tb.symT l).length c', .int .i64 (Tb.symE l)]) ∧ (Tb.symT l).length ≤ c' ∧ TextAt w' w'.heap.size A' (Tb.symT l) ∧ Below w.heap.size w w' := by
  have HR := hide hr.1
  have HSE := hide (show Tb.symE l = if l.all Tb.runOk = true then (if 2048 < (Tb.flat l).length then 4 else 0) else 1 from rfl)
  have HST := hide (show Tb.symT l = if l.all Tb.runOk = true ∧ (Tb.flat l).length ≤ 2048 then Tb.flat l else [] from rfl)
  have hbig := hr.2.1
  have HFL := hide hr.2.2
  have HW := hide (Below.refl w.heap.size w)
  have HNO := hide (fun (h : l.all Tb.runOk = false) => (show Tb.symE l = 1 ∧ Tb.symT l = [] from ⟨by rw [HSE.out, if_neg (by rw [h]; decide)], by rw [HST.out, if_neg (by rw [h]; simp)]⟩))
  obtain ⟨n, hn⟩ : ∃ n, n = l.length := ⟨_, rfl⟩
  have HN := hide hn
  rw [← hn] at hbig ⊢
  have hni : (n : Int) ≤ 100000 := by omega
  clear hr hn
  go_enter Try.func18, Try.ntmps18
  go_wp2
  go_loopw [4, 5] (fun s4 s wr => ∃ (i : Nat) (y4 : Value), i ≤ n ∧ s = .int .i64 (i : Int) ∧ y4 = s4 ∧ wr.ownsRow w.heap.size 67 2 y4 (Tb.flat (l.take i)).length (SC (Tb.flat (l.take i))) ∧ Hid ((l.take i).all Tb.runOk = true) ∧ Below w.heap.size w wr) (fun _ s _ => n - (intOf s).toNat)
  case atStart => exact ⟨0, _, by omega, rfl, rfl, by rw [List.take_zero]; exact own_nil _ _ _ _, by rw [List.take_zero]; exact rfl, HW.out⟩
  case round =>
    obtain ⟨i, y4, hi, rfl, rfl, hown, HAL, hbel⟩ := hrel
    obtain ⟨wd, rfl⟩ : ∃ wd, wd = wr := ⟨wr, rfl⟩
    have HO := hide hown
    have HB := hide hbel
    have hi0 : (0 : Int) ≤ (i : Int) := by omega
    by_cases hin : i < n
    · have hini : (i : Int) < (n : Int) := by omega
      have hil : i < l.length := by rw [← HN.out]; exact hin
      obtain ⟨ad, rfl, hadb, hc0, hc1⟩ := reads_run HR.out i hil
      obtain ⟨la, hla⟩ : ∃ la, la = l[i].1 := ⟨_, rfl⟩
      obtain ⟨tx, htx⟩ : ∃ tx, tx = l[i].2 := ⟨_, rfl⟩
      have HFT := hide (Tb.flat_take l i hil)
      have HBAD := hide (fun (h : Tb.runOk l[i] = false) => HNO.out (Tb.runOk_bad hil h))
      have HOKR := hide (show Tb.runOk l[i] = (Tb.langOk l[i].1 && l[i].2.all Tb.written) from rfl)
      have HALN := hide (all_take_succ Tb.runOk l i hil)
      have htl : tx.length ≤ 100000 := by
        rw [htx]
        exact Nat.le_trans (Tb.flat_len_mem (List.getElem_mem hil)) HFL.out
      rw [← hla, ← htx] at HOKR
      rw [← hla] at hc0
      rw [← htx] at hc1
      rw [← hla, ← htx] at HFT
      obtain ⟨sv, hsv⟩ : ∃ sv, sv = S tx := ⟨_, rfl⟩
      rw [← hsv] at hc1
      obtain ⟨m, hm⟩ : ∃ m, m = tx.length := ⟨_, rfl⟩
      have HM := hide hm
      have hsz : sv.size = m := by rw [hsv, S_size, hm]
      have HLD := hide (fun (W : World) (hb : Below w.heap.size w W) => (show W.cell? (ad.add (i * 2)) = some (.int .i64 la) ∧ W.cell? ⟨(ad.add (i * 2)).block, (ad.add (i * 2)).off + 1, none⟩ = some (.string sv) from
        ⟨by rw [hb.cell (by rw [block_of_add]; exact hadb)]; exact hc0, by rw [hb.cell (by show (ad.add (i * 2)).block < _; rw [block_of_add]; exact hadb)]; exact hc1⟩))
      have HSX := hide (fun (j : Nat) (hj : j < tx.length) (W : World) => run_index_S tx j hj W)
      rw [← hsv] at HSX
      rw [← hm] at htl
      have hmi : (m : Int) ≤ 100000 := by omega
      obtain ⟨d0, d1⟩ := HLD.out wd HB.out
      have HIN := hide hin
      have HLA := hide (show Tb.langOk la = decide (0 ≤ la ∧ la < 2) from rfl)
      generalize Tb.runOk l[i] = ok at *
      clear hown hbel hc0 hc1 hla htx hsv hm hin hil hadb
      by_cases h0 : la < 0
      · have HF := hide (HBAD.out (by rw [HOKR.out, HLA.out, decide_eq_false (by omega)]; rfl))
        clear HSX
        go_wp2
        go_ret2
        exact ⟨none, 0, by rw [HF.out.1, HF.out.2]; rfl, by rw [HF.out.2]; exact Nat.le_refl _, by rw [HF.out.2]; exact ⟨⟨rfl, fun h => absurd h (by simp)⟩, by simp⟩, HB.out⟩
      · by_cases h1 : 1 < la
        · have HF := hide (HBAD.out (by rw [HOKR.out, HLA.out, decide_eq_false (by omega)]; rfl))
          clear HSX
          go_wp2
          go_ret2
          exact ⟨none, 0, by rw [HF.out.1, HF.out.2]; rfl, by rw [HF.out.2]; exact Nat.le_refl _, by rw [HF.out.2]; exact ⟨⟨rfl, fun h => absurd h (by simp)⟩, by simp⟩, HB.out⟩
        · have HOK2 := hide (show ok = tx.all Tb.written by rw [HOKR.out, HLA.out, decide_eq_true (by omega), Bool.true_and])
          obtain ⟨o0, ho0⟩ : ∃ o0, o0 = Tb.flat (l.take i) := ⟨_, rfl⟩
          have HO0L := hide (show o0.length + m ≤ 100000 from by
            have h9 := Tb.flat_take_le l (i + 1)
            rw [HFT.out, ← ho0, List.length_append, List.length_map] at h9
            have := HFL.out
            have := HM.out
            omega)
          rw [← ho0] at HO HFT
          clear ho0 HOKR HLA
          go_wp2
          go_loopw [4, 6] (fun s4 s wr => ∃ (jj : Nat) (y4 : Value), jj ≤ m ∧ s = .int .i64 (jj : Int) ∧ y4 = s4 ∧ wr.ownsRow w.heap.size 67 2 y4 (o0 ++ (tx.take jj).map fun c => (la, c)).length (SC (o0 ++ (tx.take jj).map fun c => (la, c))) ∧ Hid ((tx.take jj).all Tb.written = true) ∧ Below w.heap.size w wr) (fun _ s _ => m - (intOf s).toNat)
          case atStart => exact ⟨0, _, by omega, rfl, rfl, by rw [List.take_zero, List.map_nil, List.append_nil]; exact HO.out, by rw [List.take_zero]; exact rfl, HB.out⟩
          case round =>
            obtain ⟨jj, y4, hj, rfl, rfl, hown, HAW0, hbel⟩ := hrel
            obtain ⟨wk, rfl⟩ : ∃ wk, wk = wr := ⟨wr, rfl⟩
            have HOK5 := hide hown
            have HBK := hide hbel
            have hj0 : (0 : Int) ≤ (jj : Int) := by omega
            obtain ⟨k0, k1⟩ := HLD.out wk HBK.out
            clear d0 d1
            by_cases hjm : jj < m
            · have hjmi : (jj : Int) < (m : Int) := by omega
              have hjl : jj < tx.length := by rw [← HM.out]; exact hjm
              have hix := fun W => HSX.out jj hjl W
              have HIX := hide hix
              have CW := hide (fun W => refWritten_any (tx.getD jj 0) W)
              have e9 : tx.getD jj 0 = tx[jj] := by simp [List.getD, hjl]
              have HTS := hide (all_take_succ Tb.written tx jj hjl)
              have HTB := hide (all_bad Tb.written tx jj hjl)
              have HTK := hide (show o0 ++ (tx.take (jj + 1)).map (fun c => (la, c)) = (o0 ++ (tx.take jj).map fun c => (la, c)) ++ [(la, tx.getD jj 0)] by
                rw [List.take_succ_eq_append_getElem hjl, List.map_append, List.append_assoc, e9]
                rfl)
              rw [← e9] at HTS HTB
              obtain ⟨ch, hch⟩ : ∃ ch, ch = tx.getD jj 0 := ⟨_, rfl⟩
              rw [← hch] at hix HIX CW HTS HTB HTK
              have HJM := hide hjm
              unfold VC at CW
              clear hown hbel hjm hjl e9 hch
              generalize hwr : Tb.written ch = wr9 at *
              have HWR := hide hwr
              clear hwr
              cases wr9 with
              | false =>
                have HF := hide (HBAD.out (by rw [HOK2.out]; exact HTB.out rfl))
                clear HTK
                go_wp2_with (go_at_call 48; refine (unhide CW _).mono ?_; rintro e w1 ⟨rfl, rfl⟩)
                go_ret2
                exact ⟨none, 0, by rw [HF.out.1, HF.out.2]; rfl, by rw [HF.out.2]; exact Nat.le_refl _, by rw [HF.out.2]; exact ⟨⟨rfl, fun h => absurd h (by simp)⟩, by simp⟩, HBK.out⟩
              | true =>
                have HAW := hide (show Hid ((tx.take (jj + 1)).all Tb.written = true) from by
                  show (tx.take (jj + 1)).all Tb.written = true
                  rw [HTS.out, HAW0.out]; rfl)
                have HRL := hide (show (o0 ++ (tx.take jj).map fun c => (la, c)).length ≤ 99999 by
                  rw [List.length_append, List.length_map, List.length_take]
                  have := HO0L.out
                  have := HJM.out
                  have := HM.out
                  omega)
                obtain ⟨o1, ho1⟩ : ∃ o1, o1 = o0 ++ (tx.take jj).map fun c => (la, c) := ⟨_, rfl⟩
                rw [← ho1] at HRL HTK HOK5
                clear ho1 HTS HTB
                go_upto_region 12 with (go_at_call 48; refine (unhide CW _).mono ?_; rintro e w1 ⟨rfl, rfl⟩)
                obtain ⟨U, rfl⟩ : ∃ U, U = wk := ⟨wk, rfl⟩
                have HUW := HBK
                have HOU := HOK5
                clear k0 k1 hix
                obtain ⟨b0, hb0⟩ : ∃ b0, b0 = U.heap.size := ⟨_, rfl⟩
                refine wp_region_threeT 15 16 [some 46, some 47, some 48, some 49, some 50, some 51, some 52, some 53, some 54, some 55, some 56, some 57, some 58, some 59, some 60, some 61] (gAll (ksYr w.heap.size ad n c i jj la ch sv b0 y4 o1))
                  (fun b W => (b = false → Below U.heap.size U W) ∧ Below w.heap.size w W ∧ U.grownBy W y4.ownBlock ∧ b0 ≤ W.heap.size) (by decide) (by kernel_rfl) (by kernel_rfl) (by kernel_rfl) (by rfl) (by decide) (by rfl) ⟨fun _ => (Below.refl _ _).drew, HUW.out.drew, only_drew (World.grownBy.refl _ _), by rw [hb0]; exact Nat.le_refl _⟩ ?_ ?_ ?_
                · intro j hj hjm b A x W hC hd hr
                  have stay : ∀ W', Below W.heap.size W W' → (b = false → Below U.heap.size U W') ∧ Below w.heap.size w W' ∧ U.grownBy W' y4.ownBlock ∧ b0 ≤ W'.heap.size := fun W' hb => ⟨fun h => (hC.1 h).trans (hb.mono (hC.1 h).size), hC.2.1.trans (hb.mono hC.2.1.size), grown_below hC.2.2.1 hb, Nat.le_trans hC.2.2.2 hb.size⟩
                  have KSB : ∀ k' u {W'}, Below W.heap.size W W' → gAll (ksYr w.heap.size ad n c i jj la ch sv b0 y4 o1) k' u W → gAll (ksYr w.heap.size ad n c i jj la ch sv b0 y4 o1) k' u W' := fun k' u W' hb h => ksYr_b w.heap.size ad n c i jj la ch sv b0 y4 o1 k' W W' u hb h
                  have KSN : ∀ k', k' ≠ 15 → ∀ u {W' row}, W.grownBy W' row → (∀ g, row = some g → g < b0) → gAll (ksYr w.heap.size ad n c i jj la ch sv b0 y4 o1) k' u W → gAll (ksYr w.heap.size ad n c i jj la ch sv b0 y4 o1) k' u W' := fun k' hk u W' row hg hr h => ksYr_n w.heap.size ad n c i jj la ch sv b0 y4 o1 k' hk W W' row u hg hr h
                  have hj' : j = 0 ∨ j = 1 ∨ j = 2 ∨ j = 3 ∨ j = 4 ∨ j = 5 ∨ j = 6 ∨ j = 7 ∨ j = 8 ∨ j = 9 ∨ j = 10 ∨ j = 11 ∨ j = 12 ∨ j = 13 ∨ j = 14 := by omega
                  rcases hj' with rfl | rfl | rfl | rfl | rfl | rfl | rfl | rfl | rfl | rfl | rfl | rfl | rfl | rfl | rfl
                  · have e4 : A.tmps[4]?.getD undef = y4 := hr 4 (by decide)
                    refine wpOp_step rfl (fun K' hK => ?_)
                    go_simp
                    exact hK _ _ ⟨_, rfl, rfl, fun _ _ _ h => h, hC⟩
                  · have e0 : A.tmps[0]?.getD undef = .slice (some ad) n c := hr 0 (by decide)
                    refine wpOp_step rfl (fun K' hK => ?_)
                    go_simp
                    exact hK _ _ ⟨_, rfl, rfl, fun _ _ _ h => h, hC⟩
                  · have e5 : A.tmps[5]?.getD undef = .int .i64 (i : Int) := hr 5 (by decide)
                    refine wpOp_step rfl (fun K' hK => ?_)
                    go_simp
                    exact hK _ _ ⟨_, rfl, rfl, fun _ _ _ h => h, hC⟩
                  · have d1 : A.tmps[47]?.getD undef = .slice (some ad) n c := ((hd 1 (by decide)).1 47 rfl).trans (hd 1 (by decide)).2
                    have d2 : A.tmps[48]?.getD undef = .int .i64 (i : Int) := ((hd 2 (by decide)).1 48 rfl).trans (hd 2 (by decide)).2
                    refine wpOp_step rfl (fun K' hK => ?_)
                    go_simp
                    exact hK _ _ ⟨_, rfl, rfl, fun _ _ _ h => h, hC⟩
                  · have d3 : A.tmps[49]?.getD undef = .pointer (some (ad.add (i * 2))) := ((hd 3 (by decide)).1 49 rfl).trans (hd 3 (by decide)).2
                    refine wpOp_step rfl (fun K' hK => ?_)
                    go_simp
                    exact hK _ _ ⟨_, rfl, rfl, fun _ _ _ h => h, hC⟩
                  · have d4 : A.tmps[50]?.getD undef = .pointer (some (ad.add (i * 2))) := ((hd 4 (by decide)).1 50 rfl).trans (hd 4 (by decide)).2
                    refine wpOp_step rfl (fun K' hK => ?_)
                    have s0 : W.cell? (ad.add (i * 2)) = some (.int .i64 la) := (HLD.out W hC.2.1).1
                    go_simp
                    exact hK _ _ ⟨_, rfl, rfl, fun _ _ _ h => h, hC⟩
                  · have e0 : A.tmps[0]?.getD undef = .slice (some ad) n c := hr 0 (by decide)
                    refine wpOp_step rfl (fun K' hK => ?_)
                    go_simp
                    exact hK _ _ ⟨_, rfl, rfl, fun _ _ _ h => h, hC⟩
                  · have e5 : A.tmps[5]?.getD undef = .int .i64 (i : Int) := hr 5 (by decide)
                    refine wpOp_step rfl (fun K' hK => ?_)
                    go_simp
                    exact hK _ _ ⟨_, rfl, rfl, fun _ _ _ h => h, hC⟩
                  · have d6 : A.tmps[52]?.getD undef = .slice (some ad) n c := ((hd 6 (by decide)).1 52 rfl).trans (hd 6 (by decide)).2
                    have d7 : A.tmps[53]?.getD undef = .int .i64 (i : Int) := ((hd 7 (by decide)).1 53 rfl).trans (hd 7 (by decide)).2
                    refine wpOp_step rfl (fun K' hK => ?_)
                    go_simp
                    exact hK _ _ ⟨_, rfl, rfl, fun _ _ _ h => h, hC⟩
                  · have d8 : A.tmps[54]?.getD undef = .pointer (some (ad.add (i * 2))) := ((hd 8 (by decide)).1 54 rfl).trans (hd 8 (by decide)).2
                    refine wpOp_step rfl (fun K' hK => ?_)
                    go_simp
                    exact hK _ _ ⟨_, rfl, rfl, fun _ _ _ h => h, hC⟩
                  · have d9 : A.tmps[55]?.getD undef = .pointer (some ⟨(ad.add (i * 2)).block, (ad.add (i * 2)).off + 1, none⟩) := ((hd 9 (by decide)).1 55 rfl).trans (hd 9 (by decide)).2
                    refine wpOp_step rfl (fun K' hK => ?_)
                    have s1 : W.cell? ⟨(ad.add (i * 2)).block, (ad.add (i * 2)).off + 1, none⟩ = some (.string sv) := (HLD.out W hC.2.1).2
                    go_simp
                    exact hK _ _ ⟨_, rfl, rfl, fun _ _ _ h => h, hC⟩
                  · have e6 : A.tmps[6]?.getD undef = .int .i64 (jj : Int) := hr 6 (by decide)
                    refine wpOp_step rfl (fun K' hK => ?_)
                    go_simp
                    exact hK _ _ ⟨_, rfl, rfl, fun _ _ _ h => h, hC⟩
                  · have d10 : A.tmps[56]?.getD undef = .string sv := ((hd 10 (by decide)).1 56 rfl).trans (hd 10 (by decide)).2
                    have d11 : A.tmps[57]?.getD undef = .int .i64 (jj : Int) := ((hd 11 (by decide)).1 57 rfl).trans (hd 11 (by decide)).2
                    refine wpOp_step rfl (fun K' hK => ?_)
                    have hix := HIX.out W
                    go_simp
                    exact hK _ _ ⟨_, rfl, rfl, fun _ _ _ h => h, hC⟩
                  · have d5 : A.tmps[51]?.getD undef = .int .i64 la := ((hd 5 (by decide)).1 51 rfl).trans (hd 5 (by decide)).2
                    have d12 : A.tmps[58]?.getD undef = .int .u8 (ch.toNat : Int) := ((hd 12 (by decide)).1 58 rfl).trans (hd 12 (by decide)).2
                    refine wpOp_step rfl (fun K' hK => ?_)
                    go_simp
                    exact hK _ _ ⟨_, rfl, rfl, fun _ _ _ h => h, hC⟩
                  · have d13 : A.tmps[59]?.getD undef = .agg #[.int .i64 la, .int .u8 (ch.toNat : Int)] := ((hd 13 (by decide)).1 59 rfl).trans (hd 13 (by decide)).2
                    refine wpOp_step rfl (fun K' hK => ?_)
                    go_simp
                    exact hK _ _ ⟨_, rfl, ⟨W.heap.size, rfl, hC.2.2.2, Blk.new W _ _⟩, fun k' _ u h => KSB k' u (below_alloc W _) h, stay _ (below_alloc W _)⟩
                · intro A x W hC hd hr
                  have stay : ∀ W', Below W.heap.size W W' → (false = false → Below U.heap.size U W') ∧ Below w.heap.size w W' ∧ U.grownBy W' y4.ownBlock ∧ b0 ≤ W'.heap.size := fun W' hb => ⟨fun h => (hC.1 h).trans (hb.mono (hC.1 h).size), hC.2.1.trans (hb.mono hC.2.1.size), grown_below hC.2.2.1 hb, Nat.le_trans hC.2.2.2 hb.size⟩
                  have KSB : ∀ k' u {W'}, Below W.heap.size W W' → gAll (ksYr w.heap.size ad n c i jj la ch sv b0 y4 o1) k' u W → gAll (ksYr w.heap.size ad n c i jj la ch sv b0 y4 o1) k' u W' := fun k' u W' hb h => ksYr_b w.heap.size ad n c i jj la ch sv b0 y4 o1 k' W W' u hb h
                  have KSN : ∀ k', k' ≠ 15 → ∀ u {W' row}, W.grownBy W' row → (∀ g, row = some g → g < b0) → gAll (ksYr w.heap.size ad n c i jj la ch sv b0 y4 o1) k' u W → gAll (ksYr w.heap.size ad n c i jj la ch sv b0 y4 o1) k' u W' := fun k' hk u W' row hg hr h => ksYr_n w.heap.size ad n c i jj la ch sv b0 y4 o1 k' hk W W' row u hg hr h
                  obtain ⟨g, hx, hg0, hgb⟩ : gOne b0 67 [.int .i64 la, .int .u8 (ch.toNat : Int)] W (x 14) := (hd 14 (by decide)).2
                  have dr : A.tmps[60]?.getD undef = .slice (some ⟨g, 0, none⟩) 1 1 := ((hd 14 (by decide)).1 60 rfl).trans hx
                  have dy : A.tmps[46]?.getD undef = y4 := ((hd 0 (by decide)).1 46 rfl).trans (hd 0 (by decide)).2
                  have hbw := hC.1 rfl
                  obtain ⟨v', W', hrun, hown', hgrow', hat'⟩ := syms_push W w.heap.size g y4 o1 (la, ch) (own_below HOU.out hbw) hgb hC.2.1.size (by have := HRL.out; omega) 37
                  refine wpOp_step rfl (fun K' hK => ?_)
                  refine step_run_append (by rfl) (.tmp 46) (.tmp 60) 37 rfl y4 (.slice (some ⟨g, 0, none⟩) 1 1) (by show A.tmps.getD 46 undef = _; simpa using dy) (by show A.tmps.getD 60 undef = _; simpa using dr) v' W' hrun ?_
                  refine hK _ _ ⟨v', rfl, hown', fun k' hk' u h => KSN k' hk' u hgrow' (fun g' hg' => by rw [hb0]; exact (HOU.out.lt g' hg').2) h, ⟨fun h => (by cases h), hC.2.1.grown hgrow' hC.2.1.size (fun g' hg' => (HOU.out.lt g' hg').1), grown_tr hC.2.2.1 hgrow', Nat.le_trans hC.2.2.2 hgrow'.size⟩⟩
                · intro x W hC hR
                  have hown' : W.ownsRow w.heap.size 67 2 (x 15) (o1 ++ [(la, ch)]).length (SC (o1 ++ [(la, ch)])) := hR 15 (by decide)
                  have HO9 := hide (show W.ownsRow w.heap.size 67 2 (x 15) (o0 ++ (tx.take (jj + 1)).map fun c => (la, c)).length (SC (o0 ++ (tx.take (jj + 1)).map fun c => (la, c))) by rw [HTK.out]; exact hown')
                  have HB9 := hide hC.2.1
                  clear hown' hC hR
                  refine wpOp_step rfl (fun K' hK => ?_)
                  simp only [putL, Act.put, Nat.zero_add, Nat.reduceAdd, List.setIfInBounds_toArray, List.set_cons_succ, List.set_cons_zero]
                  generalize x 0 = z0
                  generalize x 1 = z1
                  generalize x 2 = z2
                  generalize x 3 = z3
                  generalize x 4 = z4
                  generalize x 5 = z5
                  generalize x 6 = z6
                  generalize x 7 = z7
                  generalize x 8 = z8
                  generalize x 9 = z9
                  generalize x 10 = z10
                  generalize x 11 = z11
                  generalize x 12 = z12
                  generalize x 13 = z13
                  generalize x 14 = z14
                  generalize x 15 = xo at *
                  go_simp
                  refine hK _ _ ?_
                  clear hK K'
                  go_wp2
                  have hj9 := HJM.out
                  exact ⟨⟨jj + 1, xo, by omega, by go_num, rfl, HO9.out, HAW.out, HB9.out⟩, by simp [intOf]; omega⟩
            · obtain rfl : jj = m := by omega
              have hnt : ¬ ((jj : Int) < (jj : Int)) := by omega
              have HO2 := hide (show wk.ownsRow w.heap.size 67 2 y4 (Tb.flat (l.take (i + 1))).length (SC (Tb.flat (l.take (i + 1)))) from by
                rw [HFT.out]
                have h9 := HOK5.out
                rwa [List.take_of_length_le (by rw [← HM.out]; exact Nat.le_refl _)] at h9)
              have HAL2 := hide (show (l.take (i + 1)).all Tb.runOk = true from by
                have h9 := HAW0.out
                rw [List.take_of_length_le (by rw [← HM.out]; exact Nat.le_refl _)] at h9
                rw [HALN.out, HAL.out, HOK2.out, h9]
                rfl)
              clear hown hbel
              go_wp2
              have hi9 := HIN.out
              exact ⟨⟨i + 1, y4, hi9, by go_num, rfl, HO2.out, HAL2, HBK.out⟩, by simp [intOf]; omega⟩
    · obtain rfl : i = n := by omega
      have hnt : ¬ ((i : Int) < (i : Int)) := by omega
      have htk : l.take i = l := List.take_of_length_le (by have := HN.out; omega)
      have hall : l.all Tb.runOk = true := by have h9 := HAL.out; rwa [htk] at h9
      rw [htk] at hown
      obtain ⟨A9, c9, hv9, hc9, ht9⟩ := text_of_own hown (by have := HFL.out; omega)
      subst hv9
      have HC9 := hide hc9
      have HT9 := hide ht9
      obtain ⟨fl, hfl⟩ : ∃ fl, fl = (Tb.flat l).length := ⟨_, rfl⟩
      have HFLE := hide hfl
      rw [← hfl]
      by_cases hbl : 2048 < fl
      · have HF := hide (show Tb.symE l = 4 ∧ Tb.symT l = [] from ⟨by rw [HSE.out, if_pos hall, if_pos (by omega)], by rw [HST.out, if_neg (by omega)]⟩)
        have hbi : (2048 : Int) < (fl : Int) := by omega
        clear hown hbel hall htk hc9 ht9 hfl HC9
        go_wp2
        go_ret2
        exact ⟨none, 0, by rw [HF.out.1, HF.out.2]; rfl, by rw [HF.out.2]; exact Nat.le_refl _, by rw [HF.out.2]; exact ⟨⟨rfl, fun h => absurd h (by simp)⟩, by simp⟩, HB.out⟩
      · have HF := hide (show Tb.symE l = 0 ∧ Tb.symT l = Tb.flat l from ⟨by rw [HSE.out, if_pos hall, if_neg (by omega)], by rw [HST.out, if_pos ⟨hall, by omega⟩]⟩)
        have hbi : ¬ (2048 : Int) < (fl : Int) := by omega
        clear hown hbel hall htk hc9 ht9 hfl
        go_wp2
        go_ret2
        exact ⟨A9, c9, by rw [HF.out.1, HF.out.2, ← HFLE.out]; rfl, by rw [HF.out.2]; exact HC9.out, by rw [HF.out.2]; exact HT9.out, HB.out⟩
set_option maxHeartbeats 8000000 in
set_option maxRecDepth 100000 in
theorem symbols_any (A : Option Addr) (c : Nat) (l : List Tb.Run) (w : World) (hr : RunsAt w w.heap.size A l) :
    Calls Try.prog 17 #[.slice A l.length c] w fun e w' => ∃ A' c', e = .returned (.tuple #[.slice A' (Tb.symT l).length c', .int .i64 (Tb.symE l)]) ∧ (Tb.symT l).length ≤ c' ∧ TextAt w' w'.heap.size A' (Tb.symT l) ∧ Below w.heap.size w w' := by
  have HR := hide hr.1
  have HSE := hide (show Tb.symE l = if l.all Tb.runOk = true then (if 2048 < (Tb.flat l).length then 4 else 0) else 1 from rfl)
  have HST := hide (show Tb.symT l = if l.all Tb.runOk = true ∧ (Tb.flat l).length ≤ 2048 then Tb.flat l else [] from rfl)
  have hbig := hr.2.1
  have HFL := hide hr.2.2
  have HW := hide (Below.refl w.heap.size w)
  have HNO := hide (fun (h : l.all Tb.runOk = false) => (show Tb.symE l = 1 ∧ Tb.symT l = [] from ⟨by rw [HSE.out, if_neg (by rw [h]; decide)], by rw [HST.out, if_neg (by rw [h]; simp)]⟩))
  obtain ⟨n, hn⟩ : ∃ n, n = l.length := ⟨_, rfl⟩
  have HN := hide hn
  rw [← hn] at hbig ⊢
  have hni : (n : Int) ≤ 100000 := by omega
  clear hr hn
  have HRUN := hide (fun (i : Nat) (hi : i < n) => (show ∃ (ad : Addr) (la : Int) (tx : List UInt8), A = some ad ∧ tx.length ≤ 100000 ∧ Tb.flat (l.take (i + 1)) = Tb.flat (l.take i) ++ tx.map (fun c => (la, c)) ∧ (Tb.langOk la && tx.all Tb.written) = Tb.runOk (l.getD i (0, [])) ∧ (l.take (i + 1)).all Tb.runOk = ((l.take i).all Tb.runOk && Tb.runOk (l.getD i (0, []))) ∧ (Tb.runOk (l.getD i (0, [])) = false → Tb.symE l = 1 ∧ Tb.symT l = []) ∧
      ∀ W, Below w.heap.size w W → ∀ (j : Nat) (v : Value), ([.int .i64 la, .string (S tx)] : List Value)[j]? = some v → W.cell? ((ad.add (i * 2)).add j) = some v from by
    have hil : i < l.length := by have := HN.out; omega
    have e : l.getD i (0, []) = l[i] := by simp [List.getD, hil]
    obtain ⟨ad, hA, hadb, hc0, hc1⟩ := reads_run HR.out i hil
    rw [e]
    exact ⟨ad, l[i].1, l[i].2, hA, Nat.le_trans (Tb.flat_len_mem (List.getElem_mem hil)) HFL.out, Tb.flat_take l i hil, rfl, all_take_succ Tb.runOk l i hil, fun h => HNO.out (Tb.runOk_bad hil h), fun W hb =>
      run_cells l[i] W ad i (by rw [hb.cell (by rw [block_of_add]; exact hadb)]; exact hc0) (by rw [hb.cell (by show (ad.add (i * 2)).block < _; rw [block_of_add]; exact hadb)]; exact hc1)⟩))
  go_enter Try.func17, Try.ntmps17
  go_wp2
  go_loopw [12] (fun s wr => ∃ (i : Nat), i ≤ n ∧ s = .int .i64 (i : Int) ∧ Hid ((l.take i).all Tb.runOk = true) ∧ Below w.heap.size w wr) (fun s _ => n - (intOf s).toNat)
  case atStart => exact ⟨0, by omega, rfl, by rw [List.take_zero]; exact rfl, HW.out⟩
  case round =>
    obtain ⟨i, hi, rfl, HAL, hbel⟩ := hrel
    obtain ⟨wd, rfl⟩ : ∃ wd, wd = wr := ⟨wr, rfl⟩
    have HB := hide hbel
    have hbs := hbel.size
    have hi0 : (0 : Int) ≤ (i : Int) := by omega
    by_cases hin : i < n
    · have hini : (i : Int) < (n : Int) := by omega
      obtain ⟨ad, la, tx, hA, htl, _, hok, hal2, hbad, hec⟩ := HRUN.out i hin
      subst hA
      have HEC := hide (hec wd HB.out)
      have HOK := hide hok
      have HAL2 := hide hal2
      have HBAD := hide hbad
      generalize Tb.runOk (l.getD i (0, [])) = ok at *
      obtain ⟨m, hm⟩ : ∃ m, m = tx.length := ⟨_, rfl⟩
      have hsz : (S tx).size = m := by rw [S_size, hm]
      have HIN := hide hin
      have CLG := hide (fun W => language_any W la)
      have HCB := hide (fun (W : World) => conv_bytes tx W)
      have HCE := hide (fun (A9 : Option Addr) (c9 : Nat) (W : World) (h : Reads W W.heap.size 1 A9 m (BV tx)) => every_character A9 m c9 tx W h (by omega))
      obtain ⟨sv, hsv⟩ : ∃ sv, sv = S tx := ⟨_, rfl⟩
      rw [← hsv] at hsz HEC HCB
      generalize Tb.langOk la = lo at *
      generalize tx.all Tb.written = wv at *
      clear hbel hok hal2 hbad hec hin hm hsv
      go_upto_region 4 with (with_reducible refine wpList_load_at rfl 91 (.tmp 14) rfl (ad.add (i * 2)) rfl [.int .i64 la, .string sv] _ HEC.out Try.underlying91 rfl ?c1 ?_)
      case c1 => exact runInfo
      refine name_world fun X hX => ?_
      have X5 := hide (show Blk X wd.heap.size 91 #[.int .i64 la, .string sv] by rw [← hX.out]; exact Blk.new wd _ _)
      have HX := hide (show Below wd.heap.size wd X by rw [← hX.out]; exact below_alloc wd _)
      have HBX := hide (HB.out.trans (HX.out.mono hbs))
      have x0 : X.cell? ⟨wd.heap.size, 0, none⟩ = some (.int .i64 la) := X5.out.cell 0
      have x1 : X.cell? ⟨wd.heap.size, 1, none⟩ = some (.string sv) := X5.out.cell 1
      clear hX HEC
      cases lo with
      | false =>
        have HF := hide (HBAD.out (by rw [← HOK.out]; rfl))
        go_wp2_with (go_at_call 45; refine (unhide CLG _).mono ?_; rintro e w1 ⟨rfl, rfl⟩)
        go_ret2
        exact ⟨none, 0, by rw [HF.out.1, HF.out.2]; rfl, by rw [HF.out.2]; exact Nat.le_refl _, by rw [HF.out.2]; exact ⟨⟨rfl, fun h => absurd h (by simp)⟩, by simp⟩, HBX.out⟩
      | true =>
        obtain ⟨A9, c9, W9, hcv, hrd, hb9⟩ := HCB.out X
        rw [hsz] at hcv hrd
        have CE := hide (HCE.out (some A9) c9 W9 hrd)
        have HB9 := hide (HBX.out.trans (hb9.mono HBX.out.size))
        clear hrd hb9 HCB HCE
        cases wv with
        | false =>
          have HF := hide (HBAD.out (by rw [← HOK.out]; rfl))
          go_wp2_with (first
            | (go_at_call 45; refine (unhide CLG _).mono ?_; rintro e w1 ⟨rfl, rfl⟩)
            | (go_at_call 46; refine (unhide CE).mono ?_; rintro e w1 ⟨rfl, rfl⟩))
          go_ret2
          exact ⟨none, 0, by rw [HF.out.1, HF.out.2]; rfl, by rw [HF.out.2]; exact Nat.le_refl _, by rw [HF.out.2]; exact ⟨⟨rfl, fun h => absurd h (by simp)⟩, by simp⟩, HB9.out⟩
        | true =>
          have HAL3 := hide (show (l.take (i + 1)).all Tb.runOk = true by rw [HAL2.out, HAL.out, ← HOK.out]; rfl)
          go_wp2_with (first
            | (go_at_call 45; refine (unhide CLG _).mono ?_; rintro e w1 ⟨rfl, rfl⟩)
            | (go_at_call 46; refine (unhide CE).mono ?_; rintro e w1 ⟨rfl, rfl⟩))
          have hi9 := HIN.out
          exact ⟨⟨i + 1, hi9, by go_num, HAL3, HB9.out⟩, by simp [intOf]; omega⟩
    · obtain rfl : i = n := by omega
      have hnt : ¬ ((i : Int) < (i : Int)) := by omega
      have HALL := hide (show l.all Tb.runOk = true from by
        have h9 := HAL.out
        rwa [List.take_of_length_le (by have := HN.out; omega)] at h9)
      clear hbel hin HAL hbs
      go_wp2
      go_loopw [6, 30] (fun s6 s wr => ∃ (k : Nat) (y4 : Value), k ≤ i ∧ s = .int .i64 (k : Int) ∧ y4 = s6 ∧ wr.ownsRow w.heap.size 67 2 y4 (Tb.flat (l.take k)).length (SC (Tb.flat (l.take k))) ∧ Hid ((Tb.flat (l.take k)).length ≤ 2048) ∧ Below w.heap.size w wr) (fun _ s _ => i - (intOf s).toNat)
      case atStart => exact ⟨0, _, by omega, rfl, rfl, by rw [List.take_zero]; exact own_nil _ _ _ _, by rw [List.take_zero]; exact Nat.zero_le _, HB.out⟩
      case round =>
        clear HB
        obtain ⟨k, y4, hk, rfl, rfl, hown, HL2, hbel⟩ := hrel
        obtain ⟨wk, rfl⟩ : ∃ wk, wk = wr := ⟨wr, rfl⟩
        have HO := hide hown
        have HB := hide hbel
        have hbs := hbel.size
        have hk0 : (0 : Int) ≤ (k : Int) := by omega
        by_cases hki : k < i
        · have hkii : (k : Int) < (i : Int) := by omega
          obtain ⟨ad, la, tx, hA, htl, hft, _, _, _, hec⟩ := HRUN.out k hki
          subst hA
          have HEC := hide (hec wk HB.out)
          have HFT := hide hft
          obtain ⟨o0, ho0⟩ : ∃ o0, o0 = Tb.flat (l.take k) := ⟨_, rfl⟩
          have HO0E := hide ho0
          rw [← ho0] at HO HFT HL2
          obtain ⟨m, hm⟩ : ∃ m, m = tx.length := ⟨_, rfl⟩
          have HM := hide hm
          have hsz : (S tx).size = m := by rw [S_size, hm]
          have HSX := hide (fun (j : Nat) (hj : j < tx.length) (W : World) => run_index_S tx j hj W)
          obtain ⟨sv, hsv⟩ : ∃ sv, sv = S tx := ⟨_, rfl⟩
          rw [← hsv] at hsz HEC HSX
          have htm : m ≤ 100000 := by omega
          have HKI := hide hki
          obtain ⟨A4, c4, hv4, _⟩ := own_slice HO.out
          subst hv4
          obtain ⟨q, hq⟩ : ∃ q, q = o0.length := ⟨_, rfl⟩
          have HQ := hide hq
          have hq2 : q ≤ 2048 := by rw [hq]; exact HL2.out
          rw [← hq]
          rw [← hq] at HO
          clear hown hbel hec hft hki hm hsv ho0 hq htl
          go_upto_region 11 with (with_reducible refine wpList_load_at rfl 91 (.tmp 32) rfl (ad.add (k * 2)) rfl [.int .i64 la, .string sv] _ HEC.out Try.underlying91 rfl ?c1 ?_)
          case c1 => exact runInfo
          refine name_world fun X hX => ?_
          have X8 := hide (show Blk X wk.heap.size 91 #[.int .i64 la, .string sv] by rw [← hX.out]; exact Blk.new wk _ _)
          have HX := hide (show Below wk.heap.size wk X by rw [← hX.out]; exact below_alloc wk _)
          have HBX := hide (HB.out.trans (HX.out.mono hbs))
          have HOX := hide (own_below HO.out HX.out)
          obtain ⟨g8, hg8⟩ : ∃ g8, g8 = wk.heap.size := ⟨_, rfl⟩
          rw [← hg8] at X8 ⊢
          have x0 : X.cell? ⟨g8, 0, none⟩ = some (.int .i64 la) := X8.out.cell 0
          have x1 : X.cell? ⟨g8, 1, none⟩ = some (.string sv) := X8.out.cell 1
          clear hX HEC hg8 HX HO HB hbs
          by_cases hlim : (2048 : Int) - (q : Int) < (m : Int)
          · have HF := hide (show Tb.symE l = 4 ∧ Tb.symT l = [] from by
              have h9 := Tb.flat_take_le l (k + 1)
              rw [HFT.out, List.length_append, List.length_map] at h9
              have h1 := HQ.out
              have h2 := HM.out
              exact ⟨by rw [HSE.out, if_pos HALL.out, if_pos (by omega)], by rw [HST.out, if_neg (by omega)]⟩)
            clear HSX
            go_wp2
            go_ret2
            exact ⟨none, 0, by rw [HF.out.1, HF.out.2]; rfl, by rw [HF.out.2]; exact Nat.le_refl _, by rw [HF.out.2]; exact ⟨⟨rfl, fun h => absurd h (by simp)⟩, by simp⟩, HBX.out⟩
          · have hmi : (m : Int) ≤ 100000 := by omega
            have hqm : q + m ≤ 2048 := by omega
            clear x0
            go_wp2
            go_loopw [6, 44] (fun s4 s wr => ∃ (jj : Nat) (y4 : Value), jj ≤ m ∧ s = .int .i64 (jj : Int) ∧ y4 = s4 ∧ wr.ownsRow w.heap.size 67 2 y4 (o0 ++ (tx.take jj).map fun c => (la, c)).length (SC (o0 ++ (tx.take jj).map fun c => (la, c))) ∧ Hid (Blk wr g8 91 #[.int .i64 la, .string sv]) ∧ Below w.heap.size w wr) (fun _ s _ => m - (intOf s).toNat)
            case atStart => exact ⟨0, _, by omega, rfl, rfl, by rw [List.take_zero, List.map_nil, List.append_nil, ← HQ.out]; exact HOX.out, X8, HBX.out⟩
            case round =>
              clear HOX X8 HBX
              obtain ⟨jj, y4, hj, rfl, rfl, hown, HG8, hbel⟩ := hrel
              obtain ⟨wj, rfl⟩ : ∃ wj, wj = wr := ⟨wr, rfl⟩
              have HOU := hide hown
              have HUW := hide hbel
              have hj0 : (0 : Int) ≤ (jj : Int) := by omega
              by_cases hjm : jj < m
              · have hjmi : (jj : Int) < (m : Int) := by omega
                have hjl : jj < tx.length := by rw [← HM.out]; exact hjm
                have HIX := hide (fun W => HSX.out jj hjl W)
                have HTK := hide (show o0 ++ (tx.take (jj + 1)).map (fun c => (la, c)) = (o0 ++ (tx.take jj).map fun c => (la, c)) ++ [(la, tx.getD jj 0)] by
                  have e9 : tx.getD jj 0 = tx[jj] := by simp [List.getD, hjl]
                  rw [List.take_succ_eq_append_getElem hjl, List.map_append, List.append_assoc, e9]
                  rfl)
                obtain ⟨ch, hch⟩ : ∃ ch, ch = tx.getD jj 0 := ⟨_, rfl⟩
                rw [← hch] at HIX HTK
                have HJM := hide hjm
                have HRL := hide (show (o0 ++ (tx.take jj).map fun c => (la, c)).length ≤ 99999 by
                  rw [List.length_append, List.length_map, List.length_take]
                  have := HQ.out
                  omega)
                obtain ⟨o1, ho1⟩ : ∃ o1, o1 = o0 ++ (tx.take jj).map fun c => (la, c) := ⟨_, rfl⟩
                rw [← ho1] at HRL HTK HOU
                clear hown hbel hjm hjl hch ho1
                go_upto_region 16 with fail
                obtain ⟨U, rfl⟩ : ∃ U, U = wj := ⟨wj, rfl⟩
                have hy8 := own_blk_ne HOU.out HG8.out (by decide)
                have HLD := hide (fun (W : World) (hg : U.grownBy W y4.ownBlock) => HG8.out.grown hg (Ne.symm hy8))
                obtain ⟨b0, hb0⟩ : ∃ b0, b0 = U.heap.size := ⟨_, rfl⟩
                refine wp_region_threeT 9 10 [some 47, some 48, some 49, some 50, some 51, some 52, some 53, some 54, some 55, some 56] (gAll (ksYp w.heap.size g8 jj la ch sv b0 y4 o1))
                  (fun b W => (b = false → Below U.heap.size U W) ∧ Below w.heap.size w W ∧ U.grownBy W y4.ownBlock ∧ b0 ≤ W.heap.size) (by decide) (by kernel_rfl) (by kernel_rfl) (by kernel_rfl) (by rfl) (by decide) (by rfl) ⟨fun _ => (Below.refl _ _).drew, HUW.out.drew, only_drew (World.grownBy.refl _ _), by rw [hb0]; exact Nat.le_refl _⟩ ?_ ?_ ?_
                · intro j hj hjm b A x W hC hd hr
                  have stay : ∀ W', Below W.heap.size W W' → (b = false → Below U.heap.size U W') ∧ Below w.heap.size w W' ∧ U.grownBy W' y4.ownBlock ∧ b0 ≤ W'.heap.size := fun W' hb => ⟨fun h => (hC.1 h).trans (hb.mono (hC.1 h).size), hC.2.1.trans (hb.mono hC.2.1.size), grown_below hC.2.2.1 hb, Nat.le_trans hC.2.2.2 hb.size⟩
                  have KSB : ∀ k' u {W'}, Below W.heap.size W W' → gAll (ksYp w.heap.size g8 jj la ch sv b0 y4 o1) k' u W → gAll (ksYp w.heap.size g8 jj la ch sv b0 y4 o1) k' u W' := fun k' u W' hb h => ksYp_b w.heap.size g8 jj la ch sv b0 y4 o1 k' W W' u hb h
                  have KSN : ∀ k', k' ≠ 9 → ∀ u {W' row}, W.grownBy W' row → (∀ g, row = some g → g < b0) → gAll (ksYp w.heap.size g8 jj la ch sv b0 y4 o1) k' u W → gAll (ksYp w.heap.size g8 jj la ch sv b0 y4 o1) k' u W' := fun k' hk u W' row hg hr h => ksYp_n w.heap.size g8 jj la ch sv b0 y4 o1 k' hk W W' row u hg hr h
                  have hj' : j = 0 ∨ j = 1 ∨ j = 2 ∨ j = 3 ∨ j = 4 ∨ j = 5 ∨ j = 6 ∨ j = 7 ∨ j = 8 := by omega
                  rcases hj' with rfl | rfl | rfl | rfl | rfl | rfl | rfl | rfl | rfl
                  · have e6 : A.tmps[6]?.getD undef = y4 := hr 6 (by decide)
                    refine wpOp_step rfl (fun K' hK => ?_)
                    go_simp
                    exact hK _ _ ⟨_, rfl, rfl, fun _ _ _ h => h, hC⟩
                  · have e8 : A.tmps[8]?.getD undef = .pointer (some ⟨g8, 0, none⟩) := hr 8 (by decide)
                    refine wpOp_step rfl (fun K' hK => ?_)
                    go_simp
                    exact hK _ _ ⟨_, rfl, rfl, fun _ _ _ h => h, hC⟩
                  · have d1 : A.tmps[48]?.getD undef = .pointer (some ⟨g8, 0, none⟩) := ((hd 1 (by decide)).1 48 rfl).trans (hd 1 (by decide)).2
                    refine wpOp_step rfl (fun K' hK => ?_)
                    have s0 : W.cell? ⟨g8, 0, none⟩ = some (.int .i64 la) := (HLD.out W hC.2.2.1).cell 0
                    go_simp
                    exact hK _ _ ⟨_, rfl, rfl, fun _ _ _ h => h, hC⟩
                  · have e8 : A.tmps[8]?.getD undef = .pointer (some ⟨g8, 0, none⟩) := hr 8 (by decide)
                    refine wpOp_step rfl (fun K' hK => ?_)
                    go_simp
                    exact hK _ _ ⟨_, rfl, rfl, fun _ _ _ h => h, hC⟩
                  · have d3 : A.tmps[50]?.getD undef = .pointer (some ⟨g8, 1, none⟩) := ((hd 3 (by decide)).1 50 rfl).trans (hd 3 (by decide)).2
                    refine wpOp_step rfl (fun K' hK => ?_)
                    have s1 : W.cell? ⟨g8, 1, none⟩ = some (.string sv) := (HLD.out W hC.2.2.1).cell 1
                    go_simp
                    exact hK _ _ ⟨_, rfl, rfl, fun _ _ _ h => h, hC⟩
                  · have e9 : A.tmps[9]?.getD undef = .int .i64 (jj : Int) := hr 9 (by decide)
                    refine wpOp_step rfl (fun K' hK => ?_)
                    go_simp
                    exact hK _ _ ⟨_, rfl, rfl, fun _ _ _ h => h, hC⟩
                  · have d4 : A.tmps[51]?.getD undef = .string sv := ((hd 4 (by decide)).1 51 rfl).trans (hd 4 (by decide)).2
                    have d5 : A.tmps[52]?.getD undef = .int .i64 (jj : Int) := ((hd 5 (by decide)).1 52 rfl).trans (hd 5 (by decide)).2
                    refine wpOp_step rfl (fun K' hK => ?_)
                    have hix := HIX.out W
                    go_simp
                    exact hK _ _ ⟨_, rfl, rfl, fun _ _ _ h => h, hC⟩
                  · have d2 : A.tmps[49]?.getD undef = .int .i64 la := ((hd 2 (by decide)).1 49 rfl).trans (hd 2 (by decide)).2
                    have d6 : A.tmps[53]?.getD undef = .int .u8 (ch.toNat : Int) := ((hd 6 (by decide)).1 53 rfl).trans (hd 6 (by decide)).2
                    refine wpOp_step rfl (fun K' hK => ?_)
                    go_simp
                    exact hK _ _ ⟨_, rfl, rfl, fun _ _ _ h => h, hC⟩
                  · have d7 : A.tmps[54]?.getD undef = .agg #[.int .i64 la, .int .u8 (ch.toNat : Int)] := ((hd 7 (by decide)).1 54 rfl).trans (hd 7 (by decide)).2
                    refine wpOp_step rfl (fun K' hK => ?_)
                    go_simp
                    exact hK _ _ ⟨_, rfl, ⟨W.heap.size, rfl, hC.2.2.2, Blk.new W _ _⟩, fun k' _ u h => KSB k' u (below_alloc W _) h, stay _ (below_alloc W _)⟩
                · intro A x W hC hd hr
                  have stay : ∀ W', Below W.heap.size W W' → (false = false → Below U.heap.size U W') ∧ Below w.heap.size w W' ∧ U.grownBy W' y4.ownBlock ∧ b0 ≤ W'.heap.size := fun W' hb => ⟨fun h => (hC.1 h).trans (hb.mono (hC.1 h).size), hC.2.1.trans (hb.mono hC.2.1.size), grown_below hC.2.2.1 hb, Nat.le_trans hC.2.2.2 hb.size⟩
                  have KSB : ∀ k' u {W'}, Below W.heap.size W W' → gAll (ksYp w.heap.size g8 jj la ch sv b0 y4 o1) k' u W → gAll (ksYp w.heap.size g8 jj la ch sv b0 y4 o1) k' u W' := fun k' u W' hb h => ksYp_b w.heap.size g8 jj la ch sv b0 y4 o1 k' W W' u hb h
                  have KSN : ∀ k', k' ≠ 9 → ∀ u {W' row}, W.grownBy W' row → (∀ g, row = some g → g < b0) → gAll (ksYp w.heap.size g8 jj la ch sv b0 y4 o1) k' u W → gAll (ksYp w.heap.size g8 jj la ch sv b0 y4 o1) k' u W' := fun k' hk u W' row hg hr h => ksYp_n w.heap.size g8 jj la ch sv b0 y4 o1 k' hk W W' row u hg hr h
                  obtain ⟨g, hx, hg0, hgb⟩ : gOne b0 67 [.int .i64 la, .int .u8 (ch.toNat : Int)] W (x 8) := (hd 8 (by decide)).2
                  have dr : A.tmps[55]?.getD undef = .slice (some ⟨g, 0, none⟩) 1 1 := ((hd 8 (by decide)).1 55 rfl).trans hx
                  have dy : A.tmps[47]?.getD undef = y4 := ((hd 0 (by decide)).1 47 rfl).trans (hd 0 (by decide)).2
                  have hbw := hC.1 rfl
                  obtain ⟨v', W', hrun, hown', hgrow', hat'⟩ := syms_push W w.heap.size g y4 o1 (la, ch) (own_below HOU.out hbw) hgb hC.2.1.size (by have := HRL.out; omega) 37
                  refine wpOp_step rfl (fun K' hK => ?_)
                  refine step_run_append (by rfl) (.tmp 47) (.tmp 55) 37 rfl y4 (.slice (some ⟨g, 0, none⟩) 1 1) (by show A.tmps.getD 47 undef = _; simpa using dy) (by show A.tmps.getD 55 undef = _; simpa using dr) v' W' hrun ?_
                  refine hK _ _ ⟨v', rfl, hown', fun k' hk' u h => KSN k' hk' u hgrow' (fun g' hg' => by rw [hb0]; exact (HOU.out.lt g' hg').2) h, ⟨fun h => (by cases h), hC.2.1.grown hgrow' hC.2.1.size (fun g' hg' => (HOU.out.lt g' hg').1), grown_tr hC.2.2.1 hgrow', Nat.le_trans hC.2.2.2 hgrow'.size⟩⟩
                · intro x W hC hR
                  have hown' : W.ownsRow w.heap.size 67 2 (x 9) (o1 ++ [(la, ch)]).length (SC (o1 ++ [(la, ch)])) := hR 9 (by decide)
                  have HO9 := hide (show W.ownsRow w.heap.size 67 2 (x 9) (o0 ++ (tx.take (jj + 1)).map fun c => (la, c)).length (SC (o0 ++ (tx.take (jj + 1)).map fun c => (la, c))) by rw [HTK.out]; exact hown')
                  have HB9 := hide hC.2.1
                  have HG9 := hide (HLD.out W hC.2.2.1)
                  clear hown' hC hR
                  refine wpOp_step rfl (fun K' hK => ?_)
                  simp only [putL, Act.put, Nat.zero_add, Nat.reduceAdd, List.setIfInBounds_toArray, List.set_cons_succ, List.set_cons_zero]
                  generalize x 0 = z0
                  generalize x 1 = z1
                  generalize x 2 = z2
                  generalize x 3 = z3
                  generalize x 4 = z4
                  generalize x 5 = z5
                  generalize x 6 = z6
                  generalize x 7 = z7
                  generalize x 8 = z8
                  generalize x 9 = xo at *
                  go_simp
                  refine hK _ _ ?_
                  clear hK K'
                  go_wp2
                  have hj9 := HJM.out
                  exact ⟨⟨jj + 1, xo, by omega, by go_num, rfl, HO9.out, HG9, HB9.out⟩, by simp [intOf]; omega⟩
              · obtain rfl : jj = m := by omega
                have hnt2 : ¬ ((jj : Int) < (jj : Int)) := by omega
                have HO2 := hide (show wj.ownsRow w.heap.size 67 2 y4 (Tb.flat (l.take (k + 1))).length (SC (Tb.flat (l.take (k + 1)))) from by
                  rw [HFT.out]
                  have h9 := HOU.out
                  rwa [List.take_of_length_le (by rw [← HM.out]; exact Nat.le_refl _)] at h9)
                have HL9 := hide (show (Tb.flat (l.take (k + 1))).length ≤ 2048 by
                  rw [HFT.out, List.length_append, List.length_map]
                  have := HQ.out
                  have := HM.out
                  omega)
                clear hown hbel
                go_wp2
                have hk9 := HKI.out
                exact ⟨⟨k + 1, y4, hk9, by go_num, rfl, HO2.out, HL9, HUW.out⟩, by simp [intOf]; omega⟩
        · obtain rfl : k = i := by omega
          have hnt2 : ¬ ((k : Int) < (k : Int)) := by omega
          have htk : l.take k = l := List.take_of_length_le (by have := HN.out; omega)
          rw [htk] at hown HL2
          obtain ⟨A9, c9, hv9, hc9, ht9⟩ := text_of_own hown (by have := HFL.out; omega)
          subst hv9
          have HC9 := hide hc9
          have HT9 := hide ht9
          obtain ⟨fl, hfl⟩ : ∃ fl, fl = (Tb.flat l).length := ⟨_, rfl⟩
          have HFLE := hide hfl
          rw [← hfl]
          have HF := hide (show Tb.symE l = 0 ∧ Tb.symT l = Tb.flat l from ⟨by rw [HSE.out, if_pos HALL.out, if_neg (by have := HL2.out; omega)], by rw [HST.out, if_pos ⟨HALL.out, HL2.out⟩]⟩)
          clear hown hbel htk hc9 ht9 hfl
          go_wp2
          go_ret2
          exact ⟨A9, c9, by rw [HF.out.1, HF.out.2, ← HFLE.out]; rfl, by rw [HF.out.2]; exact HC9.out, by rw [HF.out.2]; exact HT9.out, HB.out⟩
end Go.Proofs.Ytbcfndhnopmbbaa
