/-
  Running text: SameSyms and Runs of the reference, sameRuns of the law, by contract. (Written by tools/gen_txb.py.)
-/
import Derived.Test.YtbcfndhnopmbbaaTxA
import Derived.Test.YtbcfndhnopmbbaaTabQb
import Derived.Test.YtbcfndhnopmbbaaTabPl
import Derived.Test.YtbcfndhnopmbbaaSpecT
import Derived.Deep.QuietTactic
import Derived.BigQuiet
namespace Go.Proofs.Ytbcfndhnopmbbaa
open Go.RowKit
set_option linter.unusedVariables false
set_option linter.unusedSimpArgs false
set_option maxHeartbeats 2000000 in
set_option maxRecDepth 100000 in
theorem sameSyms_any (A B : Option Addr) (c d : Nat) (l : Tb.Text) (w : World) (h1 : TextAt w w.heap.size A l) (h2 : TextAt w w.heap.size B l) :
    Calls Try.prog 19 #[.slice A l.length c, .slice B l.length d] w fun e w' => e = .returned (.bool true) ∧ Below w.heap.size w w' := by
  have HR := hide h1
  have HR2 := hide h2
  have hbig := h1.2
  have HW := hide (Below.refl w.heap.size w)
  obtain ⟨m, hm⟩ : ∃ m, m = l.length := ⟨_, rfl⟩
  have HM := hide hm
  rw [← hm] at hbig ⊢
  have hmi : (m : Int) ≤ 1048576 := by omega
  have hne : ((m : Int) != (m : Int)) = false := by simp
  clear h1 h2 hm
  go_enter Try.func19, Try.ntmps19
  go_wp2
  go_loopw [5] (fun s wr => ∃ (k q : Nat), k ≤ m ∧ s = .int .i64 (k : Int) ∧ wr = w.drewN q) (fun s _ => m - (intOf s).toNat)
  case atStart => exact ⟨0, 0, by omega, rfl, rfl⟩
  case round =>
    obtain ⟨k, q, hk, rfl, rfl⟩ := hrel
    have hk0 : (0 : Int) ≤ (k : Int) := by omega
    by_cases hlt : k < m
    · have hkx : k < l.length := by rw [← HM.out]; exact hlt
      obtain ⟨ad, rfl, hadb, f0, f1⟩ := reads_sym' HR.out k hkx
      obtain ⟨bd, rfl, hbdb, e0, e1⟩ := reads_sym' HR2.out k hkx
      have hk1 : (k : Int) < (m : Int) := by omega
      have HLT := hide hlt
      generalize (Tb.at_ l k).1 = la at *
      generalize (Tb.at_ l k).2.toNat = cn at *
      have hn1 : (la != la) = false := by simp
      have hn2 : ((cn : Int) != (cn : Int)) = false := by simp
      have hn3 : (la == la) = true := by simp
      have hn4 : ((cn : Int) == (cn : Int)) = true := by simp
      clear hkx hlt
      go_wp2
      go_quiet (fail)
      go_wp2
      have hk2 : k < m := HLT.out
      refine ⟨⟨k + 1, q + nq, by omega, rfl, rfl⟩, ?_⟩
      simp only [intOf]
      omega
    · obtain rfl : k = m := by omega
      have hnt : ¬ ((k : Int) < (k : Int)) := by omega
      clear hlt
      go_wp2
      go_ret
      exact ⟨rfl, below_drewN HW.out _⟩
set_option maxHeartbeats 2000000 in
set_option maxRecDepth 100000 in
theorem sameRuns_any (A B : Option Addr) (c d : Nat) (l : List Tb.Run) (w : World) (h1 : RunsAt w w.heap.size A l) (h2 : RunsAt w w.heap.size B l) :
    Calls Try.prog 24 #[.slice A l.length c, .slice B l.length d] w fun e w' => e = .returned (.bool true) ∧ Below w.heap.size w w' := by
  have HR := hide h1
  have HR2 := hide h2
  have hbig := h1.2.1
  have HW := hide (Below.refl w.heap.size w)
  obtain ⟨m, hm⟩ : ∃ m, m = l.length := ⟨_, rfl⟩
  have HM := hide hm
  rw [← hm] at hbig ⊢
  have hmi : (m : Int) ≤ 1048576 := by omega
  have hne : ((m : Int) != (m : Int)) = false := by simp
  clear h1 h2 hm
  go_enter Try.func24, Try.ntmps24
  go_wp2
  go_loopw [5] (fun s wr => ∃ (k q : Nat), k ≤ m ∧ s = .int .i64 (k : Int) ∧ wr = w.drewN q) (fun s _ => m - (intOf s).toNat)
  case atStart => exact ⟨0, 0, by omega, rfl, rfl⟩
  case round =>
    obtain ⟨k, q, hk, rfl, rfl⟩ := hrel
    have hk0 : (0 : Int) ≤ (k : Int) := by omega
    by_cases hlt : k < m
    · have hkx : k < l.length := by rw [← HM.out]; exact hlt
      obtain ⟨ad, rfl, hadb, f0, f1⟩ := reads_run HR.out.1 k hkx
      obtain ⟨bd, rfl, hbdb, e0, e1⟩ := reads_run HR2.out.1 k hkx
      have hk1 : (k : Int) < (m : Int) := by omega
      have HLT := hide hlt
      generalize l[k].1 = la at *
      generalize S l[k].2 = sv at *
      have hn1 : (la != la) = false := by simp
      have hn3 : (la == la) = true := by simp
      have hn4 : (sv.toList == sv.toList) = true := by simp
      clear hkx hlt
      go_wp2
      go_quiet (fail)
      go_wp2
      have hk2 : k < m := HLT.out
      refine ⟨⟨k + 1, q + nq, by omega, rfl, rfl⟩, ?_⟩
      simp only [intOf]
      omega
    · obtain rfl : k = m := by omega
      have hnt : ¬ ((k : Int) < (k : Int)) := by omega
      clear hlt
      go_wp2
      go_ret
      exact ⟨rfl, below_drewN HW.out _⟩
def ksRu (base : Nat) (ad : Addr) (n c i : Nat) (la : Int) (A5 : Option Addr) (n5 c5 : Nat) (sv : ByteArray) (b0 : Nat) (y3 : Value) (rs : List Tb.Run) (r : Tb.Run) : List (World → Value → Prop) := [gIs (y3), gIs (.slice (some ad) n c), gIs (.int .i64 (i : Int)), gIs (.pointer (some (ad.add (i * 2)))), gIs (.pointer (some (ad.add (i * 2)))), gIs (.int .i64 la), gIs (.slice A5 n5 c5), gIs (.string sv), gIs (.agg #[.int .i64 la, .string sv]), gOne b0 91 [.int .i64 la, .string sv], (fun W v => W.ownsRow base 91 2 v (rs ++ [r]).length (RNC (rs ++ [r])))]
theorem ksRu_n (base : Nat) (ad : Addr) (n c i : Nat) (la : Int) (A5 : Option Addr) (n5 c5 : Nat) (sv : ByteArray) (b0 : Nat) (y3 : Value) (rs : List Tb.Run) (r : Tb.Run) : ∀ j, j ≠ 10 → StabN b0 ((ksRu base ad n c i la A5 n5 c5 sv b0 y3 rs r).getD j gAny)
  | 0, _ => stabn_is _ _
  | 1, _ => stabn_is _ _
  | 2, _ => stabn_is _ _
  | 3, _ => stabn_is _ _
  | 4, _ => stabn_is _ _
  | 5, _ => stabn_is _ _
  | 6, _ => stabn_is _ _
  | 7, _ => stabn_is _ _
  | 8, _ => stabn_is _ _
  | 9, _ => stabn_one _ _ _
  | 10, h => absurd rfl h
  | _ + 11, _ => stabn_any _
theorem ksRu_b (base : Nat) (ad : Addr) (n c i : Nat) (la : Int) (A5 : Option Addr) (n5 c5 : Nat) (sv : ByteArray) (b0 : Nat) (y3 : Value) (rs : List Tb.Run) (r : Tb.Run) (j : Nat) : Stab ((ksRu base ad n c i la A5 n5 c5 sv b0 y3 rs r).getD j gAny) := by
  by_cases h : j = 10
  · subst h
    exact fun W W' v hb h1 => own_below h1 hb
  · exact (ksRu_n base ad n c i la A5 n5 c5 sv b0 y3 rs r j h).stab
theorem runs_of_own {w : World} {b n : Nat} {v : Value} {l : List Tb.Run} (h : w.ownsRow b 91 2 v n (RNC l)) (hl : l.length ≤ 100000) (hf : (Tb.flat l).length ≤ 100000) :
    ∃ A c, v = .slice A l.length c ∧ l.length ≤ c ∧ RunsAt w w.heap.size A l := by
  obtain ⟨A, c, rfl, hnc, _⟩ := own_slice h
  have hn : n = l.length := by have := h.1; rw [RNC_len] at this; omega
  subst hn
  exact ⟨A, c, rfl, hnc, Reads.of_own h, hl, hf⟩
set_option maxHeartbeats 8000000 in
set_option maxRecDepth 100000 in
theorem refRuns_any (A : Option Addr) (c : Nat) (l : Tb.Text) (w : World) (hr : TextAt w w.heap.size A l) (hl : l.length ≤ 100000) :
    Calls Try.prog 14 #[.slice A l.length c] w fun e w' => ∃ A' c', e = .returned (.slice A' (Tb.runsT l).length c') ∧ (Tb.runsT l).length ≤ c' ∧ RunsAt w' w'.heap.size A' (Tb.runsT l) ∧ Below w.heap.size w w' := by
  have CG := hide (refGood_any A c l w hr)
  have HR := hide hr
  have HRU := hide (show Tb.runsT l = if l.all Tb.symOk = true then Tb.groups l else [] from rfl)
  have HW := hide (Below.refl w.heap.size w)
  generalize l.all Tb.symOk = al at *
  obtain ⟨n, hn⟩ : ∃ n, n = l.length := ⟨_, rfl⟩
  have HN := hide hn
  rw [← hn] at hl CG ⊢
  have hni : (n : Int) ≤ 1048576 := by omega
  clear hr hn
  go_enter Try.func14, Try.ntmps14
  cases al with
  | false =>
    have HF := hide (show Tb.runsT l = [] by rw [HRU.out]; rfl)
    go_wp2_with (go_at_call 44; refine (unhide CG).mono ?_; rintro e w1 ⟨rfl, rfl⟩)
    go_ret
    exact ⟨none, 0, by rw [HF.out]; rfl, by rw [HF.out]; exact Nat.le_refl _, by rw [HF.out]; exact ⟨⟨rfl, fun h => absurd h (by simp)⟩, by simp, by simp [Tb.flat]⟩, HW.out⟩
  | true =>
    have HF := hide (show Tb.runsT l = Tb.groups l by rw [HRU.out]; rfl)
    have HST := hide (Tb.Inv.start l)
    clear HRU
    go_wp2_with (go_at_call 44; refine (unhide CG).mono ?_; rintro e w1 ⟨rfl, rfl⟩)
    go_loopw [3, 4] (fun s3 s wr => ∃ (i : Nat) (rs : List Tb.Run) (y3 : Value), i ≤ n ∧ s = .int .i64 (i : Int) ∧ y3 = s3 ∧ wr.ownsRow w.heap.size 91 2 y3 rs.length (RNC rs) ∧ Hid (Tb.Inv l i rs []) ∧ Hid (rs.length ≤ i) ∧ Below w.heap.size w wr) (fun _ s _ => n - (intOf s).toNat)
    case atStart => exact ⟨0, [], _, by omega, rfl, rfl, own_nil _ _ _ _, HST, Nat.le_refl _, HW.out⟩
    case round =>
      obtain ⟨i, rs, y3, hi, rfl, rfl, hown, HINV, HRL0, hbel⟩ := hrel
      obtain ⟨wd, rfl⟩ : ∃ wd, wd = wr := ⟨wr, rfl⟩
      have HO := hide hown
      have HB := hide hbel
      have hi0 : (0 : Int) ≤ (i : Int) := by omega
      by_cases hin : i < n
      · have hini : (i : Int) < (n : Int) := by omega
        obtain ⟨ad, rfl, hadb, hc0, _⟩ := reads_sym' HR.out i (by rw [← HN.out]; exact hin)
        have HLD := hide (fun (W : World) (hb : Below w.heap.size w W) => (show W.cell? (ad.add (i * 2)) = some (.int .i64 (Tb.at_ l i).1) by rw [hb.cell (by rw [block_of_add]; exact hadb)]; exact hc0))
        obtain ⟨la, hla⟩ : ∃ la, la = (Tb.at_ l i).1 := ⟨_, rfl⟩
        have HLA := hide hla
        have HDD := hide (Below.refl wd.heap.size wd)
        have HIN0 := hide hin
        rw [← hla] at HLD
        clear hown hbel hc0 hla hin
        go_wp2
        go_loopw [5, 6] (fun s5 s wr => ∃ (k : Nat) (tx : List UInt8) (y5 : Value), i ≤ k ∧ k ≤ n ∧ s = .int .i64 (k : Int) ∧ y5 = s5 ∧ wr.ownsRow wd.heap.size 5 1 y5 tx.length (BV tx) ∧ Hid ((k = i ∧ tx = []) ∨ (i < k ∧ Tb.groups (l.take k) = rs ++ [(la, tx)])) ∧ Hid (tx.length ≤ k) ∧ Below wd.heap.size wd wr) (fun _ s _ => n - (intOf s).toNat)
        case atStart => exact ⟨i, [], _, Nat.le_refl _, hi, rfl, rfl, own_nil _ _ _ _, .inl ⟨rfl, rfl⟩, Nat.zero_le _, HDD.out⟩
        case round =>
          obtain ⟨k, tx, y5, hik, hkn, rfl, rfl, hown, HJ, HTL, hbel⟩ := hrel
          obtain ⟨wk, rfl⟩ : ∃ wk, wk = wr := ⟨wr, rfl⟩
          have HO5 := hide hown
          have HBK := hide hbel
          have HWK := hide (HB.out.trans (hbel.mono HB.out.size))
          have hk0 : (0 : Int) ≤ (k : Int) := by omega
          have hlk : wk.cell? (ad.add (i * 2)) = some (.int .i64 la) := HLD.out wk HWK.out
          obtain ⟨go, hgo⟩ : ∃ go : Bool, go = (decide (k < n) && decide ((Tb.at_ l k).1 = la)) := ⟨_, rfl⟩
          have HGO := hide hgo
          clear hown hbel
          go_upto_region 8 with fail
          go_cut [31] (fun s31 wx => s31 = .bool go ∧ ∃ z, wx = wk.drewN z)
          case first =>
            by_cases hkn2 : k < n
            · have hkni : (k : Int) < (n : Int) := by omega
              obtain ⟨ad', he, _, hk1, _⟩ := reads_sym' HR.out k (by rw [← HN.out]; exact hkn2)
              injection he with he
              subst he
              have hkc : wk.cell? (ad.add (k * 2)) = some (.int .i64 (Tb.at_ l k).1) := by rw [HWK.out.cell (by rw [block_of_add]; exact hadb)]; exact hk1
              rw [decide_eq_true hkn2, Bool.true_and] at hgo
              generalize (Tb.at_ l k).1 = lk at *
              by_cases he : lk = la
              · have heb : (lk == la) = true := by simp [he]
                rw [decide_eq_true he] at hgo
                have HG2 := hide hgo
                clear hgo he hk1 hkn2
                go_wp2
                go_quiet (fail)
                go_wp2
                go_meet
                exact ⟨by rw [HG2.out], _, rfl⟩
              · have heb : (lk == la) = false := by simp [he]
                rw [decide_eq_false he] at hgo
                have HG2 := hide hgo
                clear hgo he hk1 hkn2
                go_wp2
                go_quiet (fail)
                go_wp2
                go_meet
                exact ⟨by rw [HG2.out], _, rfl⟩
            · have hknd : decide ((k : Int) < (n : Int)) = false := decide_eq_false (by omega)
              have hknd2 : decide (k < n) = false := decide_eq_false hkn2
              rw [decide_eq_false hkn2, Bool.false_and] at hgo
              have HG2 := hide hgo
              clear hgo
              go_wp2
              go_quiet (fail)
              go_wp2
              go_meet
              exact ⟨by rw [HG2.out], _, rfl⟩
          case rest =>
            obtain ⟨rfl, z, rfl⟩ := hcut
            clear hgo
            cases go with
            | true =>
              have h2 : (decide (k < n) && decide ((Tb.at_ l k).1 = la)) = true := HGO.out.symm
              rw [Bool.and_eq_true] at h2
              have hkn2 : k < n := of_decide_eq_true h2.1
              have hlk2 : (Tb.at_ l k).1 = la := of_decide_eq_true h2.2
              have hkni : (k : Int) < (n : Int) := by omega
              have hkl : k < l.length := by have := HN.out; omega
              obtain ⟨ad', he, _, hk1, hk2⟩ := reads_sym' HR.out k hkl
              injection he with he
              subst he
              have hkc : (wk.drewN z).cell? ⟨(ad.add (k * 2)).block, (ad.add (k * 2)).off + 1, none⟩ = some (.int .u8 ((Tb.at_ l k).2.toNat : Int)) := by rw [(below_drewN HWK.out z).cell (by show (ad.add (k * 2)).block < _; rw [block_of_add]; exact hadb)]; exact hk2
              have HGN := hide (show Tb.groups (l.take (k + 1)) = rs ++ [(la, tx ++ [(Tb.at_ l k).2])] from by
                rcases HJ.out with ⟨h3, h4⟩ | ⟨h3, h4⟩
                · subst h3 h4
                  rw [HINV.out.1 hkl, ← HLA.out]
                · rw [Tb.groups_take l k hkl, h4, Tb.gstep_snoc, if_pos hlk2.symm])
              obtain ⟨v8, W8, hrun8, ho8, hg8, _⟩ := bytes_push ((wk.drewN z).alloc (.cells (BV [(Tb.at_ l k).2]).toArray 5)) wd.heap.size (wk.drewN z).heap.size y5 tx (Tb.at_ l k).2 (own_below (own_drewN HO5.out z) (below_alloc _ _)) (Blk.new _ _ _) (by have := HBK.out.size; simp; omega) (by have := HTL.out; omega) 26
              have HRUN8 := hide hrun8
              have HO8 := hide ho8
              have HB8 := hide (((below_drewN HBK.out z).trans ((below_alloc (wk.drewN z) (.cells (BV [(Tb.at_ l k).2]).toArray 5)).mono HBK.out.size)).grown hg8 (by have := HBK.out.size; simp; omega) (fun g hg => (HO5.out.lt g hg).1))
              have HTL8 := hide (show (tx ++ [(Tb.at_ l k).2]).length ≤ k + 1 by rw [List.length_append]; have := HTL.out; simp; omega)
              clear hrun8 ho8 hg8 hk1 hk2 h2 hlk2 hkl HJ HO5 HTL
              generalize tx ++ [(Tb.at_ l k).2] = tx8 at *
              generalize (Tb.at_ l k).2 = ck at *
              clear hkn2
              go_wp2_with (at_builtin; refine Lib.wpList_append_run _ rfl _ _ _ _ rfl _ _ rfl rfl _ _ HRUN8.out ?_)
              exact ⟨⟨k + 1, tx8, v8, by omega, by omega, by go_num, rfl, HO8.out, .inr ⟨by omega, HGN.out⟩, HTL8, HB8.out⟩, by simp [intOf]; omega⟩
            | false =>
              have h2 : (decide (k < n) && decide ((Tb.at_ l k).1 = la)) = false := HGO.out.symm
              have hki : i < k := by
                rcases Nat.eq_or_lt_of_le hik with h3 | h3
                · exfalso
                  rw [← h3, decide_eq_true HIN0.out, Bool.true_and] at h2
                  exact absurd HLA.out.symm (of_decide_eq_false h2)
                · exact h3
              have HIK := hide hki
              have hgr : Tb.groups (l.take k) = rs ++ [(la, tx)] := by
                rcases HJ.out with ⟨h3, _⟩ | ⟨_, h4⟩
                · omega
                · exact h4
              obtain ⟨r, hrr⟩ : ∃ r : Tb.Run, r = (la, tx) := ⟨_, rfl⟩
              rw [← hrr] at hgr
              have HIN := hide (show Tb.Inv l k (rs ++ [r]) [] from by
                refine ⟨fun h3 => ?_, fun h3 => ?_⟩
                · have h4 : ¬ (Tb.at_ l k).1 = la := by
                    rw [decide_eq_true (by have := HN.out; omega), Bool.true_and] at h2
                    exact of_decide_eq_false h2
                  rw [Tb.groups_take l k h3, hgr, Tb.gstep_snoc, if_neg (by rw [hrr]; exact fun e => h4 e.symm)]
                  rfl
                · rw [← hgr, List.take_of_length_le (by omega)])
              obtain ⟨sv, hsv⟩ : ∃ sv, sv = S tx := ⟨_, rfl⟩
              have HRC := hide (show [Value.int .i64 r.1, .string (S r.2)].toArray = [Value.int .i64 la, .string sv].toArray by rw [hrr, hsv])
              have HRL := hide (show rs.length ≤ i from HRL0.out)
              obtain ⟨U, hU⟩ : ∃ U, U = wk.drewN z := ⟨_, rfl⟩
              have HUK := hide (show Below wd.heap.size wd U by rw [hU]; exact below_drewN HBK.out z)
              have HUW := hide (HB.out.trans (HUK.out.mono HB.out.size))
              have HO5U := hide (show U.ownsRow wd.heap.size 5 1 y5 tx.length (BV tx) by rw [hU]; exact own_drewN HO5.out z)
              have HOU := hide (own_below HO.out HUK.out)
              obtain ⟨A5, c5, hv5, _⟩ := own_slice HO5U.out
              subst hv5
              have HCV := hide (fun (W : World) (hg : U.grownBy W y3.ownBlock) => (show (convert 26 9 (.slice A5 tx.length c5)).run Try.prog W = .ok (.string sv) W from by
                rw [hsv]
                have ho := own_grownOff HO5U.out hg (fun g hg e => by
                  have h5 := (HO.out.lt g hg).2
                  have h6 := (HO5U.out.lt g e).1
                  omega)
                exact run_conv_reads (P := Try.prog) (Reads.of_own ho) _ _ _ _ Try.underlying26 Try.underlying5 Try.underlying9))
              obtain ⟨n5, hn5⟩ : ∃ n5, n5 = tx.length := ⟨_, rfl⟩
              rw [← hn5] at HCV ⊢
              rw [← hU]
              clear hU h2 hgr hrr hsv hn5 HJ HGO HO5 HBK HWK hki hlk
              go_upto_region 11 with fail
              obtain ⟨b0, hb0⟩ : ∃ b0, b0 = U.heap.size := ⟨_, rfl⟩
              refine wp_region_threeT 10 11 [some 42, some 43, some 44, some 45, some 46, some 47, some 48, some 49, some 50, some 51, some 52] (gAll (ksRu w.heap.size ad n c i la A5 n5 c5 sv b0 y3 rs r))
                (fun b W => (b = false → Below U.heap.size U W) ∧ Below w.heap.size w W ∧ U.grownBy W y3.ownBlock ∧ b0 ≤ W.heap.size) (by decide) (by kernel_rfl) (by kernel_rfl) (by kernel_rfl) (by rfl) (by decide) (by rfl) ⟨fun _ => (Below.refl _ _).drew, HUW.out.drew, only_drew (World.grownBy.refl _ _), by rw [hb0]; exact Nat.le_refl _⟩ ?_ ?_ ?_
              · intro j hj hjm b A x W hC hd hr
                have stay : ∀ W', Below W.heap.size W W' → (b = false → Below U.heap.size U W') ∧ Below w.heap.size w W' ∧ U.grownBy W' y3.ownBlock ∧ b0 ≤ W'.heap.size := fun W' hb => ⟨fun h => (hC.1 h).trans (hb.mono (hC.1 h).size), hC.2.1.trans (hb.mono hC.2.1.size), grown_below hC.2.2.1 hb, Nat.le_trans hC.2.2.2 hb.size⟩
                have KSB : ∀ k' u {W'}, Below W.heap.size W W' → gAll (ksRu w.heap.size ad n c i la A5 n5 c5 sv b0 y3 rs r) k' u W → gAll (ksRu w.heap.size ad n c i la A5 n5 c5 sv b0 y3 rs r) k' u W' := fun k' u W' hb h => ksRu_b w.heap.size ad n c i la A5 n5 c5 sv b0 y3 rs r k' W W' u hb h
                have KSN : ∀ k', k' ≠ 10 → ∀ u {W' row}, W.grownBy W' row → (∀ g, row = some g → g < b0) → gAll (ksRu w.heap.size ad n c i la A5 n5 c5 sv b0 y3 rs r) k' u W → gAll (ksRu w.heap.size ad n c i la A5 n5 c5 sv b0 y3 rs r) k' u W' := fun k' hk u W' row hg hr h => ksRu_n w.heap.size ad n c i la A5 n5 c5 sv b0 y3 rs r k' hk W W' row u hg hr h
                have hj' : j = 0 ∨ j = 1 ∨ j = 2 ∨ j = 3 ∨ j = 4 ∨ j = 5 ∨ j = 6 ∨ j = 7 ∨ j = 8 ∨ j = 9 := by omega
                rcases hj' with rfl | rfl | rfl | rfl | rfl | rfl | rfl | rfl | rfl | rfl
                · have e3 : A.tmps[3]?.getD undef = y3 := hr 3 (by decide)
                  refine wpOp_step rfl (fun K' hK => ?_)
                  go_simp
                  exact hK _ _ ⟨_, rfl, rfl, fun _ _ _ h => h, hC⟩
                · have e0 : A.tmps[0]?.getD undef = .slice (some ad) n c := hr 0 (by decide)
                  refine wpOp_step rfl (fun K' hK => ?_)
                  go_simp
                  exact hK _ _ ⟨_, rfl, rfl, fun _ _ _ h => h, hC⟩
                · have e4 : A.tmps[4]?.getD undef = .int .i64 (i : Int) := hr 4 (by decide)
                  refine wpOp_step rfl (fun K' hK => ?_)
                  go_simp
                  exact hK _ _ ⟨_, rfl, rfl, fun _ _ _ h => h, hC⟩
                · have d1 : A.tmps[43]?.getD undef = .slice (some ad) n c := ((hd 1 (by decide)).1 43 rfl).trans (hd 1 (by decide)).2
                  have d2 : A.tmps[44]?.getD undef = .int .i64 (i : Int) := ((hd 2 (by decide)).1 44 rfl).trans (hd 2 (by decide)).2
                  refine wpOp_step rfl (fun K' hK => ?_)
                  go_simp
                  exact hK _ _ ⟨_, rfl, rfl, fun _ _ _ h => h, hC⟩
                · have d3 : A.tmps[45]?.getD undef = .pointer (some (ad.add (i * 2))) := ((hd 3 (by decide)).1 45 rfl).trans (hd 3 (by decide)).2
                  refine wpOp_step rfl (fun K' hK => ?_)
                  go_simp
                  exact hK _ _ ⟨_, rfl, rfl, fun _ _ _ h => h, hC⟩
                · have d4 : A.tmps[46]?.getD undef = .pointer (some (ad.add (i * 2))) := ((hd 4 (by decide)).1 46 rfl).trans (hd 4 (by decide)).2
                  refine wpOp_step rfl (fun K' hK => ?_)
                  have s0 : W.cell? (ad.add (i * 2)) = some (.int .i64 la) := HLD.out W hC.2.1
                  go_simp
                  exact hK _ _ ⟨_, rfl, rfl, fun _ _ _ h => h, hC⟩
                · have e5 : A.tmps[5]?.getD undef = .slice A5 n5 c5 := hr 5 (by decide)
                  refine wpOp_step rfl (fun K' hK => ?_)
                  go_simp
                  exact hK _ _ ⟨_, rfl, rfl, fun _ _ _ h => h, hC⟩
                · have d6 : A.tmps[48]?.getD undef = .slice A5 n5 c5 := ((hd 6 (by decide)).1 48 rfl).trans (hd 6 (by decide)).2
                  refine wpOp_step rfl (fun K' hK => ?_)
                  have hcv := HCV.out W hC.2.2.1
                  go_simp
                  exact hK _ _ ⟨_, rfl, rfl, fun _ _ _ h => h, hC⟩
                · have d5 : A.tmps[47]?.getD undef = .int .i64 la := ((hd 5 (by decide)).1 47 rfl).trans (hd 5 (by decide)).2
                  have d7 : A.tmps[49]?.getD undef = .string sv := ((hd 7 (by decide)).1 49 rfl).trans (hd 7 (by decide)).2
                  refine wpOp_step rfl (fun K' hK => ?_)
                  go_simp
                  exact hK _ _ ⟨_, rfl, rfl, fun _ _ _ h => h, hC⟩
                · have d8 : A.tmps[50]?.getD undef = .agg #[.int .i64 la, .string sv] := ((hd 8 (by decide)).1 50 rfl).trans (hd 8 (by decide)).2
                  refine wpOp_step rfl (fun K' hK => ?_)
                  go_simp
                  exact hK _ _ ⟨_, rfl, ⟨W.heap.size, rfl, hC.2.2.2, Blk.new W _ _⟩, fun k' _ u h => KSB k' u (below_alloc W _) h, stay _ (below_alloc W _)⟩
              · intro A x W hC hd hr
                have stay : ∀ W', Below W.heap.size W W' → (false = false → Below U.heap.size U W') ∧ Below w.heap.size w W' ∧ U.grownBy W' y3.ownBlock ∧ b0 ≤ W'.heap.size := fun W' hb => ⟨fun h => (hC.1 h).trans (hb.mono (hC.1 h).size), hC.2.1.trans (hb.mono hC.2.1.size), grown_below hC.2.2.1 hb, Nat.le_trans hC.2.2.2 hb.size⟩
                have KSB : ∀ k' u {W'}, Below W.heap.size W W' → gAll (ksRu w.heap.size ad n c i la A5 n5 c5 sv b0 y3 rs r) k' u W → gAll (ksRu w.heap.size ad n c i la A5 n5 c5 sv b0 y3 rs r) k' u W' := fun k' u W' hb h => ksRu_b w.heap.size ad n c i la A5 n5 c5 sv b0 y3 rs r k' W W' u hb h
                have KSN : ∀ k', k' ≠ 10 → ∀ u {W' row}, W.grownBy W' row → (∀ g, row = some g → g < b0) → gAll (ksRu w.heap.size ad n c i la A5 n5 c5 sv b0 y3 rs r) k' u W → gAll (ksRu w.heap.size ad n c i la A5 n5 c5 sv b0 y3 rs r) k' u W' := fun k' hk u W' row hg hr h => ksRu_n w.heap.size ad n c i la A5 n5 c5 sv b0 y3 rs r k' hk W W' row u hg hr h
                obtain ⟨g, hx, hg0, hgb⟩ : gOne b0 91 [.int .i64 la, .string sv] W (x 9) := (hd 9 (by decide)).2
                have dr : A.tmps[51]?.getD undef = .slice (some ⟨g, 0, none⟩) 1 1 := ((hd 9 (by decide)).1 51 rfl).trans hx
                have dy : A.tmps[42]?.getD undef = y3 := ((hd 0 (by decide)).1 42 rfl).trans (hd 0 (by decide)).2
                have hbw := hC.1 rfl
                obtain ⟨v', W', hrun, hown', hgrow', hat'⟩ := runs_push W w.heap.size g y3 rs r (own_below HOU.out hbw) (by have h9 := HRC.out; rw [← h9] at hgb; exact hgb) hC.2.1.size (by have := HRL.out; omega) 36
                refine wpOp_step rfl (fun K' hK => ?_)
                refine step_run_append (by rfl) (.tmp 42) (.tmp 51) 36 rfl y3 (.slice (some ⟨g, 0, none⟩) 1 1) (by show A.tmps.getD 42 undef = _; simpa using dy) (by show A.tmps.getD 51 undef = _; simpa using dr) v' W' hrun ?_
                refine hK _ _ ⟨v', rfl, hown', fun k' hk' u h => KSN k' hk' u hgrow' (fun g' hg' => by rw [hb0]; exact (HOU.out.lt g' hg').2) h, ⟨fun h => (by cases h), hC.2.1.grown hgrow' hC.2.1.size (fun g' hg' => (HOU.out.lt g' hg').1), grown_tr hC.2.2.1 hgrow', Nat.le_trans hC.2.2.2 hgrow'.size⟩⟩
              · intro x W hC hR
                have hown' : W.ownsRow w.heap.size 91 2 (x 10) (rs ++ [r]).length (RNC (rs ++ [r])) := hR 10 (by decide)
                have HO9 := hide hown'
                have HB9 := hide hC.2.1
                clear hown' hC hR
                refine wpOp_step rfl (fun K' hK => ?_)
                simp only [putL, Act.put, Nat.zero_add, Nat.reduceAdd, List.setIfInBounds_toArray, List.set_cons_succ, List.set_cons_zero]
                generalize x 0 = z0
                generalize x 1 = z1
                generalize x 2 = z2
                generalize x 3 = z3
                generalize x 4 = z4
                generalize x 5 = z5
                generalize x 6 = z6
                generalize x 7 = z7
                generalize x 8 = z8
                generalize x 9 = z9
                generalize x 10 = x10 at *
                go_simp
                refine hK _ _ ?_
                clear hK K'
                go_wp2
                have hik := HIK.out
                exact ⟨⟨k, rs ++ [r], _, hkn, rfl, rfl, HO9.out, HIN.out, by have := HRL.out; simp [Hid]; omega, HB9.out⟩, by simp [intOf]; omega⟩
      · obtain rfl : i = n := by omega
        have hg : rs = Tb.groups l := HINV.out.2 (by have := HN.out; omega)
        have hlen := Tb.groups_len l
        obtain ⟨A9, c9, hv9, hc9, hr9⟩ := runs_of_own hown (by have := HRL0.out; omega) (by rw [hg, Tb.flat_groups]; have := HN.out; omega)
        subst hv9
        have hnt : ¬ ((i : Int) < (i : Int)) := by omega
        have HC9 := hide hc9
        have HR9 := hide hr9
        have HG9 := hide hg
        clear hown hbel hg hc9 hr9 hlen
        go_wp2
        go_ret
        exact ⟨A9, c9, by rw [HF.out, ← HG9.out]; rfl, by rw [HF.out, ← HG9.out]; exact HC9.out, by rw [HF.out, ← HG9.out]; exact HR9.out, HB.out⟩
end Go.Proofs.Ytbcfndhnopmbbaa
