/-
  Running text: Runs of the program, by contract.
-/
import Derived.Test.YtbcfndhnopmbbaaTxB
namespace Go.Proofs.Ytbcfndhnopmbbaa
open Go.RowKit
set_option linter.unusedVariables false
set_option linter.unusedSimpArgs false
theorem own_own_ne {w : World} {b b' e e' size size' n n' : Nat} {v v' : Value} {xs xs' : List Value} (h : w.ownsRow b e size v n xs) (h' : w.ownsRow b' e' size' v' n' xs') (hne : e ≠ e') (g : Nat) (hg : v'.ownBlock = some g) : v.ownBlock ≠ some g := by
  rcases h'.2 with ⟨h0, _⟩ | ⟨g', cap, cur, hv, _, hh, _⟩
  · rw [h0] at hg
    cases hg
  · rw [hv] at hg
    have hg : some g' = some g := hg
    injection hg with hg
    subst hg
    exact own_blk_ne h (show Blk w g' e' cur from hh) hne
set_option maxHeartbeats 8000000 in
set_option maxRecDepth 100000 in
theorem runs_any (A : Option Addr) (c : Nat) (l : Tb.Text) (w : World) (hr : TextAt w w.heap.size A l) (hl : l.length ≤ 100000) :
    Calls Try.prog 20 #[.slice A l.length c] w fun e w' => ∃ A' c', e = .returned (.slice A' (Tb.runsT l).length c') ∧ (Tb.runsT l).length ≤ c' ∧ RunsAt w' w'.heap.size A' (Tb.runsT l) ∧ Below w.heap.size w w' := by
  have CG := hide (every_valid A c l w hr)
  have HR := hide hr
  have HRU := hide (show Tb.runsT l = if l.all Tb.symOk = true then Tb.groups l else [] from rfl)
  generalize l.all Tb.symOk = al at *
  obtain ⟨n, hn⟩ : ∃ n, n = l.length := ⟨_, rfl⟩
  have HN := hide hn
  rw [← hn] at hl CG ⊢
  have hni : (n : Int) ≤ 1048576 := by omega
  clear hr hn
  go_enter Try.func20, Try.ntmps20
  cases al with
  | false =>
    have HF := hide (show Tb.runsT l = [] by rw [HRU.out]; rfl)
    go_wp2_with (go_at_call 49; refine (unhide CG).mono ?_; rintro e w1 ⟨rfl, hb1⟩; have B1 := hide hb1; clear hb1)
    go_ret
    exact ⟨none, 0, by rw [HF.out]; rfl, by rw [HF.out]; exact Nat.le_refl _, by rw [HF.out]; exact ⟨⟨rfl, fun h => absurd h (by simp)⟩, by simp, by simp [Tb.flat]⟩, B1.out⟩
  | true =>
    have HF := hide (show Tb.runsT l = Tb.groups l by rw [HRU.out]; rfl)
    have HST := hide (Tb.Inv.start l)
    clear HRU
    go_wp2_with (go_at_call 49; refine (unhide CG).mono ?_; rintro e V ⟨rfl, hb1⟩; have HV := hide hb1; clear hb1)
    clear CG
    have HVV := hide (Below.refl V.heap.size V)
    go_loopw [3, 4, 12] (fun s3 s4 s wr => ∃ (i : Nat) (rs : List Tb.Run) (tx : List UInt8) (y3 y4 : Value), i ≤ n ∧ s = .int .i64 (i : Int) ∧ y3 = s3 ∧ y4 = s4 ∧ wr.ownsRow V.heap.size 91 2 y3 rs.length (RNC rs) ∧ wr.ownsRow V.heap.size 5 1 y4 tx.length (BV tx) ∧ Hid (Tb.Inv l i rs tx) ∧ Hid (rs.length ≤ i ∧ tx.length ≤ i) ∧ Below V.heap.size V wr) (fun _ _ s _ => n - (intOf s).toNat)
    case atStart => exact ⟨0, [], [], _, _, by omega, rfl, rfl, rfl, own_nil _ _ _ _, own_nil _ _ _ _, HST, ⟨Nat.le_refl _, Nat.le_refl _⟩, HVV.out⟩
    case round =>
      obtain ⟨i, rs, tx, y3, y4, hi, rfl, rfl, rfl, hown, hown4, HINV, HLEN, hbel⟩ := hrel
      obtain ⟨wd, rfl⟩ : ∃ wd, wd = wr := ⟨wr, rfl⟩
      have HO := hide hown
      have HO4 := hide hown4
      have HB := hide hbel
      have hbs := hbel.size
      have HWD := hide (HV.out.trans (hbel.mono HV.out.size))
      have hi0 : (0 : Int) ≤ (i : Int) := by omega
      by_cases hin : i < n
      · have hini : (i : Int) < (n : Int) := by omega
        have hil : i < l.length := by rw [← HN.out]; exact hin
        obtain ⟨ad, rfl, hadb, hc0, hc1⟩ := reads_sym HR.out i hil
        have HEC := hide (sym_cells (Tb.at_ l i) wd ad i (by rw [HWD.out.cell (by rw [block_of_add]; exact hadb)]; exact hc0) (by rw [HWD.out.cell (by rw [block_of_add]; exact hadb)]; exact hc1))
        have HIN0 := hide hin
        have HCL := hide (Tb.Inv.close HINV.out hil)
        have HMO := hide (fun h1 h2 => Tb.Inv.more HINV.out (show i + 1 < l.length from h1) h2)
        obtain ⟨la, hla⟩ : ∃ la, la = (Tb.at_ l i).1 := ⟨_, rfl⟩
        obtain ⟨ch, hch⟩ : ∃ ch, ch = (Tb.at_ l i).2 := ⟨_, rfl⟩
        rw [← hla, ← hch] at HEC HCL
        rw [← hla, ← hch] at HMO
        clear hown hown4 hbel hc0 hc1 hin hla hch
        go_upto_region 8 with (with_reducible refine wpList_load_at rfl 67 (.tmp 15) rfl (ad.add (i * 2)) rfl [.int .i64 la, .int .u8 (ch.toNat : Int)] _ HEC.out Try.underlying67 rfl ?c1 ?_)
        case c1 => exact symInfo
        refine name_world fun X hX => ?_
        have X6 := hide (show Blk X wd.heap.size 67 #[.int .i64 la, .int .u8 (ch.toNat : Int)] by rw [← hX.out]; exact Blk.new wd _ _)
        have HX := hide (show Below wd.heap.size wd X by rw [← hX.out]; exact below_alloc wd _)
        have HBX := hide (HB.out.trans (HX.out.mono hbs))
        have hxs := HBX.out.size
        have hg6 := X6.out.lt
        have HOX := hide (own_below HO.out HX.out)
        have HO4X := hide (own_below HO4.out HX.out)
        have h3b : ∀ g, y3.ownBlock = some g → g < wd.heap.size := fun g hg => (HO.out.lt g hg).2
        have h4b : ∀ g, y4.ownBlock = some g → g < wd.heap.size := fun g hg => (HO4.out.lt g hg).2
        have h34 : ∀ g, y4.ownBlock = some g → y3.ownBlock ≠ some g := own_own_ne HO.out HO4.out (by decide)
        obtain ⟨g6, hg6e⟩ : ∃ g6, g6 = wd.heap.size := ⟨_, rfl⟩
        rw [← hg6e] at X6 hg6 h3b h4b ⊢
        clear hX HEC HO HO4 HB hg6e
        have x1 : X.cell? ⟨g6, 1, none⟩ = some (.int .u8 (ch.toNat : Int)) := X6.out.cell 1
        obtain ⟨v8, W8, hrun8, ho8, hg8, hat8⟩ := bytes_push (X.alloc (.cells (BV [ch]).toArray 5)) V.heap.size X.heap.size y4 tx ch (own_below HO4X.out (below_alloc X _)) (Blk.new X _ _) (by simp; omega) (by have := HLEN.out; omega) 26
        have HRUN8 := hide hrun8
        have HO8 := hide ho8
        have HB8 := hide ((HBX.out.trans ((below_alloc X (.cells (BV [ch]).toArray 5)).mono hxs)).grown hg8 (by simp; omega) (fun g hg => (HO4X.out.lt g hg).1))
        have HOR8 := hide (own_grownOff (own_below HOX.out (below_alloc X (.cells (BV [ch]).toArray 5))) hg8 (fun g hg => h34 g hg))
        have W86 := hide ((X6.out.alloc (.cells (BV [ch]).toArray 5)).grown hg8 (fun h => by have := h4b g6 h.symm; omega))
        have h8b : ∀ g, y3.ownBlock = some g → g < g6 := h3b
        clear hrun8 ho8 hg8 hat8 HO4X HOX HX
        have w80 : W8.cell? ⟨g6, 0, none⟩ = some (.int .i64 la) := W86.out.cell 0
        obtain ⟨tx8, htx8⟩ : ∃ tx8, tx8 = tx ++ [ch] := ⟨_, rfl⟩
        have HTL8 := hide (show tx8.length ≤ i + 1 by rw [htx8, List.length_append]; have := HLEN.out; simp; omega)
        rw [← htx8] at HO8 HCL HMO
        have HW8 := hide (HV.out.trans (HB8.out.mono HV.out.size))
        have hw8 := HB8.out.size
        clear htx8 HINV
        go_upto_region 9 with (at_builtin; refine Lib.wpList_append_run _ rfl _ _ _ _ rfl _ _ rfl rfl _ _ HRUN8.out ?_)
        clear HRUN8 x1
        obtain ⟨bd, hbd⟩ : ∃ bd : Bool, bd = (decide (i + 1 = n) || decide ((Tb.at_ l (i + 1)).1 ≠ la)) := ⟨_, rfl⟩
        have HBD := hide hbd
        go_cut [37] (fun s37 wx => s37 = .bool bd ∧ ∃ z, wx = W8.drewN z)
        case first =>
          by_cases hen : i + 1 = n
          · have heb : ((i : Int) + 1 == (n : Int)) = true := by rw [beq_iff_eq]; omega
            rw [decide_eq_true hen, Bool.true_or] at hbd
            have HG2 := hide hbd
            clear hbd hen
            go_wp2
            go_quiet (fail)
            go_wp2
            go_meet
            exact ⟨by rw [HG2.out], _, rfl⟩
          · have heb : ((i : Int) + 1 == (n : Int)) = false := by rw [beq_eq_false_iff_ne]; omega
            rw [decide_eq_false hen, Bool.false_or] at hbd
            obtain ⟨ad', he, _, hk1, _⟩ := reads_sym' HR.out (i + 1) (by have := HN.out; omega)
            injection he with he
            subst he
            have hkc : W8.cell? (ad.add ((i + 1) * 2)) = some (.int .i64 (Tb.at_ l (i + 1)).1) := by rw [HW8.out.cell (by rw [block_of_add]; exact hadb)]; exact hk1
            have hlt1 : (i : Int) + 1 < (n : Int) := by omega
            generalize (Tb.at_ l (i + 1)).1 = lk at *
            by_cases he : lk = la
            · have heq : (lk != la) = false := by simp [he]
              rw [decide_eq_false (by simp [he])] at hbd
              have HG2 := hide hbd
              clear hbd hen he hk1
              go_wp2
              go_quiet (fail)
              go_wp2
              go_meet
              exact ⟨by rw [HG2.out], _, rfl⟩
            · have heq : (lk != la) = true := by simp [he]
              rw [decide_eq_true he] at hbd
              have HG2 := hide hbd
              clear hbd hen he hk1
              go_wp2
              go_quiet (fail)
              go_wp2
              go_meet
              exact ⟨by rw [HG2.out], _, rfl⟩
        case rest =>
          obtain ⟨rfl, z, rfl⟩ := hcut
          clear hbd
          obtain ⟨Z, hZ⟩ : ∃ Z, Z = W8.drewN z := ⟨_, rfl⟩
          have HOZ := hide (show Z.ownsRow V.heap.size 91 2 y3 rs.length (RNC rs) by rw [hZ]; exact own_drewN HOR8.out z)
          have HO4Z := hide (show Z.ownsRow V.heap.size 5 1 v8 tx8.length (BV tx8) by rw [hZ]; exact own_drewN HO8.out z)
          have HBZ := hide (show Below V.heap.size V Z by rw [hZ]; exact below_drewN HB8.out z)
          have z60 : Z.cell? ⟨g6, 0, none⟩ = some (.int .i64 la) := by rw [hZ]; exact w80
          have hzs := HBZ.out.size
          rw [← hZ]
          clear hZ w80 W86 HO8 HOR8 HB8
          cases bd with
          | true =>
            have hcl := HCL.out (by
              have h := HBD.out.symm
              rw [Bool.or_eq_true] at h
              rcases h with h | h
              · exact .inl (by have := of_decide_eq_true h; have := HN.out; omega)
              · exact .inr (of_decide_eq_true h))
            obtain ⟨r, hrr⟩ : ∃ r : Tb.Run, r = (la, tx8) := ⟨_, rfl⟩
            rw [← hrr] at hcl
            obtain ⟨sv, hsv⟩ : ∃ sv, sv = S tx8 := ⟨_, rfl⟩
            have hcv : (convert 26 9 v8).run Try.prog Z = .ok (.string sv) Z := by
              obtain ⟨A5, c5, hv5, _⟩ := own_slice HO4Z.out
              rw [hv5, hsv]
              exact run_conv_reads (P := Try.prog) (Reads.of_own (hv5 ▸ HO4Z.out)) _ _ _ _ Try.underlying26 Try.underlying5 Try.underlying9
            obtain ⟨v9, W9, hrun9, ho9, hg9, _⟩ := runs_push (Z.alloc (.cells #[.int .i64 la, .string sv] 91)) V.heap.size Z.heap.size y3 rs r (own_below HOZ.out (below_alloc Z _)) (by rw [hrr]; rw [hsv]; exact Blk.new Z _ _) (by simp; omega) (by have := HLEN.out; omega) 36
            have HRUN9 := hide hrun9
            have HO9 := hide ho9
            have HB9 := hide ((HBZ.out.trans ((below_alloc Z (.cells #[.int .i64 la, .string sv] 91)).mono hzs)).grown hg9 (by simp; omega) (fun g hg => (HOZ.out.lt g hg).1))
            have HCL9 := hide hcl
            have HLN9 := hide (show (rs ++ [r]).length ≤ i + 1 ∧ ([] : List UInt8).length ≤ i + 1 by rw [List.length_append]; have := HLEN.out; exact ⟨by simp; omega, by simp⟩)
            generalize rs ++ [r] = rs9 at *
            clear hrun9 ho9 hg9 hcl hrr hsv HCL HMO HOZ HO4Z HBD
            go_wp2_with (at_builtin; refine Lib.wpList_append_run _ rfl _ _ _ _ rfl _ _ rfl rfl _ _ HRUN9.out ?_)
            have hi9 := HIN0.out
            exact ⟨⟨i + 1, rs9, [], v9, _, hi9, by go_num, rfl, rfl, HO9.out, own_nil _ _ _ _, HCL9, HLN9, HB9.out⟩, by simp [intOf]; omega⟩
          | false =>
            have h := HBD.out.symm
            rw [Bool.or_eq_false_iff] at h
            have h1 := of_decide_eq_false h.1
            have h2 := of_decide_eq_false h.2
            have HMO9 := hide (HMO.out (by have := HIN0.out; have := HN.out; omega) (Decidable.not_not.1 h2))
            have HLN9 := hide (show rs.length ≤ i + 1 ∧ tx8.length ≤ i + 1 from ⟨by have := HLEN.out; omega, HTL8.out⟩)
            clear h h1 h2 HCL HMO HBD z60
            go_wp2
            have hi9 := HIN0.out
            exact ⟨⟨i + 1, rs, tx8, _, v8, hi9, by go_num, rfl, rfl, HOZ.out, HO4Z.out, HMO9, HLN9, HBZ.out⟩, by simp [intOf]; omega⟩
      · obtain rfl : i = n := by omega
        have hg : rs = Tb.groups l := HINV.out.2 (by have := HN.out; omega)
        have hlen := Tb.groups_len l
        obtain ⟨A9, c9, hv9, hc9, hr9⟩ := runs_of_own hown (by have := HLEN.out; omega) (by rw [hg, Tb.flat_groups]; have := HN.out; omega)
        subst hv9
        have hnt : ¬ ((i : Int) < (i : Int)) := by omega
        have HC9 := hide hc9
        have HR9 := hide hr9
        have HG9 := hide hg
        clear hown hown4 hbel hg hc9 hr9 hlen hbs
        go_wp2
        go_ret
        exact ⟨A9, c9, by rw [HF.out, ← HG9.out]; rfl, by rw [HF.out, ← HG9.out]; exact HC9.out, by rw [HF.out, ← HG9.out]; exact HR9.out, HWD.out⟩
end Go.Proofs.Ytbcfndhnopmbbaa
