/-
  Tables: the walk of the law that steps are local.
-/
import Derived.Test.YtbcfndhnopmbbaaTabSs
import Derived.Test.YtbcfndhnopmbbaaTabSy
import Derived.Test.YtbcfndhnopmbbaaTabZc
import Derived.Deep.CutBlock
namespace Go.Proofs.Ytbcfndhnopmbbaa
open Go.RowKit
set_option linter.unusedVariables false
set_option linter.unusedSimpArgs false
/-- a text appended to a row of characters -/
theorem text_app (W : World) (base : Nat) (v : Value) (l : Tb.Text) (A : Option Addr) (c : Nat) (x : Tb.Text) (hown : W.ownsRow base 67 2 v l.length (SC l)) (hr : Reads W W.heap.size 2 A x.length (SC x)) (hbase : base ≤ W.heap.size) (hlen : l.length ≤ 100000) (hlen2 : x.length ≤ 100000) (ty : TypeId) :
    ∃ v' W', (Builtin.append_ #[37, 37] ty #[v, .slice A x.length c]).run Try.prog W = .ok v' W' ∧ W'.ownsRow base 67 2 v' (l ++ x).length (SC (l ++ x)) ∧ W.grownBy W' v.ownBlock ∧ (v'.ownBlock = v.ownBlock ∨ v'.ownBlock = some W.heap.size) := by
  obtain ⟨j0, hj, hy0, hy1, hy2⟩ := info_parts symInfo3
  obtain ⟨v', w', hrun, hown', hgrow', hat'⟩ := run_append_any (P := Try.prog) W base 37 ty 67 j0 (.agg #[.int .i64 0, .int .u8 0]) 2 16 Try.underlying37 hj hy0 hy1 hy2 rfl (by omega)
    v l.length (SC l) hown W.heap.size A x.length c (SC x) hr (fun u hu => SC_one x u hu) (by unfold maxLen; omega) (by omega) hbase
  refine ⟨v', w', hrun, ?_, hgrow', hat'⟩
  rw [SC_append, List.length_append]
  exact hown'
/-- steps that are these -/
def gSps (L : List Tb.Sp) : World → Value → Prop := fun W v => ∃ xs, StepsAt W v xs ∧ xs.map (·.sp) = L
theorem stab_sps (L : List Tb.Sp) : Stab (gSps L) := fun _ _ _ hb ⟨xs, h1, h2⟩ => ⟨xs, h1.same hb, h2⟩
theorem steps_call (TV : Value) (t : Tb.Tab) (s : Tb.St) (sv : Value) (hsv : sv = stV s) (A : Option Addr) (c : Nat) (l : Tb.Text) (p : Int) (w W : World) (ht : TabAt w w.heap.size TV t) (hx : TextAt w w.heap.size A l) (hc : l.length ≤ c) (hb : Below w.heap.size w W) (L : List Tb.Sp) (hL : Tb.steps t s l p = L) :
    Calls Try.prog 27 #[TV, sv, .slice A l.length c, .int .i64 p] W fun e w' => ∃ v, e = .returned v ∧ gSps L w' v ∧ Below W.heap.size W w' := by
  subst hsv
  subst hL
  refine (steps_any TV t s A c l p W ((ht.below hb).more hb.size) (hx.same hb) hc).mono ?_
  rintro e w' ⟨v', xs, rfl, hst, hxs, hb2⟩
  exact ⟨v', rfl, ⟨xs, hst, hxs⟩, hb2⟩
theorem plain_call (v : Value) (L : List Tb.Sp) (W : World) (h : gSps L W v) : Calls Try.prog 26 #[v] W fun e w' => ∃ v', e = .returned v' ∧ gSps L w' v' ∧ Below W.heap.size W w' := by
  obtain ⟨xs, h1, h2⟩ := h
  refine (plain_any v xs W h1).mono ?_
  rintro e w' ⟨v', rfl, hst, hb⟩
  exact ⟨v', rfl, ⟨xs, hst, h2⟩, hb⟩
theorem same_call (v1 v2 : Value) (L : List Tb.Sp) (W : World) (h1 : gSps L W v1) (h2 : gSps L W v2) : Calls Try.prog 25 #[v1, v2] W fun e w' => e = .returned (.bool true) ∧ Below W.heap.size W w' := by
  obtain ⟨xs, a1, a2⟩ := h1
  obtain ⟨ys, b1, b2⟩ := h2
  exact sameSteps_any v1 v2 xs ys W a1 b1 (a2.trans b2.symm)
theorem SC_drop (l : Tb.Text) (a : Nat) : (SC l).drop (a * 2) = SC (l.drop a) := by
  induction a generalizing l with
  | zero => simp
  | succ a ih =>
    cases l with
    | nil => simp [SC]
    | cons x l =>
      rw [List.drop_succ_cons, ← ih]
      show (syC x ++ SC l).drop ((a + 1) * 2) = _
      rw [show (a + 1) * 2 = 2 + a * 2 by omega, ← List.drop_drop]
      rfl
theorem SC_take (l : Tb.Text) (a : Nat) : (SC l).take (a * 2) = SC (l.take a) := by
  induction a generalizing l with
  | zero => simp [SC]
  | succ a ih =>
    cases l with
    | nil => simp [SC]
    | cons x l =>
      show (syC x ++ SC l).take ((a + 1) * 2) = syC x ++ SC (l.take a)
      rw [show (a + 1) * 2 = (syC x).length + a * 2 by show _ = 2 + a * 2; omega, List.take_length_add_append, ih]
theorem reads_subtext {w : World} {B : Nat} {td : Addr} {l : Tb.Text} (h : Reads w B 2 (some td) l.length (SC l)) (a b : Nat) (hab : a < b) (hb : b ≤ l.length) : Reads w B 2 (some (td.add (a * 2))) (b - a) (SC ((l.drop a).take (b - a))) := by
  obtain ⟨ad, e, hbl, hc⟩ := h.2 (by omega)
  injection e with e
  subst e
  refine ⟨by rw [SC_len, List.length_take, List.length_drop]; omega, fun _ => ⟨_, rfl, by rw [block_of_add]; exact hbl, fun j u hu => ?_⟩⟩
  rw [add_of_add]
  refine hc _ _ ?_
  rw [← SC_take, ← SC_drop] at hu
  have hj : j < (b - a) * 2 := by
    have h := (List.getElem?_eq_some_iff.1 hu).1
    rw [List.length_take] at h
    omega
  rw [List.getElem?_take_of_lt hj, List.getElem?_drop] at hu
  exact hu
def ks23 (TV ZV TX OX : Value) (i pl : Int) (L : List Tb.Sp) : List (World → Value → Prop) := [gIs TV, gIs ZV, gIs TX, gIs (.int .i64 i), gSps L, gSps L, gIs TV, gIs ZV, gIs OX, gIs (.int .i64 pl), gSps L, gSps L, gIs (.bool true)]
theorem ks23_stab (TV ZV TX OX : Value) (i pl : Int) (L : List Tb.Sp) : StabL (ks23 TV ZV TX OX i pl L) := stabL_cons (stab_is _) (stabL_cons (stab_is _) (stabL_cons (stab_is _) (stabL_cons (stab_is _) (stabL_cons (stab_sps _) (stabL_cons (stab_sps _) (stabL_cons (stab_is _) (stabL_cons (stab_is _) (stabL_cons (stab_is _) (stabL_cons (stab_is _) (stabL_cons (stab_sps _) (stabL_cons (stab_sps _) (stabL_cons (stab_is _) (stabL_nil)))))))))))))
/-- the word round a place -/
def WordAt (l : Tb.Text) (p a b : Nat) : Prop := a ≤ p ∧ p < b ∧ b ≤ l.length ∧ (Tb.letter (Tb.at_ l p).2 = true → ∀ d, a ≤ d → d < b → Tb.letter (Tb.at_ l d).2 = true ∧ (Tb.at_ l d).1 = (Tb.at_ l p).1) ∧ (Tb.letter (Tb.at_ l p).2 = false → a = p ∧ b = p + 1)
def BegAt (l : Tb.Text) (p a : Nat) : Prop := 0 < a → ¬ (Tb.letter (Tb.at_ l (a - 1)).2 = true ∧ (Tb.at_ l (a - 1)).1 = (Tb.at_ l p).1) ∨ Tb.letter (Tb.at_ l p).2 = false
def EndAt (l : Tb.Text) (p b : Nat) : Prop := b < l.length → ¬ (Tb.letter (Tb.at_ l b).2 = true ∧ (Tb.at_ l b).1 = (Tb.at_ l p).1) ∨ Tb.letter (Tb.at_ l p).2 = false
set_option maxHeartbeats 16000000 in
set_option maxRecDepth 100000 in
theorem local_walk (n : Int) (A : Option Addr) (c : Nat) (l : List Int) (Ak : Option Addr) (ck : Nat) (lk : List Int) (Am : Option Addr) (cm : Nat) (lm : List Int) (at' : Int) (num : Bool) (w : World) (hn : Wr.inI n) (hat : Wr.inI at')
    (hr : IntsAt w w.heap.size A l) (hrk : IntsAt w w.heap.size Ak lk) (hrm : IntsAt w w.heap.size Am lm) (hT : TablesC n) (hL : LivesC) :
    Calls Try.prog 7 #[.int .i64 n, .slice A l.length c, .slice Ak lk.length ck, .slice Am lm.length cm, .int .i64 at', .bool num] w fun e w' => e = .returned (.bool true) ∧ Below w.heap.size w w' := by
  have CT := hide (hT w)
  have CL := hide hL
  have CS := hide (fun (W : World) (hb : Below w.heap.size w W) => syms_any A c l W ⟨(hr.1.below hb).more hb.size, hr.2⟩)
  have CSK := hide (fun (W : World) (hb : Below w.heap.size w W) => syms_any Ak ck lk W ⟨(hrk.1.below hb).more hb.size, hrk.2⟩)
  have CSM := hide (fun (W : World) (hb : Below w.heap.size w W) => syms_any Am cm lm W ⟨(hrm.1.below hb).more hb.size, hrm.2⟩)
  obtain ⟨hgl, hgg⟩ := Tb.symsT_good l
  obtain ⟨hkl, hkg⟩ := Tb.symsT_good lk
  obtain ⟨hml, hmg⟩ := Tb.symsT_good lm
  generalize Tb.symsT l = tx at *
  generalize Tb.symsT lk = tk at *
  generalize Tb.symsT lm = tm at *
  generalize l.length = ln at *
  generalize lk.length = lnk at *
  generalize lm.length = lnm at *
  clear hr hrk hrm hT hL
  have HGG := hide hgg
  have HKG := hide hkg
  have HMG := hide hmg
  clear hgg hkg hmg
  go_enter Try.func7, Try.ntmps7
  go_upto_region 2 with (go_at_call 8; refine (unhide CT).mono ?_; rintro e w1 ⟨v, t, rfl, hta, hte, hb1⟩; have HTA := hide hta; have HTE := hide hte; have B1 := hide hb1; obtain ⟨A0, A1, c0, c1, rfl, hta'⟩ := hta; clear hta' hb1 hte)
  refine name_world fun V hV => ?_
  have VT := hide (show Blk V w1.heap.size 28 #[.slice A0 t.r0.length c0, .slice A1 t.r1.length c1, .slice t.dig.ad t.dig.l.length t.dig.c, .slice t.cap.ad t.cap.l.length t.cap.c, .slice t.num.ad t.num.l.length t.num.c, .slice t.fin.ad t.fin.l.length t.fin.c, .slice t.sw.ad t.sw.l.length t.sw.c] by rw [← hV.out]; exact Blk.new w1 _ _)
  have HV1 := hide (show Below w1.heap.size w1 V by rw [← hV.out]; exact below_alloc w1 _)
  have hb1s := B1.out.size
  have HVW := hide (B1.out.trans (HV1.out.mono hb1s))
  have CS1 := hide (CS.out V HVW.out)
  have HTA2 := hide ((HTA.out.below HV1.out).more HV1.out.size)
  have hgt := VT.out.lt
  clear hV CS CT HTA HV1 B1
  generalize w1.heap.size = gt at *
  go_upto_region 3 with (go_at_call 15; refine (unhide CS1).mono ?_; rintro e w2 ⟨A', c', rfl, hc', htx, hb2⟩; have HTX := hide htx; have B2 := hide hb2; have hc2 := hc'; clear hb2 htx hc')
  have hb2s := B2.out.size
  have hvs := HVW.out.size
  have HW2 := hide (HVW.out.trans (B2.out.mono hvs))
  have HTA3 := hide ((HTA2.out.below B2.out).more B2.out.size)
  have VT2 := hide (VT.out.below B2.out hgt)
  obtain ⟨hva, _, _⟩ := tab_of HTE.out
  have HVA := hide hva
  have hgt2 := VT2.out.lt
  clear CS1 HTA2 VT B2 HVW HTE hva hgt
  obtain ⟨m, hm⟩ : ∃ m, m = tx.length := ⟨_, rfl⟩
  have HM := hide hm
  rw [← hm] at hc2 hgl ⊢
  clear hm
  have hmi : (m : Int) ≤ 24 := by omega
  by_cases hm0 : m = 0
  · have hmb : ((m : Int) == 0) = true := by simp [hm0]
    clear hm0
    go_wp2_with (go_at_call 12; refine (unhide CL _).mono ?_; rintro e w4 ⟨rfl, hb4⟩; have B4 := hide (HW2.out.trans (hb4.mono HW2.out.size)); clear hb4)
    go_ret
    exact ⟨rfl, B4.out⟩
  · have hmb : ((m : Int) == 0) = false := by simp [hm0]
    have CA := hide (fun W => around_any at' m W hat (by omega) (by omega))
    obtain ⟨i, hi⟩ : ∃ i, i = Ce.around at' m := ⟨_, rfl⟩
    have him : i < m := by rw [hi]; exact Ce.around_lt _ _ (by omega)
    rw [← hi] at CA
    clear hi hm0
    have hi24 : (i : Int) < 24 := by omega
    have hi0 : (0 : Int) ≤ (i : Int) := by omega
    have himi : (i : Int) < (m : Int) := by omega
    obtain ⟨td, hA', htdb, hcx, hcc⟩ := reads_sym' HTX.out i (by rw [← HM.out]; exact him)
    subst hA'
    have CI := hide (fun W => refIs_any (Tb.at_ tx i).2 W)
    obtain ⟨ls, hls⟩ : ∃ ls, ls = Tb.letter (Tb.at_ tx i).2 := ⟨_, rfl⟩
    rw [← hls] at CI
    have HLS := hide hls
    unfold VC at CI
    clear hls
    go_upto_if 43 with (first | (go_at_call 30; refine (unhide CA _).mono ?_; rintro e w3 ⟨rfl, rfl⟩) | (go_at_call 31; refine (unhide CI _).mono ?_; rintro e w3 ⟨rfl, rfl⟩))
    go_cut [16, 17] (fun s16 s17 wx => ∃ a b : Nat, s16 = .int .i64 (a : Int) ∧ s17 = .int .i64 (b : Int) ∧ a ≤ i ∧ i < b ∧ b ≤ m ∧ Hid (WordAt tx i a b) ∧ Hid (BegAt tx i a) ∧ Hid (EndAt tx i b) ∧ ∃ q, wx = w2.drewN q)
    case first =>
      cases ls with
      | false =>
        go_wp2
        go_meet
        have hlf : Tb.letter (Tb.at_ tx i).2 = false := HLS.out.symm
        have hW1 : WordAt tx i i (i + 1) := ⟨Nat.le_refl _, Nat.lt_succ_self _, (by have := HM.out; omega), (fun h => by rw [hlf] at h; cases h), fun _ => ⟨rfl, rfl⟩⟩
        exact ⟨i, i + 1, rfl, rfl, Nat.le_refl _, Nat.lt_succ_self _, him, hW1, fun _ => .inr hlf, fun _ => .inr hlf, 0, rfl⟩
      | true =>
        have hlt' : Tb.letter (Tb.at_ tx i).2 = true := HLS.out.symm
        have HLT := hide hlt'
        clear hlt' CI
        obtain ⟨lg, hlg⟩ : ∃ lg, lg = (Tb.at_ tx i).1 := ⟨_, rfl⟩
        have HLG := hide hlg
        rw [← hlg] at hcx
        clear hlg hcc
        go_upto_block 0 with fail
        go_cut [16] from 44 to 70 (fun s16 wx => ∃ a q : Nat, s16 = .int .i64 (a : Int) ∧ a ≤ i ∧ Hid (∀ d, a ≤ d → d ≤ i → Tb.letter (Tb.at_ tx d).2 = true ∧ (Tb.at_ tx d).1 = (Tb.at_ tx i).1) ∧ Hid (BegAt tx i a) ∧ wx = w2.drewN q)
        case first =>
         go_wp2
         go_loopw [16] (fun s wr => ∃ a q : Nat, a ≤ i ∧ s = .int .i64 (a : Int) ∧ Hid (∀ d, a ≤ d → d ≤ i → Tb.letter (Tb.at_ tx d).2 = true ∧ (Tb.at_ tx d).1 = (Tb.at_ tx i).1) ∧ wr = w2.drewN q) (fun s _ => (intOf s).toNat)
         case atStart =>
          have hst : ∀ d, i ≤ d → d ≤ i → Tb.letter (Tb.at_ tx d).2 = true ∧ (Tb.at_ tx d).1 = (Tb.at_ tx i).1 := fun d h1 h2 => by
            have e : d = i := Nat.le_antisymm h2 h1
            rw [e]
            exact ⟨HLT.out, rfl⟩
          exact ⟨i, 0, Nat.le_refl _, rfl, hst, rfl⟩
         case round =>
          obtain ⟨a, q, hai, rfl, HD, rfl⟩ := hrel
          by_cases ha0 : a = 0
          · have HB0 := hide (show BegAt tx i a from fun h => by omega)
            have hda : decide (0 < a) = false := decide_eq_false (by omega)
            have hna : ¬ ((0 : Int) < (a : Int)) := by omega
            clear ha0
            go_wp2
            go_quiet (fail)
            go_wp2
            go_meet
            exact ⟨a, q + nq, rfl, hai, HD.out, HB0.out, by rw [World.drewN_drewN]⟩
          · obtain ⟨p, rfl⟩ : ∃ p, a = p + 1 := ⟨a - 1, by omega⟩
            obtain ⟨td2, he2, hpb, hp0, hp1⟩ := reads_sym' HTX.out p (by have := HM.out; omega)
            injection he2 with he2
            subst he2
            have hpa : (0 : Int) < (p : Int) + 1 := by omega
            have hpm : (p : Int) < (m : Int) := by omega
            have hpp : (0 : Int) ≤ (p : Int) := by omega
            have CI1 := hide (fun (j : Nat) => (show Calls Try.prog 31 #[VC (Tb.at_ tx p).2] (w2.drewN (q + j)) fun e w' => e = .returned (.bool (Tb.letter (Tb.at_ tx p).2)) ∧ ∃ z, w' = w2.drewN (q + z) from (refIs_any (Tb.at_ tx p).2 (w2.drewN (q + j))).mono fun e w' ⟨he, hz⟩ => ⟨he, j, hz.symm⟩))
            unfold VC at CI1
            obtain ⟨pl, hpl⟩ : ∃ pl, pl = Tb.letter (Tb.at_ tx p).2 := ⟨_, rfl⟩
            rw [← hpl] at CI1
            have HPL := hide hpl
            obtain ⟨pg, hpg⟩ : ∃ pg, pg = (Tb.at_ tx p).1 := ⟨_, rfl⟩
            rw [← hpg] at hp0
            have HPG := hide hpg
            clear hpl hpg ha0
            generalize (Tb.at_ tx p).2.toNat = pc at *
            rw [show (((p + 1 : Nat)) : Int) = (p : Int) + 1 from rfl]
            cases pl with
            | false =>
              have HB0 := hide (show BegAt tx i (p + 1) from fun _ => .inl fun h => by
                have h2 := HPL.out
                rw [Nat.add_sub_cancel, ← h2] at h
                cases h.1)
              clear hp0
              go_wp2
              go_quiet (first | (go_at_call 31; exact unhide CI1 _))
              go_wp2
              go_meet
              exact ⟨p + 1, q + nq, rfl, hai, HD.out, HB0.out, by rw [World.drewN_drewN]⟩
            | true =>
              by_cases hgg : pg = lg
              · have HD2 := hide (show ∀ d, p ≤ d → d ≤ i → Tb.letter (Tb.at_ tx d).2 = true ∧ (Tb.at_ tx d).1 = (Tb.at_ tx i).1 from fun d h1 h2 => by
                  by_cases hdp : d = p
                  · subst hdp
                    exact ⟨HPL.out.symm, by rw [← HPG.out, hgg, HLG.out]⟩
                  · exact HD.out d (by omega) h2)
                have hge : (pg == lg) = true := by simp [hgg]
                subst hgg
                clear HD
                go_wp2
                go_quiet (first | (go_at_call 31; exact unhide CI1 _))
                go_wp2
                exact ⟨⟨p, q + nq, by omega, by go_num, HD2.out, rfl⟩, by simp only [intOf]; omega⟩
              · have HB0 := hide (show BegAt tx i (p + 1) from fun _ => .inl fun h => by
                  have h2 := HPG.out
                  have h3 := HLG.out
                  rw [Nat.add_sub_cancel, ← h2, ← h3] at h
                  exact hgg h.2)
                have hge : (pg == lg) = false := by simp [hgg]
                go_wp2
                go_quiet (first | (go_at_call 31; exact unhide CI1 _))
                go_wp2
                go_meet
                exact ⟨p + 1, q + nq, rfl, hai, HD.out, HB0.out, by rw [World.drewN_drewN]⟩
        case rest =>
         obtain ⟨a, q1, rfl, hai, HD, HBG, rfl⟩ := hcut
         have hai2 : (a : Int) ≤ (i : Int) := by omega
         go_wp2
         go_loopw [17] (fun s wr => ∃ b q : Nat, i < b ∧ b ≤ m ∧ s = .int .i64 (b : Int) ∧ Hid (∀ d, i ≤ d → d < b → Tb.letter (Tb.at_ tx d).2 = true ∧ (Tb.at_ tx d).1 = (Tb.at_ tx i).1) ∧ wr = w2.drewN q) (fun s _ => m - (intOf s).toNat)
         case atStart =>
          have hst : ∀ d, i ≤ d → d < i + 1 → Tb.letter (Tb.at_ tx d).2 = true ∧ (Tb.at_ tx d).1 = (Tb.at_ tx i).1 := fun d h1 h2 => by
            have e : d = i := Nat.le_antisymm (Nat.le_of_lt_succ h2) h1
            rw [e]
            exact ⟨HLT.out, rfl⟩
          exact ⟨i + 1, q1, Nat.lt_succ_self _, him, rfl, hst, rfl⟩
         case round =>
          obtain ⟨b, q, hib, hbm, rfl, HU, rfl⟩ := hrel
          have hb0 : (0 : Int) ≤ (b : Int) := by omega
          have HWD := hide (show WordAt tx i a b from ⟨hai, hib, (by have := HM.out; omega), fun _ d h1 h2 => by
            by_cases hdi : d ≤ i
            · exact HD.out d h1 hdi
            · exact HU.out d (by omega) h2, fun h => by rw [HLT.out] at h; cases h⟩)
          by_cases hbe : b = m
          · have HE := hide (show EndAt tx i b from fun h => by have := HM.out; omega)
            subst hbe
            have hnt : ¬ ((b : Int) < (b : Int)) := by omega
            go_wp2
            go_quiet (fail)
            go_wp2
            go_meet
            exact ⟨a, b, rfl, rfl, hai, hib, hbm, HWD.out, HBG.out, HE.out, q + nq, by rw [World.drewN_drewN]⟩
          · have hbi : (b : Int) < (m : Int) := by omega
            obtain ⟨td2, he2, hpb, hp0, hp1⟩ := reads_sym' HTX.out b (by have := HM.out; omega)
            injection he2 with he2
            subst he2
            have CI1 := hide (fun (j : Nat) => (show Calls Try.prog 31 #[VC (Tb.at_ tx b).2] (w2.drewN (q + j)) fun e w' => e = .returned (.bool (Tb.letter (Tb.at_ tx b).2)) ∧ ∃ z, w' = w2.drewN (q + z) from (refIs_any (Tb.at_ tx b).2 (w2.drewN (q + j))).mono fun e w' ⟨he, hz⟩ => ⟨he, j, hz.symm⟩))
            unfold VC at CI1
            obtain ⟨pl, hpl⟩ : ∃ pl, pl = Tb.letter (Tb.at_ tx b).2 := ⟨_, rfl⟩
            rw [← hpl] at CI1
            have HPL := hide hpl
            obtain ⟨pg, hpg⟩ : ∃ pg, pg = (Tb.at_ tx b).1 := ⟨_, rfl⟩
            rw [← hpg] at hp0
            have HPG := hide hpg
            clear hpl hpg hbe
            generalize (Tb.at_ tx b).2.toNat = pc at *
            cases pl with
            | false =>
              have HE := hide (show EndAt tx i b from fun _ => .inl fun h => by
                have h2 := HPL.out
                rw [← h2] at h
                cases h.1)
              clear hp0
              go_wp2
              go_quiet (first | (go_at_call 31; exact unhide CI1 _))
              go_wp2
              go_meet
              exact ⟨a, b, rfl, rfl, hai, hib, hbm, HWD.out, HBG.out, HE.out, q + nq, by rw [World.drewN_drewN]⟩
            | true =>
              by_cases hgg : pg = lg
              · have HD2 := hide (show ∀ d, i ≤ d → d < b + 1 → Tb.letter (Tb.at_ tx d).2 = true ∧ (Tb.at_ tx d).1 = (Tb.at_ tx i).1 from fun d h1 h2 => by
                  by_cases hdp : d = b
                  · subst hdp
                    exact ⟨HPL.out.symm, by rw [← HPG.out, hgg, HLG.out]⟩
                  · exact HU.out d h1 (by omega))
                have hge : (pg == lg) = true := by simp [hgg]
                subst hgg
                clear HU
                go_wp2
                go_quiet (first | (go_at_call 31; exact unhide CI1 _))
                go_wp2
                exact ⟨⟨b + 1, q + nq, by omega, by omega, by go_num, HD2.out, rfl⟩, by simp only [intOf]; omega⟩
              · have HE := hide (show EndAt tx i b from fun _ => .inl fun h => by
                  have h2 := HPG.out
                  have h3 := HLG.out
                  rw [← h2, ← h3] at h
                  exact hgg h.2)
                have hge : (pg == lg) = false := by simp [hgg]
                go_wp2
                go_quiet (first | (go_at_call 31; exact unhide CI1 _))
                go_wp2
                go_meet
                exact ⟨a, b, rfl, rfl, hai, hib, hbm, HWD.out, HBG.out, HE.out, q + nq, by rw [World.drewN_drewN]⟩
    case rest =>
      obtain ⟨a, b, rfl, rfl, hai, hib, hbm, HWD, HBG, HEN, q, rfl⟩ := hcut
      have HTXq := hide (show TextAt (w2.drewN q) (w2.drewN q).heap.size (some td) tx from HTX.out)
      have hcxq : (w2.drewN q).cell? (td.add (i * 2)) = some (.int .i64 (Tb.at_ tx i).1) := hcx
      have VTq := hide (show Blk (w2.drewN q) gt 28 #[.slice A0 t.r0.length c0, .slice A1 t.r1.length c1, .slice t.dig.ad t.dig.l.length t.dig.c, .slice t.cap.ad t.cap.l.length t.cap.c, .slice t.num.ad t.num.l.length t.num.c, .slice t.fin.ad t.fin.l.length t.fin.c, .slice t.sw.ad t.sw.l.length t.sw.c] from VT2.out)
      have HWq := hide (below_drewN HW2.out q)
      have HTAq := hide (show TabAt (w2.drewN q) (w2.drewN q).heap.size _ t from HTA3.out)
      have htdq : td.block < (w2.drewN q).heap.size := htdb
      clear hcx hcc HTX VT2 HW2 HTA3 htdb hgt2
      generalize w2.drewN q = wq at *
      have HLK := hide ((HGG.out _ (show Tb.at_ tx i ∈ tx by
        unfold Tb.at_
        have hil : i < tx.length := by have := HM.out; omega
        simp [List.getD, hil])).1)
      obtain ⟨lg, hlg⟩ : ∃ lg, lg = (Tb.at_ tx i).1 := ⟨_, rfl⟩
      rw [← hlg] at hcxq HLK
      have HLG := hide hlg
      clear hlg
      have hai2 : (a : Int) ≤ (i : Int) := by omega
      have hib2 : (i : Int) < (b : Int) := by omega
      have hbm2 : (b : Int) ≤ (m : Int) := by omega
      have ha0 : (0 : Int) ≤ (a : Int) := by omega
      have hab2 : (a : Int) ≤ (b : Int) := by omega
      go_upto_region 15 with fail
      refine name_world fun X hX => ?_
      have XB := hide (show Blk X wq.heap.size 67 #[.int .i64 lg, .int .u8 32] by rw [← hX.out]; exact Blk.new wq _ _)
      have HXq := hide (show Below wq.heap.size wq X by rw [← hX.out]; exact below_alloc wq _)
      have HXW := hide (HWq.out.trans (HXq.out.mono HWq.out.size))
      have CSX := hide (CSK.out X HXW.out)
      have hgbX := XB.out.lt
      clear hX
      obtain ⟨gb, hgb⟩ : ∃ gb, gb = wq.heap.size := ⟨_, rfl⟩
      rw [← hgb] at XB hgbX ⊢
      have HGB := hide hgb
      clear hgb
      go_upto_region 16 with (first
        | (go_at_call 15; refine (unhide CSX).mono ?_; rintro e w3 ⟨Ak', ck', rfl, hck, htk, hb3⟩; obtain ⟨v3, W3, hrun3, ho3, hg3, _⟩ := text_app w3 X.heap.size (.slice none 0 0) [] Ak' ck' tk (own_nil _ _ _ _) htk.1 hb3.size (by simp) (by omega) 37; have HRUN3 := hide hrun3; have HO3 := hide ho3; have BX3 := hide (show Below X.heap.size X W3 from hb3.grown hg3 hb3.size (fun g hg => by cases hg)); clear hrun3 ho3 hg3 hck htk hb3)
        | (at_builtin; refine Lib.wpList_append_run _ rfl _ _ _ _ rfl _ _ rfl rfl _ _ HRUN3.out ?_))
      have hX3s := BX3.out.size
      have W3B := hide (XB.out.below BX3.out hgbX)
      obtain ⟨W0, hW0⟩ : ∃ W0, W0 = W3.drew := ⟨_, rfl⟩
      have hS0 : W3.grownBy W0 v3.ownBlock := by rw [hW0]; exact only_drew (World.grownBy.refl _ _)
      have HO0 := hide (show W0.ownsRow X.heap.size 67 2 v3 ([] ++ tk).length (SC ([] ++ tk)) by rw [hW0]; exact HO3.out)
      have HB0 := hide (show Below X.heap.size X W0 by rw [hW0]; exact BX3.out.drew)
      have hvb : v3.ownBlock ≠ some gb := fun e => by have := (HO3.out.lt gb e).1; omega
      have HSB := hide (fun (W : World) (hs : W3.grownBy W v3.ownBlock) => (show W.cell? ⟨gb, 0, none⟩ = some (.int .i64 lg) ∧ W.cell? ⟨gb, 1, none⟩ = some (.int .u8 32) from
        ⟨(W3B.out.grown hs (Ne.symm hvb)).cell 0, (W3B.out.grown hs (Ne.symm hvb)).cell 1⟩))
      refine wp_region_held_till (fun W => W3.grownBy W v3.ownBlock) 9 (by kernel_rfl) ?_
      rw [← hW0]
      clear hW0 HRUN3 CSX
      refine heldTill_take 0 v3 rfl (by kernel_rfl) (by kernel_rfl) (by kernel_rfl) (by kernel_rfl) (fun _ _ _ h => h) ?_ hS0 ?_
      · rw [if_pos (by rfl)]
        rintro W hbW
        go_simp
      try simp only [Act.put, List.getElem_toArray, List.getElem_cons_succ, List.getElem_cons_zero, List.setIfInBounds_toArray, List.set_cons_zero, List.set_cons_succ]
      refine heldTill_take 1 (.agg #[.int .i64 lg, .int .u8 32]) rfl (by kernel_rfl) (by kernel_rfl) (by kernel_rfl) (by kernel_rfl) (fun _ _ _ h => h) ?_ hS0 ?_
      · rw [if_pos (by rfl)]
        rintro W hbW
        obtain ⟨f0, f1⟩ := HSB.out W hbW
        go_simp
      try simp only [Act.put, List.getElem_toArray, List.getElem_cons_succ, List.getElem_cons_zero, List.setIfInBounds_toArray, List.set_cons_zero, List.set_cons_succ]
      refine heldTill_take 4 (.slice (some td) m c') rfl (by kernel_rfl) (by kernel_rfl) (by kernel_rfl) (by kernel_rfl) (fun _ _ _ h => h) ?_ hS0 ?_
      · rw [if_pos (by rfl)]
        rintro W hbW
        go_simp
      try simp only [Act.put, List.getElem_toArray, List.getElem_cons_succ, List.getElem_cons_zero, List.setIfInBounds_toArray, List.set_cons_zero, List.set_cons_succ]
      refine heldTill_take 5 (.int .i64 (a : Int)) rfl (by kernel_rfl) (by kernel_rfl) (by kernel_rfl) (by kernel_rfl) (fun _ _ _ h => h) ?_ hS0 ?_
      · rw [if_pos (by rfl)]
        rintro W hbW
        go_simp
      try simp only [Act.put, List.getElem_toArray, List.getElem_cons_succ, List.getElem_cons_zero, List.setIfInBounds_toArray, List.set_cons_zero, List.set_cons_succ]
      refine heldTill_take 6 (.int .i64 (b : Int)) rfl (by kernel_rfl) (by kernel_rfl) (by kernel_rfl) (by kernel_rfl) (fun _ _ _ h => h) ?_ hS0 ?_
      · rw [if_pos (by rfl)]
        rintro W hbW
        go_simp
      try simp only [Act.put, List.getElem_toArray, List.getElem_cons_succ, List.getElem_cons_zero, List.setIfInBounds_toArray, List.set_cons_zero, List.set_cons_succ]
      have hbc : (b : Int) ≤ (c' : Int) := by omega
      refine heldTill_take 7 (.slice (some (td.add (a * 2))) (b - a) (c' - a)) rfl (by kernel_rfl) (by kernel_rfl) (by kernel_rfl) (by kernel_rfl) (fun _ _ _ h => h) ?_ hS0 ?_
      · rw [if_pos (by rfl)]
        rintro W hbW
        go_simp
        exact fun h => by omega
      try simp only [Act.put, List.getElem_toArray, List.getElem_cons_succ, List.getElem_cons_zero, List.setIfInBounds_toArray, List.set_cons_zero, List.set_cons_succ]
      have HOB := hide (own_below HO0.out (below_alloc W0 (.cells #[.int .i64 lg, .int .u8 32] 67)))
      have hB0s := HB0.out.size
      have hbb : X.heap.size ≤ (W0.alloc (.cells #[.int .i64 lg, .int .u8 32] 67)).heap.size := by simp; omega
      obtain ⟨v4, W4, hrun4, ho4, hg4, hat4⟩ := syms_push (W0.alloc (.cells #[.int .i64 lg, .int .u8 32] 67)) X.heap.size W0.heap.size v3 ([] ++ tk) (lg, 32) HOB.out (Blk.new W0 _ _) hbb (by simp; omega) 37
      have hS1 : W3.grownBy (W0.alloc (.cells #[.int .i64 lg, .int .u8 32] 67)) v3.ownBlock := only_alloc hS0 _
      have hS4 : W3.grownBy W4 v3.ownBlock := grown_tr hS1 hg4
      have hXq4 := HXq.out.size
      have hv3q : ∀ g, v3.ownBlock = some g → wq.heap.size ≤ g := fun g hg => Nat.le_trans hXq4 (HO3.out.lt g hg).1
      have HTX4 := hide (show Reads W4 wq.heap.size 2 (some td) tx.length (SC tx) from (((HTXq.out.1.below HXq.out).below (BX3.out.mono hXq4)).grown hS4 (by omega) hv3q))
      have hab3 : b ≤ tx.length := by have := HM.out; omega
      have HSUB := hide (reads_subtext HTX4.out a b (by omega) hab3)
      have hX4s : X.heap.size ≤ W4.heap.size := Nat.le_trans hbb hg4.size
      obtain ⟨v5, W5, hrun5, ho5, hg5, hat5⟩ := text_app W4 X.heap.size v4 ([] ++ tk ++ [(lg, 32)]) (some (td.add (a * 2))) (c' - a) ((tx.drop a).take (b - a)) ho4 (by
        have h := HSUB.out
        rw [show ((tx.drop a).take (b - a)).length = b - a by rw [List.length_take, List.length_drop]; omega]
        exact h.more (by omega)) hX4s (by simp; omega) (by rw [List.length_take, List.length_drop]; omega) 37
      have hwl : ((tx.drop a).take (b - a)).length = b - a := by rw [List.length_take, List.length_drop]; omega
      rw [hwl] at hrun5
      have hS5 : W3.grownBy W5 v3.ownBlock := ⟨hg5.os.trans hS4.os, hg5.tape.trans hS4.tape, hg5.output.trans hS4.output, Nat.le_trans hS4.size hg5.size, fun k hk hne => (hg5.block k (Nat.lt_of_lt_of_le hk hS4.size) (fun e => by
        rcases hat4 with h | h
        · exact hne (e.trans h)
        · rw [h] at e
          injection e with e
          have h1 : W3.heap.size ≤ W0.heap.size := hS0.size
          have h2 : (W0.alloc (.cells #[.int .i64 lg, .int .u8 32] 67)).heap.size = W0.heap.size + 1 := by simp
          omega)).trans (hS4.block k hk hne)⟩
      have HBX5 := hide (show Below X.heap.size X W5 from BX3.out.grown hS5 BX3.out.size (fun g hg => (HO3.out.lt g hg).1))
      have HO5 := hide ho5
      have HRUN4 := hide hrun4
      have HRUN5 := hide hrun5
      have HS1 := hide hS1
      have HS4 := hide hS4
      have HS5 := hide hS5
      clear hrun4 ho4 hg4 hat4 hrun5 ho5 hg5 hat5 hS1 hS4 hS5 hS0 HOB HSUB HTX4 HO0 HB0
      refine heldTill_only 2 (by kernel_rfl) ?_
      refine wpOp_step rfl (fun K' hK => ?_)
      go_simp
      refine hK _ _ ⟨fun _ => HS1.out, ?_⟩
      clear hK K'
      try simp only [Act.put, List.getElem_toArray, List.getElem_cons_succ, List.getElem_cons_zero, List.setIfInBounds_toArray, List.set_cons_zero, List.set_cons_succ]
      refine heldTill_only 3 (by kernel_rfl) ?_
      refine wpOp_step rfl (fun K' hK => ?_)
      refine step_run_append (by rfl) (.tmp 108) (.tmp 110) 37 rfl v3 (.slice (some ⟨W0.heap.size, 0, none⟩) 1 1) rfl rfl v4 W4 HRUN4.out ?_
      refine hK _ _ ⟨fun _ => HS4.out, ?_⟩
      clear hK K'
      try simp only [Act.put, List.getElem_toArray, List.getElem_cons_succ, List.getElem_cons_zero, List.setIfInBounds_toArray, List.set_cons_zero, List.set_cons_succ]
      refine heldTill_only 8 (by kernel_rfl) ?_
      refine wpOp_step rfl (fun K' hK => ?_)
      refine step_run_append (by rfl) (.tmp 111) (.tmp 115) 37 rfl v4 (.slice (some (td.add (a * 2))) (b - a) (c' - a)) rfl rfl v5 W5 HRUN5.out ?_
      refine hK _ _ ⟨fun _ => HS5.out, ?_⟩
      clear hK K'
      try simp only [Act.put, List.getElem_toArray, List.getElem_cons_succ, List.getElem_cons_zero, List.setIfInBounds_toArray, List.set_cons_zero, List.set_cons_succ]
      refine heldTill_only 9 (by kernel_rfl) ?_
      refine wpOp_step rfl (fun K' hK => ?_)
      go_simp
      refine hK _ _ ⟨fun h => absurd rfl h, heldTill_done (by kernel_rfl) ?_⟩
      clear hK K' HRUN4 HRUN5 HS1 HS4
      try simp only [Act.put, List.getElem_toArray, List.getElem_cons_succ, List.getElem_cons_zero, List.setIfInBounds_toArray, List.set_cons_zero, List.set_cons_succ]
      go_upto_region 17 with fail
      obtain ⟨x0, x1⟩ := HSB.out W5 HS5.out
      have hX5s := HBX5.out.size
      obtain ⟨L5, hL5⟩ : ∃ L5, L5 = [] ++ tk ++ [(lg, 32)] ++ (tx.drop a).take (b - a) := ⟨_, rfl⟩
      have HL5 := hide hL5
      rw [← hL5] at HO5
      have hL5l : L5.length ≤ 100 := by rw [hL5]; simp; omega
      clear hL5
      obtain ⟨v6, W6, hrun6, ho6, hg6, _⟩ := syms_push (W5.alloc (.cells #[.int .i64 lg, .int .u8 32] 67)) X.heap.size W5.heap.size v5 L5 (lg, 32) (own_below HO5.out (below_alloc W5 _)) (Blk.new W5 _ _) (by simp; omega) (by omega) 37
      have HBX6 := hide (show Below X.heap.size X W6 from ((HBX5.out.trans (below_alloc' W5 _ hX5s)).grown hg6 (by simp; omega) (fun g hg => (HO5.out.lt g hg).1)))
      have hX6s := HBX6.out.size
      have HRUN6 := hide hrun6
      have HO6 := hide ho6
      have CS6 := hide (CSM.out W6 (HXW.out.trans (HBX6.out.mono HXW.out.size)))
      have CS8 := hide (fun (W : World) (hb : Below X.heap.size X W) => CSK.out W (HXW.out.trans (hb.mono HXW.out.size)))
      clear hrun6 ho6 hg6 CSM CSK HSB
      obtain ⟨kn, hkn⟩ : ∃ kn, kn = tk.length := ⟨_, rfl⟩
      have HKN := hide hkn
      rw [← hkn] at CS8
      have hkn24 : (kn : Int) ≤ 24 := by omega
      clear hkn
      clear hwl hv3q hvb
      go_upto_region 18 with (first
        | (go_at_call 15; (with_reducible refine (unhide CS6).mono ?_); rintro e w7 ⟨Am', cm', rfl, hcm, htm, hb7⟩; obtain ⟨v7, W7, hrun7, ho7, hg7, _⟩ := text_app w7 X.heap.size v6 (L5 ++ [(lg, 32)]) Am' cm' tm (own_below HO6.out hb7) htm.1 (Nat.le_trans hX6s hb7.size) (by simp; omega) (by omega) 37; have HRUN7 := hide hrun7; have HO7 := hide ho7; have HBX7 := hide (show Below X.heap.size X W7 from (HBX6.out.trans (hb7.mono hX6s)).grown hg7 (Nat.le_trans hX6s hb7.size) (fun g hg => (HO6.out.lt g hg).1)); clear hrun7 ho7 hg7 hcm htm hb7)
        | (at_builtin; first
          | (refine Lib.wpList_append_run _ rfl _ _ _ _ rfl _ _ rfl rfl _ _ HRUN6.out ?_)
          | (refine Lib.wpList_append_run _ rfl _ _ _ _ rfl _ _ rfl rfl _ _ HRUN7.out ?_)))
      have CS9 := hide (CS8.out W7 HBX7.out)
      have hkn0 : (0 : Int) ≤ (kn : Int) := by omega
      clear CS8 CS6 HRUN6 HRUN7 x0 x1
      go_upto_region 19 with (go_at_call 15; (with_reducible refine (unhide CS9).mono ?_); rintro e w8 ⟨Ak2, ck2, rfl, hck8, htk8, hb8⟩; have HBX8 := hide (HBX7.out.trans (hb8.mono HBX7.out.size)); have HO8 := hide (own_below HO7.out hb8); clear hb8 hck8 htk8)
      obtain ⟨L9, hL9⟩ : ∃ L9, L9 = L5 ++ [(lg, 32)] ++ tm := ⟨_, rfl⟩
      have HO9 := hide (show w8.ownsRow X.heap.size 67 2 v7 L9.length (SC L9) by rw [hL9]; exact HO8.out)
      have hL9o : L9 = Tb.other tx a b lg tk tm := by
        rw [hL9, HL5.out]
        rfl
      have hL9l : L9.length ≤ 1000 := by rw [hL9]; simp; omega
      have hAl : Tb.Alike tx L9 i (tk.length + 1 + (i - a)) a b := by
        rw [hL9o, HLG.out]
        exact Tb.alike_other tx i a b _ tk tm hai hib (by have := HM.out; omega) HWD.out.2.2.2.1 HWD.out.2.2.2.2 HEN.out HBG.out
      have hgo : ∀ y ∈ L9, Tb.good y := by
        rw [hL9o]
        exact Tb.good_other HLK.out HGG.out HKG.out HMG.out
      have HST := hide (fun (s : Tb.St) (hs : Tb.langOk s.lang = true) => hAl.steps t s HVA.out hs HGG.out hgo)
      have HPL := hide (show (kn : Int) + 1 + (i : Int) - (a : Int) = ((tk.length + 1 + (i - a) : Nat) : Int) by have := HKN.out; omega)
      obtain ⟨A9, c9, hv9, hc9, ht9⟩ := text_of_own HO9.out (by omega)
      subst hv9
      have HT9 := hide ht9
      obtain ⟨m9, hm9⟩ : ∃ m9, m9 = L9.length := ⟨_, rfl⟩
      have HM9 := hide hm9
      rw [← hm9] at hc9 ⊢
      have HX8 := hide (HXW.out.trans (HBX8.out.mono HXW.out.size))
      have HQ8 := hide (show Below wq.heap.size wq w8 from HXq.out.trans (HBX8.out.mono HXq.out.size))
      have hgtq := VTq.out.lt
      have VT8 := hide (VTq.out.below HQ8.out hgtq)
      clear hL9 hL9o hL9l hAl hgo ht9 hm9 HO9 HO8 HO7 HO6 HO5 HBX7 HBX6 HBX5 HS5 CS9 HL5 HBG HEN HWD HLK HLG HKG HMG HKN hcxq VTq
      generalize (kn : Int) + 1 + (i : Int) - (a : Int) = pl at *
      clear hkn0 hkn24 hai2 hib2 hbm2 ha0 hab2 hbc hL5l hab3 hX4s hbb hB0s hX5s hX6s hXq4 hX3s W3B HO3 BX3 XB hgbX HGB
      generalize t.r0.length = n0 at *
      obtain ⟨TV, hTV⟩ : ∃ TV : Value, TV = .agg #[.slice A0 n0 c0, .slice A1 t.r1.length c1, .slice t.dig.ad t.dig.l.length t.dig.c, .slice t.cap.ad t.cap.l.length t.cap.c, .slice t.num.ad t.num.l.length t.num.c, .slice t.fin.ad t.fin.l.length t.fin.c, .slice t.sw.ad t.sw.l.length t.sw.c] := ⟨_, rfl⟩
      have HTV := hide hTV.symm
      rw [← hTV] at HTAq
      clear hTV
      generalize t.r1.length = n1 at *
      generalize t.dig.l.length = n2 at *
      generalize t.cap.l.length = n3 at *
      generalize t.num.l.length = n4 at *
      generalize t.fin.l.length = n5 at *
      generalize t.sw.l.length = n6 at *
      go_wp2
      go_loopw [21] (fun s wr => ∃ lang : Nat, lang ≤ 2 ∧ s = .int .i64 (lang : Int) ∧ Below w8.heap.size w8 wr) (fun s _ => 2 - (intOf s).toNat)
      case atStart => exact ⟨0, by omega, rfl, Below.refl _ _⟩
      case round =>
        obtain ⟨lang, hla, rfl, hbel⟩ := hrel
        obtain ⟨wd, rfl⟩ : ∃ wd, wd = wr := ⟨wr, rfl⟩
        have HBD := hide hbel
        by_cases hl2 : (lang : Int) < 2
        · clear hbel
          go_upto_region 23 with fail
          refine name_world fun B hB => ?_
          have BZ := hide (show Blk B wd.heap.size 60 #[.int .i64 (lang : Int), .bool num, .bool false] by rw [← hB.out]; exact Blk.new wd _ _)
          have HDB := hide (show Below wd.heap.size wd B by rw [← hB.out]; exact below_alloc wd _)
          have H8B := hide (HBD.out.trans (HDB.out.mono HBD.out.size))
          clear hB HDB
          generalize wd.heap.size = gz at BZ ⊢
          have BT := hide (VT8.out.below H8B.out VT8.out.lt)
          have HTC := hide (fun (W : World) (hb : Below B.heap.size B W) => (show W.cell? ⟨gt, 0, none⟩ = some (.slice A0 n0 c0) ∧ W.cell? ⟨gt, 1, none⟩ = some (.slice A1 n1 c1) ∧ W.cell? ⟨gt, 2, none⟩ = some (.slice t.dig.ad n2 t.dig.c) ∧ W.cell? ⟨gt, 3, none⟩ = some (.slice t.cap.ad n3 t.cap.c) ∧ W.cell? ⟨gt, 4, none⟩ = some (.slice t.num.ad n4 t.num.c) ∧ W.cell? ⟨gt, 5, none⟩ = some (.slice t.fin.ad n5 t.fin.c) ∧ W.cell? ⟨gt, 6, none⟩ = some (.slice t.sw.ad n6 t.sw.c) from by
            have Q := BT.out.below hb BT.out.lt
            exact ⟨Q.cell 0, Q.cell 1, Q.cell 2, Q.cell 3, Q.cell 4, Q.cell 5, Q.cell 6⟩))
          have HZC := hide (fun (W : World) (hb : Below B.heap.size B W) => (show W.cell? ⟨gz, 0, none⟩ = some (.int .i64 (lang : Int)) ∧ W.cell? ⟨gz, 1, none⟩ = some (.bool num) ∧ W.cell? ⟨gz, 2, none⟩ = some (.bool false) from by
            have Q := BZ.out.below hb BZ.out.lt
            exact ⟨Q.cell 0, Q.cell 1, Q.cell 2⟩))
          obtain ⟨ZV, hZV⟩ : ∃ ZV : Value, ZV = .agg #[.int .i64 (lang : Int), .bool num, .bool false] := ⟨_, rfl⟩
          have HZV := hide hZV.symm
          have HZS := hide (show ZV = stV ⟨(lang : Int), num, false⟩ from hZV)
          clear hZV
          have hlk : Tb.langOk ((lang : Int)) = true := Tb.langOk_nat lang (by omega)
          have HQB := hide (show Below wq.heap.size wq B from HQ8.out.trans (H8B.out.mono HQ8.out.size))
          obtain ⟨L, hL⟩ : ∃ L, L = Tb.steps t ⟨(lang : Int), num, false⟩ tx (i : Int) := ⟨_, rfl⟩
          have hL2 : L = Tb.steps t ⟨(lang : Int), num, false⟩ L9 pl := by rw [hL, HPL.out]; exact HST.out _ hlk
          have CSA := hide (fun (W : World) (hb : Below B.heap.size B W) => (show Calls Try.prog 27 #[TV, ZV, .slice (some td) m c', .int .i64 (i : Int)] W fun e w' => ∃ v, e = .returned v ∧ gSps L w' v ∧ Below W.heap.size W w' from by
            rw [HM.out]
            exact steps_call TV t _ ZV HZS.out (some td) c' tx _ wq W HTAq.out HTXq.out (by have := HM.out; omega) (HQB.out.trans (hb.mono HQB.out.size)) L hL.symm))
          have CSB := hide (fun (W : World) (hb : Below B.heap.size B W) => (show Calls Try.prog 27 #[TV, ZV, .slice A9 m9 c9, .int .i64 pl] W fun e w' => ∃ v, e = .returned v ∧ gSps L w' v ∧ Below W.heap.size W w' from by
            rw [HM9.out]
            refine steps_call TV t _ ZV HZS.out A9 c9 L9 _ w8 W ((HTAq.out.below HQ8.out).more HQ8.out.size) HT9.out (by have := HM9.out; omega) (H8B.out.trans (hb.mono H8B.out.size)) L hL2.symm))
          clear hL hL2 hlk
          have B4 := hide (Below.refl B.heap.size B)
          refine wp_region_threeT 0 13 [some 139, some 140, some 141, some 142, some 143, some 144, some 145, some 146, some 147, some 148, some 149, some 150, some 151] (gAll (ks23 TV ZV (.slice (some td) m c') (.slice A9 m9 c9) (i : Int) pl L))
            (fun _ W => Below B.heap.size B W) (by decide) (by kernel_rfl) (by kernel_rfl) (by kernel_rfl) (by rfl) (by decide) (by rfl) (B4.out.drew) ?_ ?_ ?_
          · intro j hj hjm b A x W hC hd hr
            have stay : ∀ W', Below W.heap.size W W' → Below B.heap.size B W' := fun W' hb => hC.trans (hb.mono hC.size)
            have KSS := ks23_stab TV ZV (.slice (some td) m c') (.slice A9 m9 c9) (i : Int) pl L
            have hj' : j = 1 ∨ j = 2 ∨ j = 3 ∨ j = 4 ∨ j = 5 ∨ j = 6 ∨ j = 7 ∨ j = 8 ∨ j = 9 ∨ j = 10 ∨ j = 11 ∨ j = 12 := by omega
            rcases hj' with rfl | rfl | rfl | rfl | rfl | rfl | rfl | rfl | rfl | rfl | rfl | rfl
            · have e22 : A.tmps[22]?.getD undef = .pointer (some ⟨gz, 0, none⟩) := hr 22 (by decide)
              refine wpOp_step rfl (fun K' hK => ?_)
              obtain ⟨z0, z1, z2⟩ := HZC.out W hC
              go_simp
              exact hK _ _ ⟨_, rfl, HZV.out, fun _ _ _ h => h, hC⟩
            · have e14 : A.tmps[14]?.getD undef = .slice (some td) m c' := hr 14 (by decide)
              refine wpOp_step rfl (fun K' hK => ?_)
              go_simp
              exact hK _ _ ⟨_, rfl, rfl, fun _ _ _ h => h, hC⟩
            · have e15 : A.tmps[15]?.getD undef = .int .i64 (i : Int) := hr 15 (by decide)
              refine wpOp_step rfl (fun K' hK => ?_)
              go_simp
              exact hK _ _ ⟨_, rfl, rfl, fun _ _ _ h => h, hC⟩
            · have d0 : A.tmps[139]?.getD undef = TV := ((hd 0 (by decide)).1 139 rfl).trans (hd 0 (by decide)).2
              have d1 : A.tmps[140]?.getD undef = ZV := ((hd 1 (by decide)).1 140 rfl).trans (hd 1 (by decide)).2
              have d2 : A.tmps[141]?.getD undef = .slice (some td) m c' := ((hd 2 (by decide)).1 141 rfl).trans (hd 2 (by decide)).2
              have d3 : A.tmps[142]?.getD undef = .int .i64 (i : Int) := ((hd 3 (by decide)).1 142 rfl).trans (hd 3 (by decide)).2
              refine wpOp_step rfl (fun K' hK => ?_)
              go_simp
              go_at_call 27
              refine (CSA.out W hC).mono ?_
              rintro e W' ⟨v, rfl, hv, hb⟩
              exact hK _ _ ⟨_, rfl, hv, fun k' _ u h => gAll_below KSS hb k' u h, stay _ hb⟩
            · have d4 : A.tmps[143]?.getD undef = x 4 := (hd 4 (by decide)).1 143 rfl
              have r4 : gSps L W (x 4) := (hd 4 (by decide)).2
              refine wpOp_step rfl (fun K' hK => ?_)
              go_simp
              go_at_call 26
              refine (plain_call (x 4) L W r4).mono ?_
              rintro e W' ⟨v, rfl, hv, hb⟩
              exact hK _ _ ⟨_, rfl, hv, fun k' _ u h => gAll_below KSS hb k' u h, stay _ hb⟩
            · have e13 : A.tmps[13]?.getD undef = .pointer (some ⟨gt, 0, none⟩) := hr 13 (by decide)
              refine wpOp_step rfl (fun K' hK => ?_)
              obtain ⟨t0, t1, t2, t3, t4, t5, t6⟩ := HTC.out W hC
              go_simp
              exact hK _ _ ⟨_, rfl, HTV.out, fun _ _ _ h => h, hC⟩
            · have e22 : A.tmps[22]?.getD undef = .pointer (some ⟨gz, 0, none⟩) := hr 22 (by decide)
              refine wpOp_step rfl (fun K' hK => ?_)
              obtain ⟨z0, z1, z2⟩ := HZC.out W hC
              go_simp
              exact hK _ _ ⟨_, rfl, HZV.out, fun _ _ _ h => h, hC⟩
            · have e19 : A.tmps[19]?.getD undef = .slice A9 m9 c9 := hr 19 (by decide)
              refine wpOp_step rfl (fun K' hK => ?_)
              go_simp
              exact hK _ _ ⟨_, rfl, rfl, fun _ _ _ h => h, hC⟩
            · have e20 : A.tmps[20]?.getD undef = .int .i64 pl := hr 20 (by decide)
              refine wpOp_step rfl (fun K' hK => ?_)
              go_simp
              exact hK _ _ ⟨_, rfl, rfl, fun _ _ _ h => h, hC⟩
            · have d6 : A.tmps[145]?.getD undef = TV := ((hd 6 (by decide)).1 145 rfl).trans (hd 6 (by decide)).2
              have d7 : A.tmps[146]?.getD undef = ZV := ((hd 7 (by decide)).1 146 rfl).trans (hd 7 (by decide)).2
              have d8 : A.tmps[147]?.getD undef = .slice A9 m9 c9 := ((hd 8 (by decide)).1 147 rfl).trans (hd 8 (by decide)).2
              have d9 : A.tmps[148]?.getD undef = .int .i64 pl := ((hd 9 (by decide)).1 148 rfl).trans (hd 9 (by decide)).2
              refine wpOp_step rfl (fun K' hK => ?_)
              go_simp
              go_at_call 27
              refine (CSB.out W hC).mono ?_
              rintro e W' ⟨v, rfl, hv, hb⟩
              exact hK _ _ ⟨_, rfl, hv, fun k' _ u h => gAll_below KSS hb k' u h, stay _ hb⟩
            · have d10 : A.tmps[149]?.getD undef = x 10 := (hd 10 (by decide)).1 149 rfl
              have r10 : gSps L W (x 10) := (hd 10 (by decide)).2
              refine wpOp_step rfl (fun K' hK => ?_)
              go_simp
              go_at_call 26
              refine (plain_call (x 10) L W r10).mono ?_
              rintro e W' ⟨v, rfl, hv, hb⟩
              exact hK _ _ ⟨_, rfl, hv, fun k' _ u h => gAll_below KSS hb k' u h, stay _ hb⟩
            · have d5 : A.tmps[144]?.getD undef = x 5 := (hd 5 (by decide)).1 144 rfl
              have r5 : gSps L W (x 5) := (hd 5 (by decide)).2
              have d11 : A.tmps[150]?.getD undef = x 11 := (hd 11 (by decide)).1 150 rfl
              have r11 : gSps L W (x 11) := (hd 11 (by decide)).2
              refine wpOp_step rfl (fun K' hK => ?_)
              go_simp
              go_at_call 25
              refine (same_call (x 5) (x 11) L W r5 r11).mono ?_
              rintro e W' ⟨rfl, hb⟩
              exact hK _ _ ⟨_, rfl, rfl, fun k' _ u h => gAll_below KSS hb k' u h, stay _ hb⟩
          · intro A x W hC hd hr
            have stay : ∀ W', Below W.heap.size W W' → Below B.heap.size B W' := fun W' hb => hC.trans (hb.mono hC.size)
            have KSS := ks23_stab TV ZV (.slice (some td) m c') (.slice A9 m9 c9) (i : Int) pl L
            have e13 : A.tmps[13]?.getD undef = .pointer (some ⟨gt, 0, none⟩) := hr 13 (by decide)
            refine wpOp_step rfl (fun K' hK => ?_)
            obtain ⟨t0, t1, t2, t3, t4, t5, t6⟩ := HTC.out W hC
            go_simp
            exact hK _ _ ⟨_, rfl, HTV.out, fun _ _ _ h => h, hC⟩
          · intro x W hC hR
            have hxp : x 12 = .bool true := hR 12 (by decide)
            refine wpOp_step rfl (fun K' hK => ?_)
            simp only [putL, Act.put, Nat.zero_add, Nat.reduceAdd, List.setIfInBounds_toArray, List.set_cons_succ, List.set_cons_zero]
            rw [hxp]
            generalize x 0 = y0
            generalize x 1 = y1
            generalize x 2 = y2
            generalize x 3 = y3
            generalize x 4 = y4
            generalize x 5 = y5
            generalize x 6 = y6
            generalize x 7 = y7
            generalize x 8 = y8
            generalize x 9 = y9
            generalize x 10 = y10
            generalize x 11 = y11
            go_simp
            refine hK _ _ ?_
            clear hK K' hxp hR
            have HBF := hide (H8B.out.trans (hC.mono H8B.out.size))
            clear hC
            go_wp2
            exact ⟨⟨lang + 1, by omega, by go_num, HBF.out⟩, by simp [intOf]; omega⟩
        · have HWE := hide (HX8.out.trans (hbel.mono HX8.out.size))
          clear hbel
          go_wp2_with (go_at_call 12; refine (unhide CL _).mono ?_; rintro e w4 ⟨rfl, hb4⟩; have B4 := hide (HWE.out.trans (hb4.mono HWE.out.size)); clear hb4)
          go_ret
          exact ⟨rfl, B4.out⟩
end Go.Proofs.Ytbcfndhnopmbbaa
