/-
  The reference's Public, Sign, by contract.
-/
import Derived.Test.YtedgjpoejoepjaaDoorRefTree
namespace Go.Proofs.YtedgjpoejoepjaaDoor
open Go.RowKit
set_option linter.unusedVariables false
set_option linter.unusedSimpArgs false

namespace Sg
open Classical in
/-- what Public answers -/
noncomputable def pubR (s : List UInt8) (h : Int) : List UInt8 × Int := if s.length = 32 ∧ 0 ≤ h ∧ h ≤ 6 then (pub s h.toNat, 0) else (Z16, 1)
open Classical in
/-- what Sign answers -/
noncomputable def sigR (s : List UInt8) (h i : Int) (m : List UInt8) : List UInt8 × Int :=
  if ¬ (s.length = 32 ∧ 0 ≤ h ∧ h ≤ 6) then ([], 1) else if ¬ (0 ≤ i ∧ i < ((2 ^ h.toNat : Nat) : Int)) then ([], 27) else if 1048576 < m.length then ([], 4) else (sig s h.toNat i.toNat m, 0)
theorem pubR_len (s : List UInt8) (h : Int) : (pubR s h).1.length = 16 := by
  unfold pubR
  split
  · exact node_len _ _ _
  · rfl
end Sg
set_option maxHeartbeats 1000000 in
set_option maxRecDepth 100000 in
theorem refPublic_any (s : List UInt8) (h : Int) (w : World) (hK : RKLaid w) :
    Calls Tryd.prog 13 #[.string (S s), .int .i64 h] w fun e w' => e = .returned (.tuple #[.agg (BV (Sg.pubR s h).1).toArray, .int .i64 (Sg.pubR s h).2]) ∧ Below w.heap.size w w' := by
  have CF := hide (fun (W : World) => refFits_any s h W)
  have HK := hide hK
  have hzs := zero16
  by_cases hf : s.length = 32 ∧ 0 ≤ h ∧ h ≤ 6
  · rw [decide_eq_true hf] at CF
    have HR := hide (show Sg.pubR s h = (Sg.pub s h.toNat, 0) by unfold Sg.pubR; rw [if_pos hf])
    obtain ⟨n, rfl⟩ : ∃ n : Nat, h = n := ⟨h.toNat, by omega⟩
    rw [Int.toNat_natCast] at HR
    have CL := hide (fun (W : World) hK => refLevels_any s n W hf.1 (by omega) hK)
    have hpl : (Sg.pub s n).length = 16 := Sg.node_len _ _ _
    have hno : Sg.node s n 0 = Sg.pub s n := rfl
    have hn0 : (0 : Int) ≤ (n : Int) := by omega
    clear hf hK
    go_enter Tryd.func13, Tryd.ntmps13
    go_upto_region 1 with fail
    refine name_world fun V hV => ?_
    have D4 := hide (show Dig V w.heap.size Z16 by rw [← hV.out]; exact Dig.new w Z16 rfl)
    have HV := hide (show Below w.heap.size w V by rw [← hV.out]; exact (Below.refl _ _).alloc (Nat.le_refl _) _)
    clear hV hzs
    go_upto_region 4 with (go_at_call 23; refine (CF.out V).mono ?_; rintro e x0 ⟨rfl, hb0⟩; have X0 := hide (HV.out.trans (hb0.mono HV.out.size)); have E4 := hide (D4.out.below hb0 D4.out.2.lt); clear hb0)
    go_wp2_with (first
      | (go_at_call 24; (with_reducible refine (unhide CL x0 (HK.out.below X0.out (Nat.le_refl _))).mono ?_); rintro e x1 ⟨v, R, rfl, ht, hb1⟩; obtain ⟨ob, cap, rfl, hob, hcells⟩ := ht.form; obtain ⟨g, c, hR, hg, hrange⟩ := ht.rowForm n (Nat.le_refl _); have hcell := hcells n (Nat.le_refl _); rw [hR, Nat.sub_self, Nat.pow_zero] at hcell; have hrg := hrange 0 (by rw [Nat.sub_self, Nat.pow_zero]; omega); rw [hno, Nat.zero_mul] at hrg; have HRG := hide hrg; have X1 := hide (X0.out.trans (hb1.mono X0.out.size)); have F4 := hide (E4.out.below hb1 E4.out.2.lt); clear hb1 hcells hR hrange hrg ht)
      | (with_reducible refine wpList_load_bes rfl (.tmp 19) rfl g 0 (Sg.pub s n) rfl HRG.out hpl ?_)
      | (with_reducible refine wpList_store_dig rfl (.tmp 4) (.tmp 20) rfl w.heap.size Z16 (Sg.pub s n) rfl rfl F4.out hpl ?_; intro U hU))
    exact bodyPost_ret (v := .tuple #[.agg (BV (Sg.pub s n)).toArray, .int .i64 0]) (results_cell_tmp1 Tryd.results13 _ _ ⟨w.heap.size, 0, none⟩ _ rfl (F4.out.put hpl hU).result) rfl ⟨by rw [HR.out], below_row X1.out (Nat.le_refl _) hU⟩
  · rw [decide_eq_false hf] at CF
    have HR := hide (show Sg.pubR s h = (Z16, 1) by unfold Sg.pubR; rw [if_neg hf])
    clear hf hK
    go_enter Tryd.func13, Tryd.ntmps13
    go_upto_region 1 with fail
    refine name_world fun V hV => ?_
    have D4 := hide (show Dig V w.heap.size Z16 by rw [← hV.out]; exact Dig.new w Z16 rfl)
    have HV := hide (show Below w.heap.size w V by rw [← hV.out]; exact (Below.refl _ _).alloc (Nat.le_refl _) _)
    clear hV hzs
    go_wp2_with (first
      | (go_at_call 23; refine (CF.out V).mono ?_; rintro e x0 ⟨rfl, hb0⟩; have X0 := hide (HV.out.trans (hb0.mono HV.out.size)); have E4 := hide (D4.out.below hb0 D4.out.2.lt); clear hb0)
      | (with_reducible refine wpList_build_dig rfl rfl (some 12) rfl ?_)
      | (with_reducible refine wpList_store_dig rfl (.tmp 4) (.tmp 12) rfl w.heap.size Z16 Z16 rfl rfl E4.out rfl ?_; intro U hU))
    exact bodyPost_ret (v := .tuple #[.agg (BV Z16).toArray, .int .i64 1]) (results_cell_tmp1 Tryd.results13 _ _ ⟨w.heap.size, 0, none⟩ _ rfl (E4.out.put rfl hU).result) rfl ⟨by rw [HR.out], below_row X0.out (Nat.le_refl _) hU⟩

set_option maxHeartbeats 1000000 in
set_option maxRecDepth 100000 in
theorem refSign_arg (s m : List UInt8) (h i : Int) (w : World) (hf : ¬ (s.length = 32 ∧ 0 ≤ h ∧ h ≤ 6)) :
    Calls Tryd.prog 15 #[.string (S s), .int .i64 h, .int .i64 i, .string (S m)] w fun e w' => e = .returned (.tuple #[.string (S []), .int .i64 1]) ∧ Below w.heap.size w w' := by
  have CF := hide (fun (W : World) => refFits_any s h W)
  rw [decide_eq_false hf] at CF
  clear hf
  go_enter Tryd.func15, Tryd.ntmps15
  go_wp2_with (go_at_call 23; refine (CF.out w).mono ?_; rintro e x0 ⟨rfl, hb0⟩; have X0 := hide hb0; clear hb0)
  go_ret2
  exact ⟨rfl, X0.out⟩
set_option maxHeartbeats 1000000 in
set_option maxRecDepth 100000 in
theorem refSign_spent (s m : List UInt8) (h : Nat) (i : Int) (w : World) (hs : s.length = 32) (hh : h ≤ 6) (hb : ¬ (0 ≤ i ∧ i < ((2 ^ h : Nat) : Int))) :
    Calls Tryd.prog 15 #[.string (S s), .int .i64 (h : Int), .int .i64 i, .string (S m)] w fun e w' => e = .returned (.tuple #[.string (S []), .int .i64 27]) ∧ Below w.heap.size w w' := by
  have CF := hide (fun (W : World) => refFits_any s h W)
  rw [decide_eq_true ⟨hs, by omega, by omega⟩] at CF
  have hh0 : (0 : Int) ≤ (h : Int) := by omega
  have hh6 : (h : Int) ≤ 6 := by omega
  by_cases h0 : i < 0
  · have ht1 : decide (i < 0) = true := by simp; exact h0
    clear hb hs hh
    go_enter Tryd.func15, Tryd.ntmps15
    go_wp2_with (go_at_call 23; refine (CF.out w).mono ?_; rintro e x0 ⟨rfl, hb0⟩; have X0 := hide hb0; clear hb0)
    go_ret2
    exact ⟨rfl, X0.out⟩
  · have ht1 : decide (i < 0) = false := by simp; omega
    have hge : wrap64 (2 ^ h) ≤ i := by rw [wrap_shl h hh]; omega
    have ht2 : decide (wrap64 (2 ^ h) ≤ i) = true := by simp; exact hge
    have h0' : 0 ≤ i := by omega
    clear hb hs hh h0
    go_enter Tryd.func15, Tryd.ntmps15
    go_wp2_with (go_at_call 23; refine (CF.out w).mono ?_; rintro e x0 ⟨rfl, hb0⟩; have X0 := hide hb0; clear hb0)
    go_ret2
    exact ⟨rfl, X0.out⟩
set_option maxHeartbeats 2000000 in
set_option maxRecDepth 100000 in
theorem refSign_ok (s m : List UInt8) (h i : Nat) (w : World) (hs : s.length = 32) (hh : h ≤ 6) (hi : i < 2 ^ h) (hm : m.length ≤ 1048576) (hK : RKLaid w) :
    Calls Tryd.prog 15 #[.string (S s), .int .i64 (h : Int), .int .i64 (i : Int), .string (S m)] w fun e w' => e = .returned (.tuple #[.string (S (Sg.sig s h i m)), .int .i64 0]) ∧ Below w.heap.size w w' := by
  have hi64 : i < 64 := Nat.lt_of_lt_of_le hi (Nat.pow_le_pow_right (by omega) hh)
  have hii : Wr.inI (i : Int) := by unfold Wr.inI; omega
  have CF := hide (fun (W : World) => refFits_any s h W)
  rw [decide_eq_true ⟨hs, by omega, by omega⟩] at CF
  have CL := hide (fun (W : World) hK => refLevels_any s h W hs hh hK)
  have hml : ¬ (1048576 : Int) < (((S m).size : Nat) : Int) := by rw [S_size]; omega
  have hpl : (Sg.pub s h).length = 16 := Sg.node_len _ _ _
  have hno : Sg.node s h 0 = Sg.pub s h := rfl
  have CD := hide (fun (W : World) hK => refDigest_any (Sg.pub s h) m i W hpl hii (by omega) hK)
  have hdl : (Sg.digestP (Sg.pub s h) i m).length = 16 := Sg.ofB_len _ _
  have CG := hide (fun (W : World) => refDigits_any (Sg.digestP (Sg.pub s h) i m) W hdl)
  have CI := hide (fun (W : World) => refInt_any i W hii)
  have hsh : (i : Int) < wrap64 (2 ^ h) := by rw [wrap_shl h hh]; omega
  have hel := Wr.enc_le (i : Int)
  obtain ⟨F, hF⟩ : ∃ F : Nat → List UInt8, F = fun c : Nat => Sg.adv i c (Sg.start s i c) 0 (Sg.dig (Sg.digestP (Sg.pub s h) i m) c) := ⟨_, rfl⟩
  obtain ⟨G, hG⟩ : ∃ G : Nat → List UInt8, G = fun l : Nat => Sg.node s l (Sg.sib (i / 2 ^ l)) := ⟨_, rfl⟩
  have HSIG := hide (show Sg.sig s h i m = Wr.enc i ++ (Sg.cat 68 F ++ Sg.cat h G) by rw [hF, hG]; rfl)
  have hFl : ∀ c, (F c).length = 16 := fun c => by rw [hF]; exact Sg.adv_len _ _ _ _ (Sg.start_len _ _ _) _
  have hGl : ∀ c, (G c).length = 16 := fun c => by rw [hG]; exact Sg.node_len _ _ _
  have HFF := hide hF
  have HGG := hide hG
  have HFL := hide hFl
  have HGL := hide hGl
  clear hF hG hFl hGl
  generalize Sg.sig s h i m = SIG at *
  generalize Sg.digestP (Sg.pub s h) i m = DP at *
  generalize Sg.pub s h = P at *
  have HK := hide hK
  have HH := hide hh
  have HS := hide hs
  have HII := hide hii
  have HEL := hide hel
  have HI := hide hi
  have hh0 : (0 : Int) ≤ (h : Int) := by omega
  have hh6 : (h : Int) ≤ 6 := by omega
  have hi0 : (0 : Int) ≤ (i : Int) := by omega
  clear hK hs hm hi hii hel hdl hh
  generalize hzz : (i : Int) = z at *
  have HZZ := hide hzz
  clear hzz
  have ht1 : decide (z < 0) = false := by simp; exact hi0
  have ht2 : decide (wrap64 (2 ^ h) ≤ z) = false := by simp; exact hsh
  generalize hen : Wr.enc z = en at *
  have HEN := hide hen
  clear hen
  go_enter Tryd.func15, Tryd.ntmps15
  go_upto_region 8 with (go_at_call 23; refine (CF.out w).mono ?_; rintro e x0 ⟨rfl, hb0⟩; have X0 := hide hb0; clear hb0)
  clear ht1 ht2 hsh CF
  go_upto_region 9 with (go_at_call 24; (with_reducible refine (unhide CL x0 (HK.out.below X0.out (Nat.le_refl _))).mono ?_); rintro e x1 ⟨v, R, rfl, ht, hb1⟩; obtain ⟨ob, cap, rfl, hob, hcells⟩ := ht.form; obtain ⟨g, c, hR, hg, hrange⟩ := ht.rowForm h (Nat.le_refl _); have hcell := hcells h (Nat.le_refl _); rw [hR, Nat.sub_self, Nat.pow_zero] at hcell; have hrg := hrange 0 (by rw [Nat.sub_self, Nat.pow_zero]; omega); rw [hno, Nat.zero_mul] at hrg; have HRG := hide hrg; have X1 := hide (X0.out.trans (hb1.mono X0.out.size)); have HT := hide ht; clear hb1 hcells hR hrange hrg ht)
  go_upto_region 10 with (first
    | (with_reducible refine wpList_load_bes rfl (.tmp 41) rfl g 0 P rfl HRG.out hpl ?_)
    | (go_at_call 17; (with_reducible refine (unhide CD x1 (HK.out.below X1.out (Nat.le_refl _))).mono ?_); rintro e x2 ⟨rfl, hb2⟩; have B2 := hide hb2; clear hb2)
    | (go_at_call 11; refine (unhide CG x2).mono ?_; rintro e x3 ⟨vb, rfl, hob3, hb3⟩; have B3 := hide hb3; have OB := hide hob3; clear hb3 hob3))
  have hs2 := B2.out.size
  have hs3 := B3.out.size
  have BX := hide (B2.out.trans (B3.out.mono hs2))
  obtain ⟨gb, cap3, hve, hcap, hcb⟩ : ∃ gb cap, vb = .slice (some ⟨gb, 0, none⟩) 68 cap ∧ 68 ≤ cap ∧ ∃ cur, Blk x3 gb 3 cur ∧ ∀ j, j < 68 → cur[j]? = (IV (Sg.digits DP))[j]? := by
    rcases OB.out.2 with ⟨_, h0⟩ | ⟨g, cap, cur, h1, h2, h3, h4, h5, h6, h7⟩
    · exact absurd h0 (by decide)
    · refine ⟨g, cap, h1, h4, cur, h3, fun j hj => ?_⟩
      rw [← h7, List.getElem?_take, if_pos (by omega), Array.getElem?_toList]
  obtain ⟨cur, hcb, hcur⟩ := hcb
  subst hve
  have KB := hide hcb
  have HCUR := hide hcur
  clear hcb hcur OB CD CG B2 B3 hcell HRG CL
  go_upto_region 12 with (go_at_call 29; refine (unhide CI x3).mono ?_; rintro e x4 ⟨v4, rfl, hown4, hb4⟩; obtain ⟨A4, c4, rfl, _, _⟩ := own_slice hown4; have hcv := conv_own hown4 (Below.refl x4.heap.size x4); have B4 := hide hb4; have KB4 := hide (KB.out.below hb4 KB.out.lt); clear hown4 hb4)
  clear hcv KB CI
  have hs4 := B4.out.size
  have BX4 := hide (BX.out.trans (B4.out.mono BX.out.size))
  have hx1w := X1.out.size
  go_loopw [13, 14] (fun s13 s14 wr => ∃ n : Nat, n ≤ 68 ∧ s14 = .int .i64 (n : Int) ∧ s13 = .string (S (en ++ Sg.cat n F)) ∧ Blk wr gb 3 cur ∧ Below x1.heap.size x1 wr) (fun _ s14 _ => 68 - (intOf s14).toNat)
  case atStart => exact ⟨0, by omega, rfl, by rw [Sg.cat_zero, List.append_nil], KB4.out, BX4.out⟩
  case round =>
    obtain ⟨n, hn, rfl, rfl, hKB, hbel⟩ := hrel
    obtain ⟨wd, rfl⟩ : ∃ wd, wd = wr := ⟨wr, rfl⟩
    have EB := hide hKB
    have HB := hide hbel
    have HBW := hide (X1.out.trans (hbel.mono hx1w))
    clear hKB hbel KB4 BX4
    by_cases hlt : n < 68
    · have hel := HEL.out
      have hni : Wr.inI (n : Int) := by unfold Wr.inI; omega
      have hcell : wd.cell? ⟨gb, n, none⟩ = some (.int .i64 ((Sg.dig DP n : Nat) : Int)) := by rw [EB.out.cell, HCUR.out n hlt, ← List.getElem?_toArray]; exact IV_get _ _ _ (Sg.digits_get DP n hlt)
      have hsl := Sg.start_len s z n
      have hdle := Sg.dig_le DP n
      have CS := hide (fun (W : World) hK => refStart_any s z n W HS.out HII.out hni hK)
      have CA := hide (fun (W : World) hK => (show Calls Tryd.prog 31 #[.int .i64 z, .int .i64 (n : Int), .int .i64 0, .int .i64 ((Sg.dig DP n : Nat) : Int), .agg (BV (Sg.start s z n)).toArray] W fun e w' => e = .returned (.agg (BV (F n)).toArray) ∧ Below W.heap.size W w' from by
        have := refAdvance_any z n (Sg.start s z n) 0 (Sg.dig DP n) W HII.out hni hsl (by omega) hK
        rw [Nat.zero_add] at this
        rw [HFF.out]
        exact this))
      have hfl := HFL.out n
      have CT := hide (fun (W : World) => text_any (F n) W hfl)
      have hcl := Sg.cat_len F n (fun k _ => HFL.out k)
      have hcs : ¬ 9223372036854775807 < (S (en ++ Sg.cat n F)).size + (S (F n)).size := by rw [S_size, S_size, List.length_append]; omega
      have hsc := S_cat (en ++ Sg.cat n F) (F n)
      rw [List.append_assoc, ← Sg.cat_succ] at hsc
      have htest : (n : Int) < 68 := by omega
      have hn0 : (0 : Int) ≤ (n : Int) := by omega
      have HLT := hide hlt
      have hcap2 : (n : Int) < 68 := by omega
      generalize hc1 : Sg.cat (n + 1) F = CN at *
      have HC1 := hide hc1
      generalize en ++ Sg.cat n F = C0 at *
      generalize F n = fn at *
      generalize ((Sg.dig DP n : Nat) : Int) = dd at *
      generalize Sg.start s z n = st at *
      clear hni hcl hc1 hlt hfl hsl hel hdle
      have W0 := Below.refl wd.heap.size wd
      have hEl := EB.out.lt
      have hbs := HB.out.size
      have HHC := hide (fun (W' : World) (hb : Below wd.heap.size wd W') => (show W'.cell? ⟨gb, n, none⟩ = some (.int .i64 dd) from by rw [(EB.out.below hb hEl).cell, ← EB.out.cell]; exact hcell))
      have HX1 := hide (fun (W' : World) (hb : Below wd.heap.size wd W') => (show RKLaid W' from HK.out.below (HBW.out.trans (hb.mono HBW.out.size)) (Nat.le_refl _)))
      go_upto_region 14 with fail
      go_region_held (fun w' => w'.cell? ⟨gb, n, none⟩ = some (.int .i64 dd))
        (first | exact unhide HHC _ W0.drew | exact unhide HHC _ hX1 | exact unhide HHC _ hX2 | exact unhide HHC _ hX3)
        (first
        | (go_at_call 32; (with_reducible refine (unhide CS wd.drew (unhide HX1 _ W0.drew)).mono ?_); rintro e y1 ⟨rfl, hb1⟩; have hX1 : Below wd.heap.size wd y1 := from_here W0.drew hb1)
        | (go_at_call 31; (with_reducible refine (unhide CA y1 (unhide HX1 _ hX1)).mono ?_); rintro e y2 ⟨rfl, hb2⟩; have hX2 : Below wd.heap.size wd y2 := from_here hX1 hb2)
        | (go_at_call 30; (with_reducible refine (unhide CT y2).mono ?_); rintro e y3 ⟨rfl, hb3⟩; have hX3 : Below wd.heap.size wd y3 := from_here hX2 hb3))
      all_goals
        go_wp2
        exact ⟨⟨n + 1, HLT.out, by go_num, by rw [HC1.out], EB.out.below hX3 hEl, HB.out.trans (hX3.mono hbs)⟩, by have := HLT.out; simp [intOf]; omega⟩
    · obtain rfl : n = 68 := by omega
      obtain ⟨pre, hpre⟩ : ∃ pre, pre = en ++ Sg.cat 68 F := ⟨_, rfl⟩
      have hprl : pre.length ≤ 1200 := by rw [hpre, List.length_append, Sg.cat_len F 68 (fun k _ => HFL.out k)]; have := HEL.out; omega
      have HPRL := hide hprl
      have HPRE := hide hpre
      rw [← hpre]
      clear hpre hprl hlt EB HCUR
      rw [show ((68 : Nat) : Int) = 68 from rfl]
      go_upto_region 17 with fail
      go_loopw [13, 15, 16] (fun s13 s15 s16 wr => ∃ l : Nat, l ≤ h ∧ s16 = .int .i64 (l : Int) ∧ s15 = .int .i64 ((i / 2 ^ l : Nat) : Int) ∧ s13 = .string (S (pre ++ Sg.cat l G)) ∧ Below x1.heap.size x1 wr) (fun _ _ s16 _ => h - (intOf s16).toNat)
      case atStart => exact ⟨0, by omega, rfl, by rw [← HZZ.out]; simp, by rw [Sg.cat_zero, List.append_nil], HB.out⟩
      case round =>
        obtain ⟨l, hl, rfl, rfl, rfl, hbel⟩ := hrel
        obtain ⟨we, rfl⟩ : ∃ we, we = wr := ⟨wr, rfl⟩
        have HE := hide hbel
        have HEW := hide (X1.out.trans (hbel.mono hx1w))
        have hes := hbel.size
        by_cases hlt : l < h
        · obtain ⟨ob', cap', hv', hob', hcells⟩ := HT.out.form
          injection hv' with e1 e2 e3
          injection e1 with e1
          injection e1 with e1
          subst e1
          clear e2
          subst e3
          obtain ⟨g2, c2, hR, hg2, hrange⟩ := HT.out.rowForm l hl
          have hcell : we.cell? ⟨ob, l, none⟩ = some (.slice (some ⟨g2, 0, none⟩) (2 ^ (h - l)) c2) := by rw [hbel.cell hob', hcells l hl, hR]
          obtain ⟨x, hx⟩ : ∃ x : Nat, x = i / 2 ^ l := ⟨_, rfl⟩
          have hxp : x < 2 ^ (h - l) := by
            rw [hx, Nat.div_lt_iff_lt_mul (Nat.two_pow_pos l), ← Nat.pow_add, show h - l + l = h by omega]
            exact HI.out
          have hp2 : 2 ^ (h - l) = 2 * 2 ^ (h - l - 1) := by
            conv => lhs; rw [show h - l = h - l - 1 + 1 by omega, Nat.pow_succ, Nat.mul_comm]
          have hp64 : 2 ^ (h - l) ≤ 64 := by exact show 2 ^ (h - l) ≤ 2 ^ 6 from Nat.pow_le_pow_right (by omega) (by have := HH.out; omega)
          obtain ⟨y, hy⟩ : ∃ y : Nat, y = Sg.sib x := ⟨_, rfl⟩
          have hyp : y < 2 ^ (h - l) := by rw [hy]; unfold Sg.sib; split <;> omega
          have hrg : we.rangeAt g2 (y * 16) (BV (Sg.node s l y)) := fun j v hj => (hbel.cell (show (⟨g2, y * 16 + j, none⟩ : Addr).block < x1.heap.size from hg2)).trans (hrange y hyp j v hj)
          have hgl : Sg.node s l y = G l := by rw [HGG.out, hy, hx]
          rw [hgl] at hrg
          have hgn := HGL.out l
          have CT := hide (fun (W : World) => text_any (G l) W hgn)
          have hcl := Sg.cat_len G l (fun k _ => HGL.out k)
          have hcs : ¬ 9223372036854775807 < (S (pre ++ Sg.cat l G)).size + (S (G l)).size := by rw [S_size, S_size, List.length_append]; have := HPRL.out; have := HH.out; omega
          have hsc := S_cat (pre ++ Sg.cat l G) (G l)
          rw [List.append_assoc, ← Sg.cat_succ] at hsc
          have hqn : i / 2 ^ (l + 1) = x / 2 := by rw [hx, Nat.pow_succ, Nat.div_div_eq_div_mul]
          have HQ := hide hqn
          have HQ2 := hide (show wrap64 ((x : Int) / 2) = ((x / 2 : Nat) : Int) by unfold wrap64; omega)
          rw [← hx]
          have HRG := hide hrg
          have HLT := hide hlt
          have htest : (l : Int) < (h : Int) := by omega
          have hl0 : (0 : Int) ≤ (l : Int) := by omega
          have hl1 : (l : Int) < ((h + 1 : Nat) : Int) := by omega
          have hy0 : (0 : Int) ≤ (y : Int) := by omega
          generalize hc1 : Sg.cat (l + 1) G = CN at *
          have HC1 := hide hc1
          generalize pre ++ Sg.cat l G = C0 at *
          generalize G l = gl at *
          generalize 2 ^ (h - l) = p at *
          have hyp2 : (y : Int) < (p : Int) := by omega
          have HGN := hide hgn
          by_cases hpar : x % 2 = 0
          · have hqm : (x : Int) % 2 = 0 := by omega
            have hyx : y = x + 1 := by rw [hy]; unfold Sg.sib; rw [if_pos hpar]
            have hw1 : IntKind.i64.wrap ((x : Int) + 1) = (y : Int) := by rw [IntWalk.i64_in _ (by omega)]; omega
            clear hpar hyx hy hyp hxp hp2 hp64 hx hbel hlt hrg hrange hR hcells hcl hgl hqn hc1 hgn
            go_wp2_with (first
              | (with_reducible refine wpList_load_bes rfl (.tmp 87) rfl g2 (y * 16) gl rfl HRG.out HGN.out ?_)
              | (go_at_call 30; (with_reducible refine (unhide CT we).mono ?_); rintro e y3 ⟨rfl, hb3⟩; have X3 := hide hb3; clear hb3))


            exact ⟨⟨l + 1, HLT.out, by go_num, by rw [HQ.out, ← HQ2.out], by rw [HC1.out], HE.out.trans (X3.out.mono hes)⟩, by have := HLT.out; simp [intOf]; omega⟩
          · have hqm : (x : Int) % 2 = 1 := by omega
            have hyx : y = x - 1 := by rw [hy]; unfold Sg.sib; rw [if_neg hpar]
            have hw2 : IntKind.i64.wrap ((x : Int) - 1) = (y : Int) := by rw [IntWalk.i64_in _ (by omega)]; omega
            have hw1 : IntKind.i64.wrap ((x : Int) + 1) = ((x + 1 : Nat) : Int) := by rw [IntWalk.i64_in _ (by omega)]; omega
            generalize ((x + 1 : Nat) : Int) = x1' at *
            clear hpar hyx hy hyp hxp hp2 hp64 hx hbel hlt hrg hrange hR hcells hcl hgl hqn hc1 hgn
            go_wp2_with (first
              | (with_reducible refine wpList_load_bes rfl (.tmp 87) rfl g2 (y * 16) gl rfl HRG.out HGN.out ?_)
              | (go_at_call 30; (with_reducible refine (unhide CT we).mono ?_); rintro e y3 ⟨rfl, hb3⟩; have X3 := hide hb3; clear hb3))
            exact ⟨⟨l + 1, HLT.out, by go_num, by rw [HQ.out, ← HQ2.out], by rw [HC1.out], HE.out.trans (X3.out.mono hes)⟩, by have := HLT.out; simp [intOf]; omega⟩
        · obtain rfl : l = h := by omega
          have hsig : pre ++ Sg.cat l G = SIG := by rw [HPRE.out, HSIG.out, List.append_assoc]
          rw [hsig]
          have hnlt : ¬ ((l : Int) < (l : Int)) := by omega
          clear hsig hbel hlt
          go_wp2
          go_ret2
          exact ⟨rfl, HEW.out⟩
end Go.Proofs.YtedgjpoejoepjaaDoor
