/-
  Sign, by contract.
  Sign's errors, by contract.
-/
import Derived.Test.YtedgjpoejoepjaaDoorDigits
namespace Go.Proofs.YtedgjpoejoepjaaDoor
open Go.RowKit
set_option linter.unusedVariables false
set_option linter.unusedSimpArgs false

theorem Bes.range {w : World} {g0 h : Nat} {f : Nat → List UInt8} (e : Bes w g0 h f) (l : Nat) (hl : l < h) : w.rangeAt g0 (l * 16) (BV (f l)) := by
  obtain ⟨m, rfl⟩ := Nat.le.dest hl
  have h2 := e.2
  have hc := Sg.cat_len f l (fun k _ => e.1 k)
  rw [Sg.cat_add, Sg.cat_succ, BV_append, BV_append, List.append_assoc] at h2
  exact Blk.range (BV (Sg.cat l f)) (BV (f l)) (BV (Sg.cat m fun j => f (l + 1 + j))) h2 (l * 16) (by rw [BV_len, hc]; omega)
theorem wpList_load_bes {w : World} {ops : Array Oper} {rest : List Oper} {o : Oper} {a : Act} {Q : Exit → Act → World → Prop} (hgd : o.guard = none) (x : Operand) (ho : o.op = .load 23 x)
    (g n : Nat) (d : List UInt8) (hx : a.eval x = .pointer (some ⟨g, n, none⟩)) (hr : w.rangeAt g n (BV d)) (hd : d.length = 16) (h : wpList Tryd.prog ops Q rest (a.put o.dst (.agg (BV d).toArray)) w) : wpList Tryd.prog ops Q (o :: rest) a w :=
  wpList_load_mid hgd 23 x ho g n hx (BV d) _ hr Tryd.underlying23 rfl (by rw [BV_len, hd]; exact size16) h

set_option maxHeartbeats 4000000 in
set_option maxRecDepth 100000 in
theorem sign_ok (s m : List UInt8) (h i : Nat) (w : World) (hs : s.length = 32) (hh : h ≤ 6) (hi : i < 2 ^ h) (hm : m.length ≤ 1048576) (hK : KLaid w) :
    Calls Tryd.prog 14 #[.string (S s), .int .i64 (h : Int), .int .i64 (i : Int), .string (S m)] w fun e w' => e = .returned (.tuple #[.string (S (Sg.sig s h i m)), .int .i64 0]) ∧ Below w.heap.size w w' := by
  obtain ⟨i0, hi0, hz0, hz1, hz2⟩ := info_parts byteInfo
  have HI := hide hi0
  have HZ0 := hide hz0
  have HZ1 := hide hz1
  have HZ2 := hide hz2
  have hi64 : i < 64 := Nat.lt_of_lt_of_le hi (Nat.pow_le_pow_right (by omega) hh)
  have hii : Wr.inI (i : Int) := by unfold Wr.inI; omega
  have CV := hide (fun (W : World) => valid_any s h W (by omega))
  rw [decide_eq_true (by omega)] at CV
  have CW := hide (fun (W : World) => within_any i h W hh)
  rw [decide_eq_true (by omega)] at CW
  have hml : ¬ (1048576 : Int) < (((S m).size : Nat) : Int) := by rw [S_size]; omega
  have CT := hide (fun (W : World) hK => tree_any s h i W hs hh hi hK)
  have CI := hide (fun (W : World) => int_any i W hii)
  have hpl : (Sg.pub s h).length = 16 := Sg.node_len s h 0
  have CD := hide (fun (W : World) hK => digest_any (Sg.pub s h) m i W hpl hii (by omega) hK)
  have hdl : (Sg.digestP (Sg.pub s h) i m).length = 16 := Sg.ofB_len _ _
  have CG := hide (fun (W : World) => digits_any (Sg.digestP (Sg.pub s h) i m) W hdl)
  have HSIG := hide (show Sg.sig s h i m = Wr.enc i ++ (Sg.cat 68 (fun c => Sg.adv i c (Sg.start s i c) 0 (Sg.dig (Sg.digestP (Sg.pub s h) i m) c)) ++ Sg.cat h fun l => Sg.node s l (Sg.sib (i / 2 ^ l))) from rfl)
  have hel := Wr.enc_le (i : Int)
  generalize Sg.sig s h i m = SIG at *
  generalize Sg.digestP (Sg.pub s h) i m = DP at *
  generalize Sg.pub s h = P at *
  have HK := hide hK
  have HH := hide hh
  have HS := hide hs
  have HII := hide hii
  have HEL := hide hel
  have HDL := hide hdl
  have hzs := zero16
  have hh0 : (0 : Int) ≤ (h : Int) := by omega
  clear hi0 hz0 hz1 hz2 hK hs hm hi hii hel hdl
  go_enter Tryd.func14, Tryd.ntmps14
  go_upto_region 8 with (first
    | (go_at_call 21; refine (CV.out _).mono ?_; rintro e w1 ⟨rfl, rfl⟩)
    | (go_at_call 25; refine (CW.out _).mono ?_; rintro e w1 ⟨rfl, rfl⟩)
    | (go_at_call 22; refine (unhide CT w HK.out).mono ?_; rintro e x1 ⟨g0, rfl, hg0, hbs, hb1⟩; have HX1 := hide hb1; have HBS := hide hbs; clear hbs hb1)
    | (with_reducible refine wpList_store_dig rfl (.tmp 10) (.tmp 38) rfl x1.heap.size Z16 P rfl rfl (Dig.new x1 Z16 rfl) hpl ?_; intro Y hY))
  have hx1 := HX1.out.size
  have hY1 := show Below x1.heap.size x1 Y from below_row (below_alloc x1 _) (Nat.le_refl _) hY
  have HY := hide (HX1.out.trans (hY1.mono hx1))
  have D10 := hide ((Dig.new x1 Z16 rfl).put hpl hY)
  have BSY := hide (HBS.out.below hY1 HBS.out.2.lt)
  have hys := hY1.size
  clear hY hY1 HBS HX1 CV CW CT
  have h10 := D10.out.2.lt
  have hgY := BSY.out.2.lt
  go_upto_region 10 with (first
    | (go_at_call 26; refine (unhide CI Y).mono ?_; rintro e y1 ⟨v1, rfl, hown1, hb1⟩; have HO1 := hide hown1; have B1 := hide hb1; have D10a := hide (D10.out.below hb1 h10); clear hown1 hb1)
    | (with_reducible refine wpList_load_dig rfl (.tmp 10) rfl x1.heap.size rfl P D10a.out ?_)
    | (go_at_call 16; refine (unhide CD y1 (HK.out.below (HY.out.trans (B1.out.mono HY.out.size)) (Nat.le_refl _))).mono ?_; rintro e y2 ⟨rfl, hb2⟩; have B2 := hide hb2; clear hb2)
    | (go_at_call 10; refine (unhide CG y2).mono ?_; rintro e y3 ⟨rfl, hdg3, hb3⟩; have B3 := hide hb3; have GD := hide hdg3; clear hdg3 hb3))
  have hs1 := B1.out.size
  have hs2 := B2.out.size
  have hs3 := B3.out.size
  have BY1 := hide (B1.out.trans ((B2.out.trans (B3.out.mono hs2)).mono hs1))
  have BA := hide (B2.out.trans (B3.out.mono hs2))
  have HO3 := hide (show y3.ownsRow Y.heap.size 5 1 v1 ((Wr.enc i).length + 16 * 0) (BV (Wr.enc i ++ Sg.cat 0 (fun c => Sg.adv i c (Sg.start s i c) 0 (Sg.dig DP c)))) by
    rw [Sg.cat_zero, List.append_nil]
    exact own_below HO1.out BA.out)
  have BS3 := hide (BSY.out.below BY1.out hgY)
  have HB3 := hide (HY.out.trans (BY1.out.mono HY.out.size))
  have hg3 := GD.out.lt
  obtain ⟨gd, hgd⟩ : ∃ gd, y2.heap.size + 1 = gd := ⟨_, rfl⟩
  have GD2 := hide (show Blk y3 gd 43 (IV (Sg.digits DP)).toArray from hgd ▸ GD.out)
  rw [hgd]
  clear hgd HO1 GD B2 B3 D10 D10a CI CD CG
  go_loopw [12, 48] (fun s12 s48 wr => ∃ c : Nat, c ≤ 68 ∧ s48 = .int .i64 (c : Int) ∧ wr.ownsRow Y.heap.size 5 1 s12 ((Wr.enc i).length + 16 * c) (BV (Wr.enc i ++ Sg.cat c (fun c => Sg.adv i c (Sg.start s i c) 0 (Sg.dig DP c)))) ∧ Blk wr gd 43 (IV (Sg.digits DP)).toArray ∧ Bes wr g0 h (fun j => Sg.node s j (Sg.sib (i / 2 ^ j))) ∧ Below w.heap.size w wr ∧ Y.heap.size ≤ wr.heap.size) (fun _ s48 _ => 68 - (intOf s48).toNat)
  case atStart => exact ⟨0, by omega, rfl, HO3.out, GD2.out, BS3.out, HB3.out, BY1.out.size⟩
  case round =>
    obtain ⟨c, hc, rfl, hown, hgdd, hbes, hbel, hsz⟩ := hrel
    obtain ⟨wd, rfl⟩ : ∃ wd, wd = wr := ⟨wr, rfl⟩
    have HO := hide hown
    have HG := hide hgdd
    have HE := hide hbes
    have HB := hide hbel
    clear hown hgdd hbes hbel HO3 BS3 HB3
    by_cases hlt : c < 68
    · have hcell : wd.cell? ⟨gd, c, none⟩ = some (.int .i64 ((Sg.dig DP c : Nat) : Int)) := by rw [HG.out.cell]; exact IV_get _ _ _ (Sg.digits_get DP c hlt)
      have hci : Wr.inI (c : Int) := by unfold Wr.inI; omega
      have hdle := Sg.dig_le DP c
      have hsl := Sg.start_len s i c
      have hal := Sg.adv_len i c (Sg.start s i c) 0 hsl (Sg.dig DP c)
      have CS := hide (fun (W : World) hK => start_any s i c W HS.out HII.out hci hK)
      have CA := hide (fun (W : World) hK => advTo_any i c (Sg.start s i c) (Sg.dig DP c) W hdle HII.out hci hsl hK)
      have hcat := Sg.cat_succ c (fun c => Sg.adv i c (Sg.start s i c) 0 (Sg.dig DP c))
      generalize hvj : Sg.adv i c (Sg.start s i c) 0 (Sg.dig DP c) = vj at *
      generalize Sg.start s i c = v0 at *
      generalize hcur : Sg.cat c (fun c => Sg.adv i c (Sg.start s i c) 0 (Sg.dig DP c)) = cur at *
      have HCAT := hide hcat
      have HVL := hide hal
      have htest : (c : Int) < 68 := by omega
      have hc0 : (0 : Int) ≤ (c : Int) := by omega
      clear hcat hvj hcur hal hsl hci hdle
      generalize Sg.dig DP c = dc at *
      go_upto_region 13 with fail
      refine name_world fun V hV => ?_
      have C15 := hide (show Blk V wd.heap.size 54 #[.int .i64 (i : Int), .int .i64 (c : Int)] by rw [← hV.out]; exact Blk.new wd _ _)
      have HV := hide (show Below wd.heap.size wd V by rw [← hV.out]; exact below_alloc wd _)
      clear hV hcell
      have h15 := C15.out.lt
      have W0 := Below.refl V.heap.size V
      have HH := hide (fun (W' : World) (hb : Below V.heap.size V W') => (show W'.cell? ⟨wd.heap.size, 0, none⟩ = some (.int .i64 (i : Int)) ∧ W'.cell? ⟨wd.heap.size, 1, none⟩ = some (.int .i64 (c : Int)) from ⟨(C15.out.below hb h15).cell 0, (C15.out.below hb h15).cell 1⟩))
      have HKV := hide (fun (W' : World) (hb : Below V.heap.size V W') => HK.out.below ((HB.out.trans (HV.out.mono HB.out.size)).trans (hb.mono (Nat.le_trans HB.out.size HV.out.size))) (Nat.le_refl _))
      have hone : ∀ v ∈ BV vj, v.oneCell' = true := BV_one vj
      have hsz16 : Option.map (fun x => x.size) (Tryd.prog.info? 23) = some (BV vj).length := by rw [BV_len, HVL.out]; exact size16
      have W1 : Below V.heap.size V (V.alloc (.cells (BV Z16).toArray 23)).drew := (W0.alloc (Nat.le_refl _) _).drew
      go_cut [16, 48] from 48 to 65 (fun s16 s48 wx => s48 = .int .i64 (c : Int) ∧ ∃ g, s16 = .pointer (some ⟨g, 0, none⟩) ∧ V.heap.size ≤ g ∧ Dig wx g vj ∧ Below V.heap.size V wx)
      case first =>
        go_region_held (fun w' => w'.cell? ⟨wd.heap.size, 0, none⟩ = some (.int .i64 (i : Int)) ∧ w'.cell? ⟨wd.heap.size, 1, none⟩ = some (.int .i64 (c : Int)))
          (exact unhide HH _ (by repeat (first | exact hX2 | exact hX1 | exact W0 | apply Below.drew | refine Below.alloc ?_ (by first | exact Nat.le_refl _ | exact hX1.size | exact hX2.size) _ | refine below_setCells (by first | exact Nat.le_refl _ | exact hX1.size | exact hX2.size) _ _ _ ?_)))
          (first
            | (go_at_call 28; (with_reducible refine (unhide CS V.drew (unhide HKV _ W0.drew)).mono ?_); rintro e q1 ⟨rfl, hb1⟩; have hX1 : Below V.heap.size V q1 := from_here W0.drew hb1)
            | (go_at_call 28; (with_reducible refine (unhide CS (V.alloc (.cells (BV Z16).toArray 23)).drew (unhide HKV _ W1)).mono ?_); rintro e q1 ⟨rfl, hb1⟩; have hX1 : Below V.heap.size V q1 := from_here W1 hb1; have hA1 : Dig q1 V.heap.size Z16 := Dig.below (w := (V.alloc (.cells (BV Z16).toArray 23)).drew) (Dig.new V Z16 rfl) hb1 (by show V.heap.size < (V.alloc _).heap.size; simp))
            | (go_at_call 27; (with_reducible refine (unhide CA q1 (unhide HKV _ hX1)).mono ?_); rintro e q2 ⟨rfl, hb2⟩; have hX2 : Below V.heap.size V q2 := from_here hX1 hb2; have ht3 : (q2.alloc (.cells (BV Z16).toArray 23)).there q2.heap.size 0 (BV vj).length := (Dig.new q2 Z16 rfl).2.there_ 0 _ (by rw [BV_len, BV_len, HVL.out]; decide); try (have hA2 := hA1.below hb2 hA1.2.lt; have ht2 : q2.there V.heap.size 0 (BV vj).length := hA2.2.there_ 0 _ (by rw [BV_len, BV_len, HVL.out]; decide)))
            | (go_at_call 27; (with_reducible refine (unhide CA (q1.alloc (.cells (BV Z16).toArray 23)) (unhide HKV _ (hX1.alloc hX1.size _))).mono ?_); rintro e q2 ⟨rfl, hb2⟩; have hX2 : Below V.heap.size V q2 := from_here (hX1.alloc hX1.size _) hb2; have hA2 : Dig q2 q1.heap.size Z16 := (Dig.new q1 Z16 rfl).below hb2 (by simp); have ht2 : q2.there q1.heap.size 0 (BV vj).length := hA2.2.there_ 0 _ (by rw [BV_len, BV_len, HVL.out]; decide)))
        all_goals
          first
          | (have FD := hide (show Dig ((q2.alloc (.cells (BV Z16).toArray 23)).setCells q2.heap.size 0 (BV vj)) q2.heap.size vj from Dig.stored (Dig.new q2 Z16 rfl) HVL.out); have FB := hide (show Below V.heap.size V ((q2.alloc (.cells (BV Z16).toArray 23)).setCells q2.heap.size 0 (BV vj)) from below_setCells (hX2.size) _ _ _ (hX2.alloc hX2.size _)); clear hone hsz16; go_wp2_with fail; go_meet; exact ⟨rfl, _, rfl, hX2.size, FD.out, FB.out⟩)
          | (have FD := hide (show Dig (q2.setCells q1.heap.size 0 (BV vj)) q1.heap.size vj from Dig.stored hA2 HVL.out); have FB := hide (show Below V.heap.size V (q2.setCells q1.heap.size 0 (BV vj)) from below_setCells (hX1.size) _ _ _ (hX2)); clear hone hsz16; go_wp2_with fail; go_meet; exact ⟨rfl, _, rfl, hX1.size, FD.out, FB.out⟩)
          | (have FD := hide (show Dig (q2.setCells V.heap.size 0 (BV vj)) V.heap.size vj from Dig.stored hA2 HVL.out); have FB := hide (show Below V.heap.size V (q2.setCells V.heap.size 0 (BV vj)) from below_setCells (Nat.le_refl _) _ _ _ (hX2)); clear hone hsz16; go_wp2_with fail; go_meet; exact ⟨rfl, _, rfl, Nat.le_refl _, FD.out, FB.out⟩)
      case rest =>
        obtain ⟨rfl, g, rfl, hgV, hDg, hbU⟩ := hcut
        have HU := hide (HV.out.trans (hbU.mono HV.out.size))
        have DG := hide hDg
        have HOU := hide (own_below HO.out HU.out)
        have HGU := hide (HG.out.below HU.out HG.out.lt)
        have HEU := hide (HE.out.below HU.out HE.out.2.lt)
        have hus := HU.out.size
        have hel := HEL.out
        clear hone hsz16 hDg hbU HH HKV CS CA W0 W1
        go_upto_region 15 with (at_builtin; refine wpList_append_any _ rfl (.tmp 62) (.tmp 63) 51 rfl Y.heap.size 5 i0 (.int .u8 0) 1 1 Tryd.underlying51 HI.out HZ0.out HZ1.out HZ2.out rfl (by omega) _ ((Wr.enc i).length + 16 * c) (BV (Wr.enc i ++ cur)) rfl HOU.out _ (some ⟨g, 0, none⟩) 16 16 (BV vj) rfl DG.out.reads (BV_one vj) (by unfold maxLen; omega) (by omega) (by omega) ?_; intro v2 w2 hown2 hgrow2 hat2)
        have HO2 := hide (show w2.ownsRow Y.heap.size 5 1 v2 ((Wr.enc i).length + 16 * (c + 1)) (BV (Wr.enc i ++ Sg.cat (c + 1) (fun c => Sg.adv i c (Sg.start s i c) 0 (Sg.dig DP c)))) by rw [HCAT.out, ← List.append_assoc, BV_append, show (Wr.enc i).length + 16 * (c + 1) = (Wr.enc i).length + 16 * c + 16 by omega]; exact hown2)
        have HG2 := hide (HGU.out.grown hgrow2 (fun e => own_blk_ne HOU.out HGU.out (by decide) e.symm))
        have HE2 := hide (show Bes w2 g0 h (fun j => Sg.node s j (Sg.sib (i / 2 ^ j))) from ⟨HEU.out.1, HEU.out.2.grown hgrow2 (fun e => own_blk_ne HOU.out HEU.out.2 (by decide) e.symm)⟩)
        have HW2 := hide (show Below Y.heap.size wc w2 from below_grown hgrow2 HOU.out (by omega))
        have HB2 := hide ((HB.out.trans (HU.out.mono HB.out.size)).trans (HW2.out.mono (by have := HY.out.size; omega)))
        have hw2 := HW2.out.size
        clear hown2 hgrow2 hat2
        go_wp2
        exact ⟨⟨c + 1, by omega, by go_num, HO2.out, HG2.out, HE2.out, HB2.out, by omega⟩, by simp [intOf]; omega⟩
    · obtain rfl : c = 68 := by omega
      generalize hcur : Wr.enc i ++ Sg.cat 68 (fun c => Sg.adv i c (Sg.start s i c) 0 (Sg.dig DP c)) = pre at *
      obtain ⟨n0, hn0⟩ : ∃ n0, (Wr.enc i).length + 16 * 68 = n0 := ⟨_, rfl⟩
      rw [hn0] at HO
      have hn1 : n0 ≤ 1097 := by have := HEL.out; omega
      have HPRE := hide hcur
      clear hcur hn0 GD2
      go_upto_region 17 with fail
      have HO0 := hide (show wd.ownsRow Y.heap.size 5 1 u12 (n0 + 16 * 0) (BV (pre ++ Sg.cat 0 (fun l => Sg.node s l (Sg.sib (i / 2 ^ l))))) by rw [Sg.cat_zero, List.append_nil]; exact HO.out)
      go_loopw [12, 68] (fun s12 s68 wr => ∃ l : Nat, l ≤ h ∧ s68 = .int .i64 (l : Int) ∧ wr.ownsRow Y.heap.size 5 1 s12 (n0 + 16 * l) (BV (pre ++ Sg.cat l (fun l => Sg.node s l (Sg.sib (i / 2 ^ l))))) ∧ Bes wr g0 h (fun j => Sg.node s j (Sg.sib (i / 2 ^ j))) ∧ Below w.heap.size w wr ∧ Y.heap.size ≤ wr.heap.size) (fun _ s68 _ => h - (intOf s68).toNat)
      case atStart => exact ⟨0, by omega, rfl, HO0.out, HE.out, HB.out, hsz⟩
      case round =>
        obtain ⟨l, hl, rfl, hown, hbes, hbel, hsz⟩ := hrel
        obtain ⟨we, rfl⟩ : ∃ we, we = wr := ⟨wr, rfl⟩
        have KO := hide hown
        have KE := hide hbes
        have KB := hide hbel
        clear hown hbes hbel HO HO0 HE HB HG
        by_cases hlt : l < h
        · have hrg := hide (KE.out.range l hlt)
          have hnl := Sg.node_len s l (Sg.sib (i / 2 ^ l))
          have hcat := Sg.cat_succ l (fun l => Sg.node s l (Sg.sib (i / 2 ^ l)))
          generalize hvj : Sg.node s l (Sg.sib (i / 2 ^ l)) = vj at *
          generalize hcur : Sg.cat l (fun l => Sg.node s l (Sg.sib (i / 2 ^ l))) = cur at *
          have HRG := hrg
          have HCAT := hide hcat
          have htest : (l : Int) < (h : Int) := by omega
          have hl0 : (0 : Int) ≤ (l : Int) := by omega
          have hh6 := HH.out
          clear hcat hvj hcur hrg
          go_upto_region 19 with (first
            | (with_reducible refine wpList_load_bes rfl (.tmp 70) rfl g0 (l * 16) vj rfl HRG.out hnl ?_)
            | (with_reducible refine wpList_store_dig rfl (.tmp 18) (.tmp 71) rfl we.heap.size Z16 vj rfl rfl (Dig.new we Z16 rfl) hnl ?_; intro U hU))
          have HU := hide (show Below we.heap.size we U from below_row (below_alloc we _) (Nat.le_refl _) hU)
          have DU := hide ((Dig.new we Z16 rfl).put hnl hU)
          have HOU := hide (own_below KO.out HU.out)
          have HEU := hide (KE.out.below HU.out KE.out.2.lt)
          have hus := HU.out.size
          clear hU
          go_upto_region 20 with (at_builtin; refine wpList_append_any _ rfl (.tmp 72) (.tmp 73) 51 rfl Y.heap.size 5 i0 (.int .u8 0) 1 1 Tryd.underlying51 HI.out HZ0.out HZ1.out HZ2.out rfl (by omega) _ (n0 + 16 * l) (BV (pre ++ cur)) rfl HOU.out _ (some ⟨we.heap.size, 0, none⟩) 16 16 (BV vj) rfl DU.out.reads (BV_one vj) (by unfold maxLen; omega) (by omega) (by omega) ?_; intro v2 w2 hown2 hgrow2 hat2)
          have HO2 := hide (show w2.ownsRow Y.heap.size 5 1 v2 (n0 + 16 * (l + 1)) (BV (pre ++ Sg.cat (l + 1) (fun l => Sg.node s l (Sg.sib (i / 2 ^ l))))) by rw [HCAT.out, ← List.append_assoc, BV_append, show n0 + 16 * (l + 1) = n0 + 16 * l + 16 by omega]; exact hown2)
          have HE2 := hide (show Bes w2 g0 h (fun j => Sg.node s j (Sg.sib (i / 2 ^ j))) from ⟨HEU.out.1, HEU.out.2.grown hgrow2 (fun e => own_blk_ne HOU.out HEU.out.2 (by decide) e.symm)⟩)
          have HW2 := hide (show Below Y.heap.size U w2 from below_grown hgrow2 HOU.out (by omega))
          have HB2 := hide ((KB.out.trans (HU.out.mono KB.out.size)).trans (HW2.out.mono HY.out.size))
          have hw2 := HW2.out.size
          clear hown2 hgrow2 hat2
          go_wp2
          refine ⟨⟨_, _, _, _, _, _, _, _, _, _, ⟨l + 1, by omega, ?e68, HO2.out, HE2.out, HB2.out, by omega⟩, rfl⟩, ?m68⟩
          case e68 => go_num
          case m68 =>
            show h - (intOf (Value.int .i64 ((l : Int) + 1))).toNat < h - (intOf (Value.int .i64 (l : Int))).toNat
            simp only [intOf]
            omega
        · obtain rfl : l = h := by omega
          have hcv := conv_own KO.out (Below.refl we.heap.size we)
          have hsig : pre ++ Sg.cat l (fun l => Sg.node s l (Sg.sib (i / 2 ^ l))) = SIG := by rw [← HPRE.out, HSIG.out, List.append_assoc]
          rw [hsig] at hcv
          have hnlt : ¬ ((l : Int) < (l : Int)) := by omega
          clear hsig
          go_wp2
          go_ret2
          exact ⟨rfl, KB.out⟩
end Go.Proofs.YtedgjpoejoepjaaDoor
namespace Go.Proofs.YtedgjpoejoepjaaDoor
open Go.RowKit
set_option linter.unusedVariables false
set_option linter.unusedSimpArgs false

theorem S_empty : S [] = { data := #[] } := rfl
set_option maxHeartbeats 1000000 in
set_option maxRecDepth 100000 in
theorem sign_arg (s m : List UInt8) (h i : Int) (w : World) (hs : s.length ≤ 281474976710656) (hb : ¬ (s.length = 32 ∧ 0 ≤ h ∧ h ≤ 6)) :
    Calls Tryd.prog 14 #[.string (S s), .int .i64 h, .int .i64 i, .string (S m)] w fun e w' => e = .returned (.tuple #[.string (S []), .int .i64 1]) ∧ Below w.heap.size w w' := by
  have CV := hide (fun (W : World) => valid_any s h W hs)
  rw [decide_eq_false hb] at CV
  clear hs hb
  go_enter Tryd.func14, Tryd.ntmps14
  go_wp2_with (go_at_call 21; refine (CV.out _).mono ?_; rintro e w1 ⟨rfl, rfl⟩)
  go_ret2
  exact ⟨rfl, Below.refl _ _⟩
set_option maxHeartbeats 1000000 in
set_option maxRecDepth 100000 in
theorem sign_spent (s m : List UInt8) (h : Nat) (i : Int) (w : World) (hs : s.length = 32) (hh : h ≤ 6) (hb : ¬ (0 ≤ i ∧ i < ((2 ^ h : Nat) : Int))) :
    Calls Tryd.prog 14 #[.string (S s), .int .i64 (h : Int), .int .i64 i, .string (S m)] w fun e w' => e = .returned (.tuple #[.string (S []), .int .i64 27]) ∧ Below w.heap.size w w' := by
  have CV := hide (fun (W : World) => valid_any s h W (by omega))
  rw [decide_eq_true (by omega)] at CV
  have CW := hide (fun (W : World) => within_any i h W hh)
  rw [decide_eq_false hb] at CW
  clear hs hb
  go_enter Tryd.func14, Tryd.ntmps14
  go_wp2_with (first
    | (go_at_call 21; refine (CV.out _).mono ?_; rintro e w1 ⟨rfl, rfl⟩)
    | (go_at_call 25; refine (CW.out _).mono ?_; rintro e w1 ⟨rfl, rfl⟩))
  go_ret2
  exact ⟨rfl, Below.refl _ _⟩
set_option maxHeartbeats 1000000 in
set_option maxRecDepth 100000 in
theorem sign_long (s m : List UInt8) (h : Nat) (i : Int) (w : World) (hs : s.length = 32) (hh : h ≤ 6) (hb : 0 ≤ i ∧ i < ((2 ^ h : Nat) : Int)) (hm : 1048576 < m.length) :
    Calls Tryd.prog 14 #[.string (S s), .int .i64 (h : Int), .int .i64 i, .string (S m)] w fun e w' => e = .returned (.tuple #[.string (S []), .int .i64 4]) ∧ Below w.heap.size w w' := by
  have CV := hide (fun (W : World) => valid_any s h W (by omega))
  rw [decide_eq_true (by omega)] at CV
  have CW := hide (fun (W : World) => within_any i h W hh)
  rw [decide_eq_true hb] at CW
  have hml : (1048576 : Int) < (((S m).size : Nat) : Int) := by rw [S_size]; omega
  clear hs hb hm
  go_enter Tryd.func14, Tryd.ntmps14
  go_wp2_with (first
    | (go_at_call 21; refine (CV.out _).mono ?_; rintro e w1 ⟨rfl, rfl⟩)
    | (go_at_call 25; refine (CW.out _).mono ?_; rintro e w1 ⟨rfl, rfl⟩))
  go_ret2
  exact ⟨rfl, Below.refl _ _⟩
end Go.Proofs.YtedgjpoejoepjaaDoor
