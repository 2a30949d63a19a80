/-
  Tables: Valid, by contract. (Written by tools/gen_tabh.py.)
-/
import Derived.Test.YtbcfndhnopmbbaaTabG
namespace Go.Proofs.Ytbcfndhnopmbbaa
open Go.RowKit
set_option linter.unusedVariables false
set_option linter.unusedSimpArgs false
theorem SetMap.setCell {w : World} {b : Nat} {ks : List (List UInt8 × Int)} (h : SetMap w b ks) {p : Addr} (hp : b ≠ p.block) (v : Value) : SetMap (w.setCell p v) b ks := by
  obtain ⟨es, clock, hb, h2⟩ := h
  exact ⟨es, clock, (Below.heap_setCell w p v b hp).trans hb, h2⟩
theorem SetMap.drewN {w : World} {b : Nat} {ks : List (List UInt8 × Int)} (h : SetMap w b ks) (n : Nat) : SetMap (w.drewN n) b ks := h
theorem SetMap.drew {w : World} {b : Nat} {ks : List (List UInt8 × Int)} (h : SetMap w b ks) : SetMap w.drew b ks := h
theorem keys_ok {w : World} {B : Nat} {A : Option Addr} {rs : List Tb.Rl} (h : RulesAt w B A rs) : ∀ x ∈ Tb.keysOf rs, x.1.length ≤ 1048576 ∧ Wr.inI x.2 := fun x hx => by
  obtain ⟨r, hm, rfl⟩ := List.mem_map.1 (((Tb.keysOf_facts rs).1 x).1 hx)
  exact (h.2.1 r hm).2
set_option maxHeartbeats 8000000 in
set_option maxRecDepth 100000 in
theorem valid_any (v : Value) (t : Tb.Tab) (w : World) (h : TabAt w w.heap.size v t) :
    Calls Try.prog 10 #[v] w fun e w' => e = .returned (.int .i64 (Tb.valid t)) ∧ Below w.heap.size w w' := by
  have CP := hide (fun (W : World) (hb : Below w.heap.size w W) => proper_any v t W ((h.below hb).more hb.size))
  obtain ⟨A0, A1, c0, c1, rfl, h0, h1, _, _, hd, hc, hn, hf, hs⟩ := h
  have HV0 := hide (Tb.valid_eq t)
  have HVT := hide (show Tb.validTail t = if Tb.lone t.r0 = false ∨ Tb.lone t.r1 = false then 7 else if Tb.owns t.r0 = false ∨ Tb.owns t.r1 = false then 6 else 0 from rfl)
  have N0 := hide (fun (W : World) (hb : Below w.heap.size w W) => names_any A0 c0 t.r0 W ((h0.below hb).more hb.size))
  have N1 := hide (fun (W : World) (hb : Below w.heap.size w W) => names_any A1 c1 t.r1 W ((h1.below hb).more hb.size))
  have K0 := hide (keys_ok h0)
  have K1 := hide (keys_ok h1)
  have L0 := hide (Tb.lone_eq t.r0)
  have L1 := hide (Tb.lone_eq t.r1)
  have O0 := hide (Tb.owns_all t.r0)
  have O1 := hide (Tb.owns_all t.r1)
  have hl0 := (Tb.keysOf_facts t.r0).2.1
  have hl1 := (Tb.keysOf_facts t.r1).2.1
  have hm0 := h0.2.2
  have hm1 := h1.2.2
  clear h0 h1 hd hc hn hf hs
  generalize Tb.valid t = res at *
  generalize Tb.validTail t = rest at *
  generalize Tb.proper t = pr at *
  generalize Tb.lone t.r0 = l0 at *
  generalize Tb.lone t.r1 = l1 at *
  generalize Tb.owns t.r0 = o0 at *
  generalize Tb.owns t.r1 = o1 at *
  generalize Tb.keysOf t.r0 = k0 at *
  generalize Tb.keysOf t.r1 = k1 at *
  generalize t.r0.length = n0 at *
  generalize t.r1.length = n1 at *
  generalize t.dig.l.length = n2 at *
  generalize t.cap.l.length = n3 at *
  generalize t.num.l.length = n4 at *
  generalize t.fin.l.length = n5 at *
  generalize t.sw.l.length = n6 at *
  go_enter Try.func10, Try.ntmps10
  go_upto_region 1 with fail
  refine name_world fun V hV => ?_
  have VB := hide (show Blk V w.heap.size 28 #[.slice A0 n0 c0, .slice A1 n1 c1, .slice t.dig.ad n2 t.dig.c, .slice t.cap.ad n3 t.cap.c, .slice t.num.ad n4 t.num.c, .slice t.fin.ad n5 t.fin.c, .slice t.sw.ad n6 t.sw.c] by rw [← hV.out]; exact Blk.new w _ _)
  have HV := hide (show Below w.heap.size w V by rw [← hV.out]; exact below_alloc w _)
  have hgV := VB.out.lt
  have q0 : V.cell? ⟨w.heap.size, 0, none⟩ = some (.slice A0 n0 c0) := VB.out.cell 0
  have q1 : V.cell? ⟨w.heap.size, 1, none⟩ = some (.slice A1 n1 c1) := VB.out.cell 1
  have HVV := hide (Below.refl V.heap.size V)
  clear hV
  go_wp2
  clear q0 q1
  go_loopw [13] (fun s wr => ∃ i : Nat, i ≤ 2 ∧ s = .int .i64 (i : Int) ∧ Hid (1 ≤ i → n0 ≤ 96) ∧ Hid (2 ≤ i → n1 ≤ 96) ∧ Below V.heap.size V wr) (fun s _ => 2 - (intOf s).toNat)
  case atStart => exact ⟨0, by omega, rfl, fun h => absurd h (by omega), fun h => absurd h (by omega), HVV.out⟩
  case round =>
    obtain ⟨i, hi, rfl, H0, H1, hbel⟩ := hrel
    obtain ⟨wd, rfl⟩ : ∃ wd, wd = wr := ⟨wr, rfl⟩
    have HB := hide hbel
    have HWD := hide (HV.out.trans (hbel.mono HV.out.size))
    clear hbel
    obtain rfl | rfl | rfl : i = 0 ∨ i = 1 ∨ i = 2 := by omega
    · rw [show ((0 : Nat) : Int) = 0 from rfl]
      have hix := run_index_lang0 (.slice A0 n0 c0) (.slice A1 n1 c1)
      go_upto_region 4 with fail
      refine name_world fun X hX => ?_
      have XB := hide (show Blk X wd.heap.size 24 #[.slice A0 n0 c0] by rw [← hX.out]; exact Blk.new wd _ _)
      have HXB := hide (show Below wd.heap.size wd X by rw [← hX.out]; exact below_alloc wd _)
      have HX := hide (HB.out.trans (HXB.out.mono HB.out.size))
      have HWX := hide (HWD.out.trans (HXB.out.mono HWD.out.size))
      have e0 : X.cell? ⟨wd.heap.size, 0, none⟩ = some (.slice A0 n0 c0) := XB.out.cell 0
      clear hX hix
      by_cases hg : (96 : Int) < (n0 : Int)
      · have HF := hide (show res = 4 by rw [HV0.out, if_pos (by omega)])
        go_wp2
        go_ret
        exact ⟨by rw [HF.out]; rfl, HWX.out⟩
      · go_wp2
        exact ⟨⟨0 + 1, by omega, by rfl, fun _ => by omega, fun h => absurd h (by omega), HX.out⟩, by simp [intOf]⟩
    · rw [show ((1 : Nat) : Int) = 1 from rfl]
      have hix := run_index_lang1 (.slice A0 n0 c0) (.slice A1 n1 c1)
      go_upto_region 4 with fail
      refine name_world fun X hX => ?_
      have XB := hide (show Blk X wd.heap.size 24 #[.slice A1 n1 c1] by rw [← hX.out]; exact Blk.new wd _ _)
      have HXB := hide (show Below wd.heap.size wd X by rw [← hX.out]; exact below_alloc wd _)
      have HX := hide (HB.out.trans (HXB.out.mono HB.out.size))
      have HWX := hide (HWD.out.trans (HXB.out.mono HWD.out.size))
      have e0 : X.cell? ⟨wd.heap.size, 0, none⟩ = some (.slice A1 n1 c1) := XB.out.cell 0
      clear hX hix
      by_cases hg : (96 : Int) < (n1 : Int)
      · have HF := hide (show res = 4 by rw [HV0.out, if_pos (by omega)])
        go_wp2
        go_ret
        exact ⟨by rw [HF.out]; rfl, HWX.out⟩
      · go_wp2
        exact ⟨⟨1 + 1, by omega, by rfl, fun _ => H0.out (by omega), fun _ => by omega, HX.out⟩, by simp [intOf]⟩
    · rw [show ((2 : Nat) : Int) = 2 from rfl]
      have hs0 := H0.out (by omega)
      have hs1 := H1.out (by omega)
      have HV1 := hide (show res = if pr = false then 1 else rest by rw [HV0.out, if_neg (by omega)])
      have WB := VB.out.below HB.out hgV
      have WBH := hide WB
      have e0 : wd.cell? ⟨w.heap.size, 0, none⟩ = some (.slice A0 n0 c0) := WB.cell 0
      have e1 : wd.cell? ⟨w.heap.size, 1, none⟩ = some (.slice A1 n1 c1) := WB.cell 1
      have e2 : wd.cell? ⟨w.heap.size, 2, none⟩ = some (.slice t.dig.ad n2 t.dig.c) := WB.cell 2
      have e3 : wd.cell? ⟨w.heap.size, 3, none⟩ = some (.slice t.cap.ad n3 t.cap.c) := WB.cell 3
      have e4 : wd.cell? ⟨w.heap.size, 4, none⟩ = some (.slice t.num.ad n4 t.num.c) := WB.cell 4
      have e5 : wd.cell? ⟨w.heap.size, 5, none⟩ = some (.slice t.fin.ad n5 t.fin.c) := WB.cell 5
      have e6 : wd.cell? ⟨w.heap.size, 6, none⟩ = some (.slice t.sw.ad n6 t.sw.c) := WB.cell 6
      have C := hide (CP.out wd HWD.out)
      have hgw : w.heap.size < wd.heap.size := WB.lt
      clear WB HV0 H0 H1 CP VB HB HVV
      cases pr with
      | false =>
        have HF := hide (show res = 1 by rw [HV1.out]; rfl)
        clear HV1
        go_wp2_with (go_at_call 35; refine (unhide C).mono ?_; rintro e w1 ⟨rfl, hb1⟩; have B1 := hide (HWD.out.trans (hb1.mono HWD.out.size)); clear hb1)
        go_ret
        exact ⟨by rw [HF.out]; rfl, B1.out⟩
      | true =>
        have HV2 := hide (show res = rest by rw [HV1.out]; rfl)
        clear HV1
        go_upto_region 10 with (go_at_call 35; refine (unhide C).mono ?_; rintro e w1 ⟨rfl, hb1⟩; have B1 := hide hb1; clear hb1)
        clear e0 e1 e2 e3 e4 e5 e6 C
        refine name_world fun Y hY => ?_
        have YB := hide (show Blk Y w1.heap.size 79 #[.map none, .map none] by rw [← hY.out]; exact Blk.new w1 _ _)
        have HY1 := hide (show Below w1.heap.size w1 Y by rw [← hY.out]; exact below_alloc w1 _)
        have HWY := hide ((HWD.out.trans (B1.out.mono HWD.out.size)).trans (HY1.out.mono (HWD.out.trans (B1.out.mono HWD.out.size)).size))
        have YT := hide ((WBH.out.below B1.out hgw).below HY1.out (by have := B1.out.size; omega))
        have hg5 : w.heap.size < w1.heap.size := by have := B1.out.size; omega
        have hgY : w1.heap.size < Y.heap.size := YB.out.lt
        have f0 : Y.cell? ⟨w.heap.size, 0, none⟩ = some (.slice A0 n0 c0) := YT.out.cell 0
        have f1 : Y.cell? ⟨w.heap.size, 1, none⟩ = some (.slice A1 n1 c1) := YT.out.cell 1
        have HYY := hide (Below.refl w1.heap.size Y)
        clear hY HY1 B1 HWD
        obtain ⟨g, hg⟩ : ∃ g, g = w1.heap.size := ⟨_, rfl⟩
        rw [← hg] at YB hg5 hgY HYY ⊢
        clear hg
        go_wp2
        clear f0 f1
        go_loopw [26] (fun s wr => ∃ (i : Nat) (m0 m1 : Value), i ≤ 2 ∧ s = .int .i64 (i : Int) ∧ Hid (1 ≤ i → l0 = true) ∧ Hid (2 ≤ i → l1 = true) ∧ Blk wr g 79 #[m0, m1] ∧
          Hid (1 ≤ i → ∃ b, m0 = .map (some b) ∧ g < b ∧ SetMap wr b k0) ∧ Hid (2 ≤ i → ∃ b, m1 = .map (some b) ∧ g < b ∧ SetMap wr b k1) ∧ Below g Y wr) (fun s _ => 2 - (intOf s).toNat)
        case atStart => exact ⟨0, _, _, by omega, rfl, fun h => absurd h (by omega), fun h => absurd h (by omega), YB.out, fun h => absurd h (by omega), fun h => absurd h (by omega), HYY.out⟩
        case round =>
          obtain ⟨i, m0, m1, hi, rfl, H0, H1, hblk, M0, M1, hbel⟩ := hrel
          obtain ⟨we, rfl⟩ : ∃ we, we = wr := ⟨wr, rfl⟩
          have HB := hide hbel
          have HBK := hide hblk
          have hge : g < we.heap.size := hblk.lt
          have HWE := hide (HWY.out.trans (hbel.mono (by omega)))
          clear hbel hblk
          obtain rfl | rfl | rfl : i = 0 ∨ i = 1 ∨ i = 2 := by omega
          · rw [show ((0 : Nat) : Int) = 0 from rfl]
            have hix := run_index_lang0 (.slice A0 n0 c0) (.slice A1 n1 c1)
            go_upto_region 13 with fail
            refine name_world fun X hX => ?_
            have XB := hide (show Blk X we.heap.size 24 #[.slice A0 n0 c0] by rw [← hX.out]; exact Blk.new we _ _)
            have HXB := hide (show Below we.heap.size we X by rw [← hX.out]; exact below_alloc we _)
            have HX := hide (HB.out.trans (HXB.out.mono (by omega)))
            have HWX := hide (HWE.out.trans (HXB.out.mono HWE.out.size))
            have XG := hide (HBK.out.below HXB.out hge)
            have e0 : X.cell? ⟨we.heap.size, 0, none⟩ = some (.slice A0 n0 c0) := XB.out.cell 0
            have hX1 : we.heap.size < X.heap.size := XB.out.lt
            have C := hide (N0.out X HWX.out)
            clear hX hix
            have hst := fun (W : World) (hb : Blk W g 79 #[m0, m1]) => hb.frozen 0
            go_upto_region 14 with (go_at_call 36; refine (unhide C).mono ?_; rintro e w2 ⟨rfl, hset2, hb2⟩; have S2 := hide hset2; have B2 := hide hb2; have G2 := hide (XG.out.below hb2 (by omega)); have g2c : w2.cell? ⟨g, 0, none⟩ = some m0 := (XG.out.below hb2 (by omega)).cell 0; have g2f : w2.frozen? ⟨g, 0, none⟩ = false := (XG.out.below hb2 (by omega)).frozen 0; clear hset2 hb2)
            refine name_world fun Z hZ => ?_
            have ZG := hide (show Blk Z g 79 #[.map (some X.heap.size), m1] by rw [← hZ.out]; exact G2.out.set_ 0 _)
            have ZS := hide (show SetMap Z X.heap.size k0 by rw [← hZ.out]; exact S2.out.setCell (by show X.heap.size ≠ g; omega) _)
            have ZT := hide (show Blk Z we.heap.size 24 #[.slice A0 n0 c0] by rw [← hZ.out]; exact (XB.out.below B2.out hX1).far (show we.heap.size ≠ g by omega) _)
            have ZB := hide (show Below g Y Z by rw [← hZ.out]; exact (HX.out.trans (B2.out.mono (by omega))).setCell (by show g ≤ g; omega) _)
            have ZW := hide (show Below w.heap.size w Z by rw [← hZ.out]; exact (HWX.out.trans (B2.out.mono HWX.out.size)).setCell (by show w.heap.size ≤ g; omega) _)
            clear hZ g2c g2f e0 G2 S2 C hst
            have z0 : Z.cell? ⟨g, 0, none⟩ = some (.map (some X.heap.size)) := ZG.out.cell 0
            have z1 : Z.cell? ⟨we.heap.size, 0, none⟩ = some (.slice A0 n0 c0) := ZT.out.cell 0
            have hlen := fun (k : Nat) (ty : TypeId) => run_lenMap (Z.drewN k) X.heap.size k0 (ZS.out.drewN k) ty
            have hXg : g < X.heap.size := by omega
            have hk96 : k0.length ≤ 96 := by omega
            generalize X.heap.size = bx at *
            by_cases hlt : (k0.length : Int) < (n0 : Int)
            · have HF := hide (show res = 7 by rw [HV2.out, HVT.out, if_pos]; left; rw [L0.out, decide_eq_true (by omega)]; rfl)
              go_quiet (fail)
              go_wp2
              go_ret
              exact ⟨by rw [HF.out]; rfl, below_drewN ZW.out _⟩
            · have HL := hide (show l0 = true by rw [L0.out, decide_eq_false (by omega)]; rfl)
              go_quiet (fail)
              go_wp2
              exact ⟨⟨0 + 1, _, _, by omega, by rfl, fun _ => HL.out, fun h => absurd h (by omega), ZG.out.drewN _, fun _ => ⟨bx, rfl, hXg, ZS.out.drewN _⟩, fun h => absurd h (by omega), below_drewN ZB.out _⟩, by simp [intOf]⟩
          · rw [show ((1 : Nat) : Int) = 1 from rfl]
            have hix := run_index_lang1 (.slice A0 n0 c0) (.slice A1 n1 c1)
            go_upto_region 13 with fail
            refine name_world fun X hX => ?_
            have XB := hide (show Blk X we.heap.size 24 #[.slice A1 n1 c1] by rw [← hX.out]; exact Blk.new we _ _)
            have HXB := hide (show Below we.heap.size we X by rw [← hX.out]; exact below_alloc we _)
            have HX := hide (HB.out.trans (HXB.out.mono (by omega)))
            have HWX := hide (HWE.out.trans (HXB.out.mono HWE.out.size))
            have XG := hide (HBK.out.below HXB.out hge)
            have e0 : X.cell? ⟨we.heap.size, 0, none⟩ = some (.slice A1 n1 c1) := XB.out.cell 0
            have hX1 : we.heap.size < X.heap.size := XB.out.lt
            have C := hide (N1.out X HWX.out)
            obtain ⟨b0, hmb, hb0, hs0⟩ := M0.out (by omega)
            have MS := hide hs0
            have hbl0 := hs0.lt
            clear hX hix
            have hst := fun (W : World) (hb : Blk W g 79 #[m0, m1]) => hb.frozen 1
            go_upto_region 14 with (go_at_call 36; refine (unhide C).mono ?_; rintro e w2 ⟨rfl, hset2, hb2⟩; have S2 := hide hset2; have B2 := hide hb2; have G2 := hide (XG.out.below hb2 (by omega)); have g2c : w2.cell? ⟨g, 1, none⟩ = some m1 := (XG.out.below hb2 (by omega)).cell 1; have g2f : w2.frozen? ⟨g, 1, none⟩ = false := (XG.out.below hb2 (by omega)).frozen 1; clear hset2 hb2)
            refine name_world fun Z hZ => ?_
            have ZG := hide (show Blk Z g 79 #[m0, .map (some X.heap.size)] by rw [← hZ.out]; exact G2.out.set_ 1 _)
            have ZS := hide (show SetMap Z X.heap.size k1 by rw [← hZ.out]; exact S2.out.setCell (by show X.heap.size ≠ g; omega) _)
            have ZT := hide (show Blk Z we.heap.size 24 #[.slice A1 n1 c1] by rw [← hZ.out]; exact (XB.out.below B2.out hX1).far (show we.heap.size ≠ g by omega) _)
            have ZB := hide (show Below g Y Z by rw [← hZ.out]; exact (HX.out.trans (B2.out.mono (by omega))).setCell (by show g ≤ g; omega) _)
            have ZW := hide (show Below w.heap.size w Z by rw [← hZ.out]; exact (HWX.out.trans (B2.out.mono HWX.out.size)).setCell (by show w.heap.size ≤ g; omega) _)
            have ZM := hide (show SetMap Z b0 k0 by rw [← hZ.out]; exact ((MS.out.below HXB.out hbl0).below B2.out (by omega)).setCell (by show b0 ≠ g; omega) _)
            clear hZ g2c g2f e0 G2 S2 C hst
            have z0 : Z.cell? ⟨g, 1, none⟩ = some (.map (some X.heap.size)) := ZG.out.cell 1
            have z1 : Z.cell? ⟨we.heap.size, 0, none⟩ = some (.slice A1 n1 c1) := ZT.out.cell 0
            have hlen := fun (k : Nat) (ty : TypeId) => run_lenMap (Z.drewN k) X.heap.size k1 (ZS.out.drewN k) ty
            have hXg : g < X.heap.size := by omega
            have hk96 : k1.length ≤ 96 := by omega
            generalize X.heap.size = bx at *
            by_cases hlt : (k1.length : Int) < (n1 : Int)
            · have HF := hide (show res = 7 by rw [HV2.out, HVT.out, if_pos]; right; rw [L1.out, decide_eq_true (by omega)]; rfl)
              go_quiet (fail)
              go_wp2
              go_ret
              exact ⟨by rw [HF.out]; rfl, below_drewN ZW.out _⟩
            · have HL := hide (show l1 = true by rw [L1.out, decide_eq_false (by omega)]; rfl)
              go_quiet (fail)
              go_wp2
              exact ⟨⟨1 + 1, _, _, by omega, by rfl, fun _ => H0.out (by omega), fun _ => HL.out, ZG.out.drewN _, fun _ => ⟨b0, hmb, hb0, ZM.out.drewN _⟩, fun _ => ⟨bx, rfl, hXg, ZS.out.drewN _⟩, below_drewN ZB.out _⟩, by simp [intOf]⟩
          · rw [show ((2 : Nat) : Int) = 2 from rfl]
            obtain ⟨b0, rfl, hb0, hs0⟩ := M0.out (by omega)
            obtain ⟨b1, rfl, hb1, hs1⟩ := M1.out (by omega)
            have HV3 := hide (show res = if o0 = false ∨ o1 = false then 6 else 0 by rw [HV2.out, HVT.out, if_neg (by rw [H0.out (by omega), H1.out (by omega)]; simp)])
            have g0 : we.cell? ⟨g, 0, none⟩ = some (.map (some b0)) := HBK.out.cell 0
            have g1 : we.cell? ⟨g, 1, none⟩ = some (.map (some b1)) := HBK.out.cell 1
            have R0 := hide (run_look we b0 k0 hs0 K0.out)
            have R1 := hide (run_look we b1 k1 hs1 K1.out)
            clear HB HBK M0 M1 H0 H1 hs0 hs1 hb0 hb1 HV2 HVT L0 L1 N0 N1
            go_wp2
            clear g0 g1
            go_loopw [45] (fun s wr => ∃ i : Nat, i ≤ 2 ∧ s = .int .i64 (i : Int) ∧ Hid (1 ≤ i → o0 = true) ∧ Hid (2 ≤ i → o1 = true) ∧ we = wr) (fun s _ => 2 - (intOf s).toNat)
            case atStart => exact ⟨0, by omega, rfl, fun h => absurd h (by omega), fun h => absurd h (by omega), rfl⟩
            case round =>
              obtain ⟨i, hi, rfl, H0, H1, rfl⟩ := hrel
              obtain rfl | rfl | rfl : i = 0 ∨ i = 1 ∨ i = 2 := by omega
              · rw [show ((0 : Nat) : Int) = 0 from rfl]
                have hix := run_index_map0 (.map (some b0)) (.map (some b1))
                go_wp2
                clear hix
                go_loopw [10] (fun s wr => ∃ j : Nat, j ≤ 26 ∧ s = .int .i32 (97 + (j : Int)) ∧ Hid (((List.range j).all fun j => decide (([UInt8.ofNat (97 + j)], (0 : Int)) ∈ k0)) = true) ∧ we = wr) (fun s _ => 123 - (intOf s).toNat)
                case atStart => exact ⟨0, by omega, rfl, rfl, rfl⟩
                case round =>
                  obtain ⟨j, hj, rfl, HJ, rfl⟩ := hrel
                  by_cases hlt : j < 26
                  · have hji : 97 + (j : Int) ≤ 122 := by omega
                    have hj0 : (0 : Int) ≤ (j : Int) := by omega
                    have hlk := R0.out j hlt
                    have HLT := hide hlt
                    have HJS := hide (show ((List.range (j + 1)).all fun j => decide (([UInt8.ofNat (97 + j)], (0 : Int)) ∈ k0)) = decide (([UInt8.ofNat (97 + j)], (0 : Int)) ∈ k0) by rw [List.range_succ, List.all_append, HJ.out]; simp)
                    have HBAD := hide (show decide (([UInt8.ofNat (97 + j)], (0 : Int)) ∈ k0) = false → o0 = false by
                      intro h
                      rw [O0.out, List.all_eq_false]
                      exact ⟨j, List.mem_range.2 hlt, by rw [h]; decide⟩)
                    generalize decide (([UInt8.ofNat (97 + j)], (0 : Int)) ∈ k0) = ok at *
                    clear hlt
                    cases ok with
                    | true =>
                      clear HBAD
                      go_wp2
                      exact ⟨⟨j + 1, HLT.out, by go_num, HJS.out, trivial⟩, by have := HLT.out; simp [intOf]; omega⟩
                    | false =>
                      have HF := hide (show res = 6 by rw [HV3.out, if_pos (.inl (HBAD.out rfl))])
                      go_wp2
                      go_ret
                      exact ⟨by rw [HF.out]; rfl, HWE.out⟩
                  · obtain rfl : j = 26 := by omega
                    have HO := hide (show o0 = true by rw [O0.out]; exact HJ.out)
                    rw [show (97 + ((26 : Nat) : Int)) = 123 from rfl]
                    clear hlt
                    go_wp2
                    exact ⟨⟨0 + 1, by omega, by rfl, fun _ => HO.out, fun h => absurd h (by omega), trivial⟩, by simp [intOf]⟩
              · rw [show ((1 : Nat) : Int) = 1 from rfl]
                have hix := run_index_map1 (.map (some b0)) (.map (some b1))
                go_wp2
                clear hix
                go_loopw [10] (fun s wr => ∃ j : Nat, j ≤ 26 ∧ s = .int .i32 (97 + (j : Int)) ∧ Hid (((List.range j).all fun j => decide (([UInt8.ofNat (97 + j)], (0 : Int)) ∈ k1)) = true) ∧ we = wr) (fun s _ => 123 - (intOf s).toNat)
                case atStart => exact ⟨0, by omega, rfl, rfl, rfl⟩
                case round =>
                  obtain ⟨j, hj, rfl, HJ, rfl⟩ := hrel
                  by_cases hlt : j < 26
                  · have hji : 97 + (j : Int) ≤ 122 := by omega
                    have hj0 : (0 : Int) ≤ (j : Int) := by omega
                    have hlk := R1.out j hlt
                    have HLT := hide hlt
                    have HJS := hide (show ((List.range (j + 1)).all fun j => decide (([UInt8.ofNat (97 + j)], (0 : Int)) ∈ k1)) = decide (([UInt8.ofNat (97 + j)], (0 : Int)) ∈ k1) by rw [List.range_succ, List.all_append, HJ.out]; simp)
                    have HBAD := hide (show decide (([UInt8.ofNat (97 + j)], (0 : Int)) ∈ k1) = false → o1 = false by
                      intro h
                      rw [O1.out, List.all_eq_false]
                      exact ⟨j, List.mem_range.2 hlt, by rw [h]; decide⟩)
                    generalize decide (([UInt8.ofNat (97 + j)], (0 : Int)) ∈ k1) = ok at *
                    clear hlt
                    cases ok with
                    | true =>
                      clear HBAD
                      go_wp2
                      exact ⟨⟨j + 1, HLT.out, by go_num, HJS.out, trivial⟩, by have := HLT.out; simp [intOf]; omega⟩
                    | false =>
                      have HF := hide (show res = 6 by rw [HV3.out, if_pos (.inr (HBAD.out rfl))])
                      go_wp2
                      go_ret
                      exact ⟨by rw [HF.out]; rfl, HWE.out⟩
                  · obtain rfl : j = 26 := by omega
                    have HO := hide (show o1 = true by rw [O1.out]; exact HJ.out)
                    rw [show (97 + ((26 : Nat) : Int)) = 123 from rfl]
                    clear hlt
                    go_wp2
                    exact ⟨⟨1 + 1, by omega, by rfl, fun _ => H0.out (by omega), fun _ => HO.out, trivial⟩, by simp [intOf]⟩
              · rw [show ((2 : Nat) : Int) = 2 from rfl]
                have HF := hide (show res = 0 by rw [HV3.out, if_neg (by rw [H0.out (by omega), H1.out (by omega)]; simp)])
                go_wp2
                go_ret
                exact ⟨by rw [HF.out]; rfl, HWE.out⟩
end Go.Proofs.Ytbcfndhnopmbbaa
