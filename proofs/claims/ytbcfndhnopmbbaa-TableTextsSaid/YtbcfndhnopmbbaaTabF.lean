/-
  Tables: in memory as a whole; proper, by contract.
-/
import Derived.Test.YtbcfndhnopmbbaaTabE
namespace Go.Proofs.Ytbcfndhnopmbbaa
open Go.RowKit
set_option linter.unusedVariables false
set_option linter.unusedSimpArgs false
/-- tables as a value, what they lead to below B -/
def TabAt (w : World) (B : Nat) (v : Value) (t : Tb.Tab) : Prop :=
  ∃ (A0 A1 : Option Addr) (c0 c1 : Nat), v = .agg #[.slice A0 t.r0.length c0, .slice A1 t.r1.length c1, .slice t.dig.ad t.dig.l.length t.dig.c, .slice t.cap.ad t.cap.l.length t.cap.c, .slice t.num.ad t.num.l.length t.num.c, .slice t.fin.ad t.fin.l.length t.fin.c, .slice t.sw.ad t.sw.l.length t.sw.c] ∧
    RulesAt w B A0 t.r0 ∧ RulesAt w B A1 t.r1 ∧ t.r0.length ≤ c0 ∧ t.r1.length ≤ c1 ∧ BsAt w B t.dig ∧ BsAt w B t.cap ∧ BsAt w B t.num ∧ BsAt w B t.fin ∧ BsAt w B t.sw
theorem TabAt.below {w w' : World} {B : Nat} {v : Value} {t : Tb.Tab} (h : TabAt w B v t) (hb : Below B w w') : TabAt w' B v t := by
  obtain ⟨A0, A1, c0, c1, h1, h2, h3, h4, h5, h6, h7, h8, h9, h10⟩ := h
  exact ⟨A0, A1, c0, c1, h1, h2.below hb, h3.below hb, h4, h5, h6.below hb, h7.below hb, h8.below hb, h9.below hb, h10.below hb⟩
theorem TabAt.more {w : World} {B B' : Nat} {v : Value} {t : Tb.Tab} (h : TabAt w B v t) (hB : B ≤ B') : TabAt w B' v t := by
  obtain ⟨A0, A1, c0, c1, h1, h2, h3, h4, h5, h6, h7, h8, h9, h10⟩ := h
  exact ⟨A0, A1, c0, c1, h1, h2.more hB, h3.more hB, h4, h5, h6.more hB, h7.more hB, h8.more hB, h9.more hB, h10.more hB⟩
theorem langInfo : (Try.prog.info? 24).map (·.size) = some 1 := by kernel_rfl
theorem run_index_lang0 (a b : Value) (W : World) : (Instr.index 25 (.agg #[a, b]) (.int .i64 0)).run Try.prog W = .ok (.agg #[a]) W := by
  have hs : ∀ W, (sizeOf 24).run Try.prog W = .ok 1 W := fun W => Try.sizeOf24 W
  have hg : ∀ W, (isAgg 24).run Try.prog W = .ok true W := fun W => Try.isAgg24 W
  simp [Instr.index, run_underlying Try.underlying25, asIntOf, hs, hg, part]
theorem run_index_lang1 (a b : Value) (W : World) : (Instr.index 25 (.agg #[a, b]) (.int .i64 1)).run Try.prog W = .ok (.agg #[b]) W := by
  have hs : ∀ W, (sizeOf 24).run Try.prog W = .ok 1 W := fun W => Try.sizeOf24 W
  have hg : ∀ W, (isAgg 24).run Try.prog W = .ok true W := fun W => Try.isAgg24 W
  simp [Instr.index, run_underlying Try.underlying25, asIntOf, hs, hg, part]
theorem BsAt.same {w w' : World} {b : Tb.Bs} (h : BsAt w w.heap.size b) (hb : Below w.heap.size w w') : BsAt w' w'.heap.size b := (h.below hb).more hb.size
theorem writable_bs (b : Tb.Bs) (w : World) (h : BsAt w w.heap.size b) :
    Calls Try.prog 61 #[.slice b.ad b.l.length b.c] w fun e w' => e = .returned (.bool (Tb.writable b.l)) ∧ w = w' := writable_any b.ad b.l.length b.c b.l w h.1 h.2.2
set_option maxHeartbeats 4000000 in
set_option maxRecDepth 100000 in
theorem proper_any (v : Value) (t : Tb.Tab) (w : World) (h : TabAt w w.heap.size v t) :
    Calls Try.prog 35 #[v] w fun e w' => e = .returned (.bool (Tb.proper t)) ∧ Below w.heap.size w w' := by
  obtain ⟨A0, A1, c0, c1, rfl, h0, h1, _, _, hd, hc, hn, hf, hs⟩ := h
  have HP := hide (show Tb.proper t = (t.r0.all Tb.right && t.r1.all Tb.right && decide (t.dig.l.length = 10) && t.dig.l.all Tb.filled && Tb.writable t.cap.l && Tb.writable t.num.l && Tb.writable t.fin.l && Tb.writable t.sw.l) from rfl)
  have E0 := hide (fun (W : World) (hb : Below w.heap.size w W) => every_possible A0 c0 t.r0 W ((h0.below hb).more hb.size))
  have E1 := hide (fun (W : World) (hb : Below w.heap.size w W) => every_possible A1 c1 t.r1 W ((h1.below hb).more hb.size))
  have CD := hide (fun (W : World) (hb : Below w.heap.size w W) => every_filled t.dig.ad t.dig.l.length t.dig.c t.dig.l W ((hd.1.below hb).more hb.size) hd.2.2)
  have CC := hide (fun (W : World) (hb : Below w.heap.size w W) => writable_bs t.cap W (hc.same hb))
  have CN := hide (fun (W : World) (hb : Below w.heap.size w W) => writable_bs t.num W (hn.same hb))
  have CF := hide (fun (W : World) (hb : Below w.heap.size w W) => writable_bs t.fin W (hf.same hb))
  have CS := hide (fun (W : World) (hb : Below w.heap.size w W) => writable_bs t.sw W (hs.same hb))
  have hm0 := h0.2.2
  have hm1 := h1.2.2
  have hm2 := hd.2.2
  clear h0 h1 hd hc hn hf hs
  generalize Tb.proper t = res at *
  generalize t.r0.all Tb.right = b0 at *
  generalize t.r1.all Tb.right = b1 at *
  generalize t.dig.l.all Tb.filled = b2 at *
  generalize Tb.writable t.cap.l = b3 at *
  generalize Tb.writable t.num.l = b4 at *
  generalize Tb.writable t.fin.l = b5 at *
  generalize Tb.writable t.sw.l = b6 at *
  generalize t.r0.length = n0 at *
  generalize t.r1.length = n1 at *
  generalize t.dig.l.length = n2 at *
  generalize t.cap.l.length = n3 at *
  generalize t.num.l.length = n4 at *
  generalize t.fin.l.length = n5 at *
  generalize t.sw.l.length = n6 at *
  go_enter Try.func35, Try.ntmps35
  go_upto_region 1 with fail
  refine name_world fun V hV => ?_
  have VB := hide (show Blk V w.heap.size 28 #[.slice A0 n0 c0, .slice A1 n1 c1, .slice t.dig.ad n2 t.dig.c, .slice t.cap.ad n3 t.cap.c, .slice t.num.ad n4 t.num.c, .slice t.fin.ad n5 t.fin.c, .slice t.sw.ad n6 t.sw.c] by rw [← hV.out]; exact Blk.new w _ _)
  have HV := hide (show Below w.heap.size w V by rw [← hV.out]; exact below_alloc w _)
  have hgV := VB.out.lt
  have k0 : V.cell? ⟨w.heap.size, 0, none⟩ = some (.slice A0 n0 c0) := VB.out.cell 0
  have k1 : V.cell? ⟨w.heap.size, 1, none⟩ = some (.slice A1 n1 c1) := VB.out.cell 1
  have HVV := hide (Below.refl V.heap.size V)
  clear hV
  go_wp2
  clear k0 k1
  go_loopw [7] (fun s wr => ∃ i : Nat, i ≤ 2 ∧ s = .int .i64 (i : Int) ∧ Hid (1 ≤ i → b0 = true) ∧ Hid (2 ≤ i → b1 = true) ∧ Below V.heap.size V wr) (fun s _ => 2 - (intOf s).toNat)
  case atStart => exact ⟨0, by omega, rfl, fun h => absurd h (by omega), fun h => absurd h (by omega), HVV.out⟩
  case round =>
    obtain ⟨i, hi, rfl, H0, H1, hbel⟩ := hrel
    obtain ⟨wd, rfl⟩ : ∃ wd, wd = wr := ⟨wr, rfl⟩
    have HB := hide hbel
    have HWD := hide (HV.out.trans (hbel.mono HV.out.size))
    clear hbel
    obtain rfl | rfl | rfl : i = 0 ∨ i = 1 ∨ i = 2 := by omega
    · rw [show ((0 : Nat) : Int) = 0 from rfl]
      have hix := run_index_lang0 (.slice A0 n0 c0) (.slice A1 n1 c1)
      go_upto_region 4 with fail
      refine name_world fun X hX => ?_
      have XB := hide (show Blk X wd.heap.size 24 #[.slice A0 n0 c0] by rw [← hX.out]; exact Blk.new wd _ _)
      have HXB := hide (show Below wd.heap.size wd X by rw [← hX.out]; exact below_alloc wd _)
      have HX := hide (HB.out.trans (HXB.out.mono HB.out.size))
      have HWX := hide (HWD.out.trans (HXB.out.mono HWD.out.size))
      have e0 : X.cell? ⟨wd.heap.size, 0, none⟩ = some (.slice A0 n0 c0) := XB.out.cell 0
      have C := hide (E0.out X HWX.out)
      clear hX
      cases b0 with
      | true =>
        go_wp2_with (go_at_call 58; refine (unhide C).mono ?_; rintro e w1 ⟨rfl, hb1⟩; have B1 := hide (HX.out.trans (hb1.mono HX.out.size)); clear hb1)
        exact ⟨⟨0 + 1, by omega, by rfl, fun _ => trivial, fun h => absurd h (by omega), B1.out⟩, by simp [intOf]⟩
      | false =>
        have HF := hide (show res = false by rw [HP.out]; rfl)
        go_wp2_with (go_at_call 58; refine (unhide C).mono ?_; rintro e w1 ⟨rfl, hb1⟩; have B1 := hide (HWX.out.trans (hb1.mono HWX.out.size)); clear hb1)
        go_ret
        exact ⟨by rw [HF.out]; rfl, B1.out⟩
    · rw [show ((1 : Nat) : Int) = 1 from rfl]
      have hix := run_index_lang1 (.slice A0 n0 c0) (.slice A1 n1 c1)
      go_upto_region 4 with fail
      refine name_world fun X hX => ?_
      have XB := hide (show Blk X wd.heap.size 24 #[.slice A1 n1 c1] by rw [← hX.out]; exact Blk.new wd _ _)
      have HXB := hide (show Below wd.heap.size wd X by rw [← hX.out]; exact below_alloc wd _)
      have HX := hide (HB.out.trans (HXB.out.mono HB.out.size))
      have HWX := hide (HWD.out.trans (HXB.out.mono HWD.out.size))
      have e0 : X.cell? ⟨wd.heap.size, 0, none⟩ = some (.slice A1 n1 c1) := XB.out.cell 0
      have C := hide (E1.out X HWX.out)
      clear hX
      cases b1 with
      | true =>
        go_wp2_with (go_at_call 58; refine (unhide C).mono ?_; rintro e w1 ⟨rfl, hb1⟩; have B1 := hide (HX.out.trans (hb1.mono HX.out.size)); clear hb1)
        exact ⟨⟨1 + 1, by omega, by rfl, fun _ => H0.out (by omega), fun _ => trivial, B1.out⟩, by simp [intOf]⟩
      | false =>
        have HF := hide (show res = false by rw [HP.out, H0.out (by omega)]; rfl)
        go_wp2_with (go_at_call 58; refine (unhide C).mono ?_; rintro e w1 ⟨rfl, hb1⟩; have B1 := hide (HWX.out.trans (hb1.mono HWX.out.size)); clear hb1)
        go_ret
        exact ⟨by rw [HF.out]; rfl, B1.out⟩
    · rw [show ((2 : Nat) : Int) = 2 from rfl]
      have WB := VB.out.below HB.out hgV
      have e2 : wd.cell? ⟨w.heap.size, 2, none⟩ = some (.slice t.dig.ad n2 t.dig.c) := WB.cell 2
      have e3 : wd.cell? ⟨w.heap.size, 3, none⟩ = some (.slice t.cap.ad n3 t.cap.c) := WB.cell 3
      have e4 : wd.cell? ⟨w.heap.size, 4, none⟩ = some (.slice t.num.ad n4 t.num.c) := WB.cell 4
      have e5 : wd.cell? ⟨w.heap.size, 5, none⟩ = some (.slice t.fin.ad n5 t.fin.c) := WB.cell 5
      have e6 : wd.cell? ⟨w.heap.size, 6, none⟩ = some (.slice t.sw.ad n6 t.sw.c) := WB.cell 6
      have D2 := hide (CD.out wd HWD.out)
      have D3 := hide (CC.out wd HWD.out)
      have D4 := hide (CN.out wd HWD.out)
      have D5 := hide (CF.out wd HWD.out)
      have D6 := hide (CS.out wd HWD.out)
      have HP2 := hide (show res = (decide (n2 = 10) && b2 && b3 && b4 && b5 && b6) by rw [HP.out, H0.out (by omega), H1.out (by omega)]; simp)
      clear WB HP H0 H1 E0 E1 CD CC CN CF CS
      by_cases hn : (n2 : Int) = 10
      · have hne : ((n2 : Int) == 10) = true := by rw [hn]; rfl
        have HP3 := hide (show res = (b2 && b3 && b4 && b5 && b6) by rw [HP2.out, decide_eq_true (by omega)]; simp)
        clear HP2
        cases b2 with
        | false =>
          go_wp2_with (go_at_call 46; refine (unhide D2).mono ?_; rintro e w1 ⟨rfl, rfl⟩)
          go_ret
          exact ⟨by rw [HP3.out]; rfl, HWD.out⟩
        | true =>
        cases b3 with
        | false =>
          go_wp2_with (first
            | (go_at_call 46; refine (unhide D2).mono ?_; rintro e w1 ⟨rfl, rfl⟩)
            | (go_at_call 61; with_reducible refine (unhide D3).mono ?_; rintro e w1 ⟨rfl, rfl⟩))
          go_ret
          exact ⟨by rw [HP3.out]; rfl, HWD.out⟩
        | true =>
        cases b4 with
        | false =>
          go_wp2_with (first
            | (go_at_call 46; refine (unhide D2).mono ?_; rintro e w1 ⟨rfl, rfl⟩)
            | (go_at_call 61; first | (with_reducible refine (unhide D3).mono ?_); rintro e w1 ⟨rfl, rfl⟩ | (with_reducible refine (unhide D4).mono ?_); rintro e w1 ⟨rfl, rfl⟩))
          go_ret
          exact ⟨by rw [HP3.out]; rfl, HWD.out⟩
        | true =>
        cases b5 with
        | false =>
          go_wp2_with (first
            | (go_at_call 46; refine (unhide D2).mono ?_; rintro e w1 ⟨rfl, rfl⟩)
            | (go_at_call 61; first | (with_reducible refine (unhide D3).mono ?_); rintro e w1 ⟨rfl, rfl⟩ | (with_reducible refine (unhide D4).mono ?_); rintro e w1 ⟨rfl, rfl⟩ | (with_reducible refine (unhide D5).mono ?_); rintro e w1 ⟨rfl, rfl⟩))
          go_ret
          exact ⟨by rw [HP3.out]; rfl, HWD.out⟩
        | true =>
          go_wp2_with (first
            | (go_at_call 46; refine (unhide D2).mono ?_; rintro e w1 ⟨rfl, rfl⟩)
            | (go_at_call 61; first | (with_reducible refine (unhide D3).mono ?_); rintro e w1 ⟨rfl, rfl⟩ | (with_reducible refine (unhide D4).mono ?_); rintro e w1 ⟨rfl, rfl⟩ | (with_reducible refine (unhide D5).mono ?_); rintro e w1 ⟨rfl, rfl⟩ | (with_reducible refine (unhide D6).mono ?_); rintro e w1 ⟨rfl, rfl⟩))
          go_ret
          exact ⟨by rw [HP3.out]; rfl, HWD.out⟩
      · have hne : ((n2 : Int) == 10) = false := by
          rw [beq_eq_false_iff_ne]
          exact hn
        have HF := hide (show res = false by rw [HP2.out, decide_eq_false (by omega)]; rfl)
        clear HP2
        go_wp2
        go_ret
        exact ⟨by rw [HF.out]; rfl, HWD.out⟩
end Go.Proofs.Ytbcfndhnopmbbaa
