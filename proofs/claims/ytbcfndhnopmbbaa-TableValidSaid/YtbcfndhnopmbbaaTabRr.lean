/-
  Tables: Right of the reference, by contract.
-/
import Derived.Test.YtbcfndhnopmbbaaTabRv
namespace Go.Proofs.Ytbcfndhnopmbbaa
open Go.RowKit
set_option linter.unusedVariables false
set_option linter.unusedSimpArgs false
theorem refCells_lit (A : Option Addr) (c : Nat) (l : List UInt8) (lo hi : Nat) (x y : Int) (hx : x = (lo : Int)) (hy : y = (hi : Int)) (w W : World) (h : BsAt w w.heap.size ⟨l, A, c⟩) (hlo : lo ≤ 1000) (hhi : hi ≤ 1000) (hb : Below w.heap.size w W) :
    Calls Try.prog 38 #[.slice A l.length c, .int .i64 x, .int .i64 y] W fun e w' => e = .returned (.bool (l.all Tb.filled && decide (lo ≤ l.length ∧ l.length ≤ hi))) ∧ Below W.heap.size W w' := by
  subst hx
  subst hy
  exact refCells_any A c l lo hi W (h.same hb) hlo hhi
theorem writable_cells (l : List UInt8) : (l.all Tb.filled && decide (1 ≤ l.length ∧ l.length ≤ 4)) = Tb.writable l := by
  unfold Tb.writable
  rw [Bool.and_comm]
set_option maxHeartbeats 4000000 in
set_option maxRecDepth 100000 in
theorem refRight_any (r : Tb.Rl) (w : World) (hb : BsAt w w.heap.size r.cells) (ht : r.text.length ≤ 1048576) :
    Calls Try.prog 37 #[.agg #[.string (S r.text), .int .i64 r.wh, .slice r.cells.ad r.cells.l.length r.cells.c]] w fun e w' => e = .returned (.bool (Tb.right r)) ∧ Below w.heap.size w w' := by
  have CC := hide (fun (W : World) (hbw : Below w.heap.size w W) => (show Calls Try.prog 38 #[.slice r.cells.ad r.cells.l.length r.cells.c, .int .i64 1, .int .i64 4] W fun e w' => e = .returned (.bool (Tb.writable r.cells.l)) ∧ Below W.heap.size W w' by
    rw [← writable_cells]
    exact refCells_lit r.cells.ad r.cells.c r.cells.l 1 4 1 4 rfl rfl w W hb (by omega) (by omega) hbw))
  have CS := hide (fun (W : World) => refSmall_any r.text W ht)
  have CW := hide (fun (W : World) => refWritten_any (r.text.headD 0) W)
  have CI := hide (fun (W : World) => refIs_any (r.text.headD 0) W)
  have CD := hide (fun (W : World) => refDigit_any (r.text.headD 0) W)
  have HRES := hide (show Tb.right r = (Tb.writable r.cells.l && decide (1 ≤ r.text.length ∧ r.text.length ≤ 8) && (if r.text.all Tb.small then decide (0 ≤ r.wh ∧ r.wh ≤ 3) else decide (r.text.length = 1) && (Tb.written (r.text.headD 0) && !Tb.letter (r.text.headD 0) && !Tb.digit (r.text.headD 0)) && decide (r.wh = 0))) from rfl)
  have hsz : (S r.text).size = r.text.length := S_size r.text
  have HIX := hide (fun (h : 0 < r.text.length) (W : World) => (show (Instr.index 9 (.string (S r.text)) (.int .i64 0)).run Try.prog W = .ok (.int .u8 ((r.text.headD 0).toNat : Int)) W by
    have h1 := run_index_S r.text 0 h W
    have e : r.text.getD 0 0 = r.text.headD 0 := by cases r.text <;> rfl
    rw [e] at h1
    exact h1))
  have HBX := hide (below_alloc w (.cells #[.string (S r.text), .int .i64 r.wh, .slice r.cells.ad r.cells.l.length r.cells.c] 74))
  unfold VC at CW CI CD
  generalize Tb.right r = res at *
  generalize Tb.writable r.cells.l = wv at *
  generalize r.text.all Tb.small = sm at *
  generalize Tb.written (r.text.headD 0) = b1 at *
  generalize Tb.letter (r.text.headD 0) = b2 at *
  generalize Tb.digit (r.text.headD 0) = b3 at *
  generalize (r.text.headD 0).toNat = ch at *
  generalize S r.text = sv at *
  generalize r.text.length = tn at *
  generalize r.wh = wh at *
  generalize r.cells.l.length = cl at *
  generalize r.cells.ad = ca at *
  generalize r.cells.c = cc at *
  have htn : (tn : Int) ≤ 1048576 := by omega
  clear hb ht
  by_cases h1 : tn < 1
  · have h1i : (tn : Int) < 1 := by omega
    have hfin := hide (show res = false by rw [HRES.out, decide_eq_false (show ¬ (1 ≤ tn ∧ tn ≤ 8) by omega)]; simp)
    clear HRES
    go_enter Try.func37, Try.ntmps37
    go_wp2_with (first
      | (go_at_call 38; refine (CC.out _ HBX.out).mono ?_; rintro e w1 ⟨rfl, hb1⟩; have B1 := hide (HBX.out.trans (hb1.mono HBX.out.size)); have P1 := hide ((Blk.new w 74 #[.string sv, .int .i64 wh, .slice ca cl cc]).below hb1 (Blk.lt (Blk.new w _ _))); have p0 : w1.cell? ⟨w.heap.size, 0, none⟩ = some (.string sv) := P1.out.cell 0; have p1 : w1.cell? ⟨w.heap.size, 1, none⟩ = some (.int .i64 wh) := P1.out.cell 1; clear hb1)
      | (go_at_call 62; refine (unhide CS _).mono ?_; rintro e w2 ⟨rfl, hb2⟩; have B2 := hide (B1.out.trans (hb2.mono B1.out.size)); clear p0 p1; have P2 := hide (P1.out.below hb2 P1.out.lt); have p0 : w2.cell? ⟨w.heap.size, 0, none⟩ = some (.string sv) := P2.out.cell 0; have p1 : w2.cell? ⟨w.heap.size, 1, none⟩ = some (.int .i64 wh) := P2.out.cell 1; clear hb2)
      | (go_at_call 48; refine (unhide CW _).mono ?_; rintro e w3 ⟨rfl, rfl⟩)
      | (go_at_call 31; refine (unhide CI _).mono ?_; rintro e w3 ⟨rfl, rfl⟩)
      | (go_at_call 32; refine (unhide CD _).mono ?_; rintro e w3 ⟨rfl, rfl⟩))
    go_ret
    exact ⟨by rw [hfin.out]; rfl, HBX.out⟩
  · have h1i : ¬ ((tn : Int) < 1) := by omega
    by_cases h2 : 8 < tn
    · have h2i : (8 : Int) < (tn : Int) := by omega
      have hfin := hide (show res = false by rw [HRES.out, decide_eq_false (show ¬ (1 ≤ tn ∧ tn ≤ 8) by omega)]; simp)
      clear HRES
      go_enter Try.func37, Try.ntmps37
      go_wp2_with (first
        | (go_at_call 38; refine (CC.out _ HBX.out).mono ?_; rintro e w1 ⟨rfl, hb1⟩; have B1 := hide (HBX.out.trans (hb1.mono HBX.out.size)); have P1 := hide ((Blk.new w 74 #[.string sv, .int .i64 wh, .slice ca cl cc]).below hb1 (Blk.lt (Blk.new w _ _))); have p0 : w1.cell? ⟨w.heap.size, 0, none⟩ = some (.string sv) := P1.out.cell 0; have p1 : w1.cell? ⟨w.heap.size, 1, none⟩ = some (.int .i64 wh) := P1.out.cell 1; clear hb1)
        | (go_at_call 62; refine (unhide CS _).mono ?_; rintro e w2 ⟨rfl, hb2⟩; have B2 := hide (B1.out.trans (hb2.mono B1.out.size)); clear p0 p1; have P2 := hide (P1.out.below hb2 P1.out.lt); have p0 : w2.cell? ⟨w.heap.size, 0, none⟩ = some (.string sv) := P2.out.cell 0; have p1 : w2.cell? ⟨w.heap.size, 1, none⟩ = some (.int .i64 wh) := P2.out.cell 1; clear hb2)
        | (go_at_call 48; refine (unhide CW _).mono ?_; rintro e w3 ⟨rfl, rfl⟩)
        | (go_at_call 31; refine (unhide CI _).mono ?_; rintro e w3 ⟨rfl, rfl⟩)
        | (go_at_call 32; refine (unhide CD _).mono ?_; rintro e w3 ⟨rfl, rfl⟩))
      go_ret
      exact ⟨by rw [hfin.out]; rfl, HBX.out⟩
    · have h2i : ¬ ((8 : Int) < (tn : Int)) := by omega
      by_cases h3 : wh < 0
      · have h3i : wh < 0 := by omega
        have hfin := hide (show res = false by rw [HRES.out, decide_eq_false (show ¬ (0 ≤ wh ∧ wh ≤ 3) by omega), decide_eq_false (show ¬ (wh = 0) by omega)]; simp)
        clear HRES
        go_enter Try.func37, Try.ntmps37
        go_wp2_with (first
          | (go_at_call 38; refine (CC.out _ HBX.out).mono ?_; rintro e w1 ⟨rfl, hb1⟩; have B1 := hide (HBX.out.trans (hb1.mono HBX.out.size)); have P1 := hide ((Blk.new w 74 #[.string sv, .int .i64 wh, .slice ca cl cc]).below hb1 (Blk.lt (Blk.new w _ _))); have p0 : w1.cell? ⟨w.heap.size, 0, none⟩ = some (.string sv) := P1.out.cell 0; have p1 : w1.cell? ⟨w.heap.size, 1, none⟩ = some (.int .i64 wh) := P1.out.cell 1; clear hb1)
          | (go_at_call 62; refine (unhide CS _).mono ?_; rintro e w2 ⟨rfl, hb2⟩; have B2 := hide (B1.out.trans (hb2.mono B1.out.size)); clear p0 p1; have P2 := hide (P1.out.below hb2 P1.out.lt); have p0 : w2.cell? ⟨w.heap.size, 0, none⟩ = some (.string sv) := P2.out.cell 0; have p1 : w2.cell? ⟨w.heap.size, 1, none⟩ = some (.int .i64 wh) := P2.out.cell 1; clear hb2)
          | (go_at_call 48; refine (unhide CW _).mono ?_; rintro e w3 ⟨rfl, rfl⟩)
          | (go_at_call 31; refine (unhide CI _).mono ?_; rintro e w3 ⟨rfl, rfl⟩)
          | (go_at_call 32; refine (unhide CD _).mono ?_; rintro e w3 ⟨rfl, rfl⟩))
        go_ret
        exact ⟨by rw [hfin.out]; rfl, HBX.out⟩
      · have h3i : ¬ (wh < 0) := by omega
        by_cases h4 : 3 < wh
        · have h4i : 3 < wh := by omega
          have hfin := hide (show res = false by rw [HRES.out, decide_eq_false (show ¬ (0 ≤ wh ∧ wh ≤ 3) by omega), decide_eq_false (show ¬ (wh = 0) by omega)]; simp)
          clear HRES
          go_enter Try.func37, Try.ntmps37
          go_wp2_with (first
            | (go_at_call 38; refine (CC.out _ HBX.out).mono ?_; rintro e w1 ⟨rfl, hb1⟩; have B1 := hide (HBX.out.trans (hb1.mono HBX.out.size)); have P1 := hide ((Blk.new w 74 #[.string sv, .int .i64 wh, .slice ca cl cc]).below hb1 (Blk.lt (Blk.new w _ _))); have p0 : w1.cell? ⟨w.heap.size, 0, none⟩ = some (.string sv) := P1.out.cell 0; have p1 : w1.cell? ⟨w.heap.size, 1, none⟩ = some (.int .i64 wh) := P1.out.cell 1; clear hb1)
            | (go_at_call 62; refine (unhide CS _).mono ?_; rintro e w2 ⟨rfl, hb2⟩; have B2 := hide (B1.out.trans (hb2.mono B1.out.size)); clear p0 p1; have P2 := hide (P1.out.below hb2 P1.out.lt); have p0 : w2.cell? ⟨w.heap.size, 0, none⟩ = some (.string sv) := P2.out.cell 0; have p1 : w2.cell? ⟨w.heap.size, 1, none⟩ = some (.int .i64 wh) := P2.out.cell 1; clear hb2)
            | (go_at_call 48; refine (unhide CW _).mono ?_; rintro e w3 ⟨rfl, rfl⟩)
            | (go_at_call 31; refine (unhide CI _).mono ?_; rintro e w3 ⟨rfl, rfl⟩)
            | (go_at_call 32; refine (unhide CD _).mono ?_; rintro e w3 ⟨rfl, rfl⟩))
          go_ret
          exact ⟨by rw [hfin.out]; rfl, HBX.out⟩
        · have h4i : ¬ (3 < wh) := by omega
          cases wv with
          | false =>
            have hfin := hide (show res = false by rw [HRES.out]; simp)
            clear HRES
            go_enter Try.func37, Try.ntmps37
            go_wp2_with (first
              | (go_at_call 38; refine (CC.out _ HBX.out).mono ?_; rintro e w1 ⟨rfl, hb1⟩; have B1 := hide (HBX.out.trans (hb1.mono HBX.out.size)); have P1 := hide ((Blk.new w 74 #[.string sv, .int .i64 wh, .slice ca cl cc]).below hb1 (Blk.lt (Blk.new w _ _))); have p0 : w1.cell? ⟨w.heap.size, 0, none⟩ = some (.string sv) := P1.out.cell 0; have p1 : w1.cell? ⟨w.heap.size, 1, none⟩ = some (.int .i64 wh) := P1.out.cell 1; clear hb1)
              | (go_at_call 62; refine (unhide CS _).mono ?_; rintro e w2 ⟨rfl, hb2⟩; have B2 := hide (B1.out.trans (hb2.mono B1.out.size)); clear p0 p1; have P2 := hide (P1.out.below hb2 P1.out.lt); have p0 : w2.cell? ⟨w.heap.size, 0, none⟩ = some (.string sv) := P2.out.cell 0; have p1 : w2.cell? ⟨w.heap.size, 1, none⟩ = some (.int .i64 wh) := P2.out.cell 1; clear hb2)
              | (go_at_call 48; refine (unhide CW _).mono ?_; rintro e w3 ⟨rfl, rfl⟩)
              | (go_at_call 31; refine (unhide CI _).mono ?_; rintro e w3 ⟨rfl, rfl⟩)
              | (go_at_call 32; refine (unhide CD _).mono ?_; rintro e w3 ⟨rfl, rfl⟩))
            go_ret
            exact ⟨by rw [hfin.out]; rfl, B1.out⟩
          | true =>
            cases sm with
            | true =>
              have hfin := hide (show res = true by rw [HRES.out, decide_eq_true (show 1 ≤ tn ∧ tn ≤ 8 by omega), decide_eq_true (show 0 ≤ wh ∧ wh ≤ 3 by omega)]; rfl)
              clear HRES
              go_enter Try.func37, Try.ntmps37
              go_wp2_with (first
                | (go_at_call 38; refine (CC.out _ HBX.out).mono ?_; rintro e w1 ⟨rfl, hb1⟩; have B1 := hide (HBX.out.trans (hb1.mono HBX.out.size)); have P1 := hide ((Blk.new w 74 #[.string sv, .int .i64 wh, .slice ca cl cc]).below hb1 (Blk.lt (Blk.new w _ _))); have p0 : w1.cell? ⟨w.heap.size, 0, none⟩ = some (.string sv) := P1.out.cell 0; have p1 : w1.cell? ⟨w.heap.size, 1, none⟩ = some (.int .i64 wh) := P1.out.cell 1; clear hb1)
                | (go_at_call 62; refine (unhide CS _).mono ?_; rintro e w2 ⟨rfl, hb2⟩; have B2 := hide (B1.out.trans (hb2.mono B1.out.size)); clear p0 p1; have P2 := hide (P1.out.below hb2 P1.out.lt); have p0 : w2.cell? ⟨w.heap.size, 0, none⟩ = some (.string sv) := P2.out.cell 0; have p1 : w2.cell? ⟨w.heap.size, 1, none⟩ = some (.int .i64 wh) := P2.out.cell 1; clear hb2)
                | (go_at_call 48; refine (unhide CW _).mono ?_; rintro e w3 ⟨rfl, rfl⟩)
                | (go_at_call 31; refine (unhide CI _).mono ?_; rintro e w3 ⟨rfl, rfl⟩)
                | (go_at_call 32; refine (unhide CD _).mono ?_; rintro e w3 ⟨rfl, rfl⟩))
              go_ret
              exact ⟨by rw [hfin.out]; rfl, B2.out⟩
            | false =>
              have hix := HIX.out (by omega)
              by_cases h5 : tn = 1
              · have h5e : ((tn : Int) == 1) = true := by rw [h5]; rfl
                have HR2 := hide (show res = (b1 && !b2 && !b3 && decide (wh = 0)) by rw [HRES.out, decide_eq_true (show 1 ≤ tn ∧ tn ≤ 8 by omega), decide_eq_true h5]; simp)
                clear HRES h5
                cases b1 with
                | false =>
                  have hfin := hide (show res = false by rw [HR2.out]; simp)
                  clear HR2
                  go_enter Try.func37, Try.ntmps37
                  go_wp2_with (first
                    | (go_at_call 38; refine (CC.out _ HBX.out).mono ?_; rintro e w1 ⟨rfl, hb1⟩; have B1 := hide (HBX.out.trans (hb1.mono HBX.out.size)); have P1 := hide ((Blk.new w 74 #[.string sv, .int .i64 wh, .slice ca cl cc]).below hb1 (Blk.lt (Blk.new w _ _))); have p0 : w1.cell? ⟨w.heap.size, 0, none⟩ = some (.string sv) := P1.out.cell 0; have p1 : w1.cell? ⟨w.heap.size, 1, none⟩ = some (.int .i64 wh) := P1.out.cell 1; clear hb1)
                    | (go_at_call 62; refine (unhide CS _).mono ?_; rintro e w2 ⟨rfl, hb2⟩; have B2 := hide (B1.out.trans (hb2.mono B1.out.size)); clear p0 p1; have P2 := hide (P1.out.below hb2 P1.out.lt); have p0 : w2.cell? ⟨w.heap.size, 0, none⟩ = some (.string sv) := P2.out.cell 0; have p1 : w2.cell? ⟨w.heap.size, 1, none⟩ = some (.int .i64 wh) := P2.out.cell 1; clear hb2)
                    | (go_at_call 48; refine (unhide CW _).mono ?_; rintro e w3 ⟨rfl, rfl⟩)
                    | (go_at_call 31; refine (unhide CI _).mono ?_; rintro e w3 ⟨rfl, rfl⟩)
                    | (go_at_call 32; refine (unhide CD _).mono ?_; rintro e w3 ⟨rfl, rfl⟩))
                  go_ret
                  exact ⟨by rw [hfin.out]; rfl, B2.out⟩
                | true =>
                  cases b2 with
                  | true =>
                    have hfin := hide (show res = false by rw [HR2.out]; simp)
                    clear HR2
                    go_enter Try.func37, Try.ntmps37
                    go_wp2_with (first
                      | (go_at_call 38; refine (CC.out _ HBX.out).mono ?_; rintro e w1 ⟨rfl, hb1⟩; have B1 := hide (HBX.out.trans (hb1.mono HBX.out.size)); have P1 := hide ((Blk.new w 74 #[.string sv, .int .i64 wh, .slice ca cl cc]).below hb1 (Blk.lt (Blk.new w _ _))); have p0 : w1.cell? ⟨w.heap.size, 0, none⟩ = some (.string sv) := P1.out.cell 0; have p1 : w1.cell? ⟨w.heap.size, 1, none⟩ = some (.int .i64 wh) := P1.out.cell 1; clear hb1)
                      | (go_at_call 62; refine (unhide CS _).mono ?_; rintro e w2 ⟨rfl, hb2⟩; have B2 := hide (B1.out.trans (hb2.mono B1.out.size)); clear p0 p1; have P2 := hide (P1.out.below hb2 P1.out.lt); have p0 : w2.cell? ⟨w.heap.size, 0, none⟩ = some (.string sv) := P2.out.cell 0; have p1 : w2.cell? ⟨w.heap.size, 1, none⟩ = some (.int .i64 wh) := P2.out.cell 1; clear hb2)
                      | (go_at_call 48; refine (unhide CW _).mono ?_; rintro e w3 ⟨rfl, rfl⟩)
                      | (go_at_call 31; refine (unhide CI _).mono ?_; rintro e w3 ⟨rfl, rfl⟩)
                      | (go_at_call 32; refine (unhide CD _).mono ?_; rintro e w3 ⟨rfl, rfl⟩))
                    go_ret
                    exact ⟨by rw [hfin.out]; rfl, B2.out⟩
                  | false =>
                    cases b3 with
                    | true =>
                      have hfin := hide (show res = false by rw [HR2.out]; simp)
                      clear HR2
                      go_enter Try.func37, Try.ntmps37
                      go_wp2_with (first
                        | (go_at_call 38; refine (CC.out _ HBX.out).mono ?_; rintro e w1 ⟨rfl, hb1⟩; have B1 := hide (HBX.out.trans (hb1.mono HBX.out.size)); have P1 := hide ((Blk.new w 74 #[.string sv, .int .i64 wh, .slice ca cl cc]).below hb1 (Blk.lt (Blk.new w _ _))); have p0 : w1.cell? ⟨w.heap.size, 0, none⟩ = some (.string sv) := P1.out.cell 0; have p1 : w1.cell? ⟨w.heap.size, 1, none⟩ = some (.int .i64 wh) := P1.out.cell 1; clear hb1)
                        | (go_at_call 62; refine (unhide CS _).mono ?_; rintro e w2 ⟨rfl, hb2⟩; have B2 := hide (B1.out.trans (hb2.mono B1.out.size)); clear p0 p1; have P2 := hide (P1.out.below hb2 P1.out.lt); have p0 : w2.cell? ⟨w.heap.size, 0, none⟩ = some (.string sv) := P2.out.cell 0; have p1 : w2.cell? ⟨w.heap.size, 1, none⟩ = some (.int .i64 wh) := P2.out.cell 1; clear hb2)
                        | (go_at_call 48; refine (unhide CW _).mono ?_; rintro e w3 ⟨rfl, rfl⟩)
                        | (go_at_call 31; refine (unhide CI _).mono ?_; rintro e w3 ⟨rfl, rfl⟩)
                        | (go_at_call 32; refine (unhide CD _).mono ?_; rintro e w3 ⟨rfl, rfl⟩))
                      go_ret
                      exact ⟨by rw [hfin.out]; rfl, B2.out⟩
                    | false =>
                      by_cases h6 : wh = 0
                      · have h6e : (wh == 0) = true := by rw [h6]; rfl
                        have hfin := hide (show res = true by rw [HR2.out]; simp [h6])
                        clear HR2 h6
                        go_enter Try.func37, Try.ntmps37
                        go_wp2_with (first
                          | (go_at_call 38; refine (CC.out _ HBX.out).mono ?_; rintro e w1 ⟨rfl, hb1⟩; have B1 := hide (HBX.out.trans (hb1.mono HBX.out.size)); have P1 := hide ((Blk.new w 74 #[.string sv, .int .i64 wh, .slice ca cl cc]).below hb1 (Blk.lt (Blk.new w _ _))); have p0 : w1.cell? ⟨w.heap.size, 0, none⟩ = some (.string sv) := P1.out.cell 0; have p1 : w1.cell? ⟨w.heap.size, 1, none⟩ = some (.int .i64 wh) := P1.out.cell 1; clear hb1)
                          | (go_at_call 62; refine (unhide CS _).mono ?_; rintro e w2 ⟨rfl, hb2⟩; have B2 := hide (B1.out.trans (hb2.mono B1.out.size)); clear p0 p1; have P2 := hide (P1.out.below hb2 P1.out.lt); have p0 : w2.cell? ⟨w.heap.size, 0, none⟩ = some (.string sv) := P2.out.cell 0; have p1 : w2.cell? ⟨w.heap.size, 1, none⟩ = some (.int .i64 wh) := P2.out.cell 1; clear hb2)
                          | (go_at_call 48; refine (unhide CW _).mono ?_; rintro e w3 ⟨rfl, rfl⟩)
                          | (go_at_call 31; refine (unhide CI _).mono ?_; rintro e w3 ⟨rfl, rfl⟩)
                          | (go_at_call 32; refine (unhide CD _).mono ?_; rintro e w3 ⟨rfl, rfl⟩))
                        go_ret
                        exact ⟨by rw [hfin.out]; rfl, B2.out⟩
                      · have h6e : (wh == 0) = false := by rw [beq_eq_false_iff_ne]; exact h6
                        have hfin := hide (show res = false by rw [HR2.out]; simp [h6])
                        clear HR2 h6
                        go_enter Try.func37, Try.ntmps37
                        go_wp2_with (first
                          | (go_at_call 38; refine (CC.out _ HBX.out).mono ?_; rintro e w1 ⟨rfl, hb1⟩; have B1 := hide (HBX.out.trans (hb1.mono HBX.out.size)); have P1 := hide ((Blk.new w 74 #[.string sv, .int .i64 wh, .slice ca cl cc]).below hb1 (Blk.lt (Blk.new w _ _))); have p0 : w1.cell? ⟨w.heap.size, 0, none⟩ = some (.string sv) := P1.out.cell 0; have p1 : w1.cell? ⟨w.heap.size, 1, none⟩ = some (.int .i64 wh) := P1.out.cell 1; clear hb1)
                          | (go_at_call 62; refine (unhide CS _).mono ?_; rintro e w2 ⟨rfl, hb2⟩; have B2 := hide (B1.out.trans (hb2.mono B1.out.size)); clear p0 p1; have P2 := hide (P1.out.below hb2 P1.out.lt); have p0 : w2.cell? ⟨w.heap.size, 0, none⟩ = some (.string sv) := P2.out.cell 0; have p1 : w2.cell? ⟨w.heap.size, 1, none⟩ = some (.int .i64 wh) := P2.out.cell 1; clear hb2)
                          | (go_at_call 48; refine (unhide CW _).mono ?_; rintro e w3 ⟨rfl, rfl⟩)
                          | (go_at_call 31; refine (unhide CI _).mono ?_; rintro e w3 ⟨rfl, rfl⟩)
                          | (go_at_call 32; refine (unhide CD _).mono ?_; rintro e w3 ⟨rfl, rfl⟩))
                        go_ret
                        exact ⟨by rw [hfin.out]; rfl, B2.out⟩
              · have h5e : ((tn : Int) == 1) = false := by rw [beq_eq_false_iff_ne]; omega
                have hfin := hide (show res = false by rw [HRES.out, decide_eq_false h5]; simp)
                clear HRES
                go_enter Try.func37, Try.ntmps37
                go_wp2_with (first
                  | (go_at_call 38; refine (CC.out _ HBX.out).mono ?_; rintro e w1 ⟨rfl, hb1⟩; have B1 := hide (HBX.out.trans (hb1.mono HBX.out.size)); have P1 := hide ((Blk.new w 74 #[.string sv, .int .i64 wh, .slice ca cl cc]).below hb1 (Blk.lt (Blk.new w _ _))); have p0 : w1.cell? ⟨w.heap.size, 0, none⟩ = some (.string sv) := P1.out.cell 0; have p1 : w1.cell? ⟨w.heap.size, 1, none⟩ = some (.int .i64 wh) := P1.out.cell 1; clear hb1)
                  | (go_at_call 62; refine (unhide CS _).mono ?_; rintro e w2 ⟨rfl, hb2⟩; have B2 := hide (B1.out.trans (hb2.mono B1.out.size)); clear p0 p1; have P2 := hide (P1.out.below hb2 P1.out.lt); have p0 : w2.cell? ⟨w.heap.size, 0, none⟩ = some (.string sv) := P2.out.cell 0; have p1 : w2.cell? ⟨w.heap.size, 1, none⟩ = some (.int .i64 wh) := P2.out.cell 1; clear hb2)
                  | (go_at_call 48; refine (unhide CW _).mono ?_; rintro e w3 ⟨rfl, rfl⟩)
                  | (go_at_call 31; refine (unhide CI _).mono ?_; rintro e w3 ⟨rfl, rfl⟩)
                  | (go_at_call 32; refine (unhide CD _).mono ?_; rintro e w3 ⟨rfl, rfl⟩))
                go_ret
                exact ⟨by rw [hfin.out]; rfl, B2.out⟩
end Go.Proofs.Ytbcfndhnopmbbaa
