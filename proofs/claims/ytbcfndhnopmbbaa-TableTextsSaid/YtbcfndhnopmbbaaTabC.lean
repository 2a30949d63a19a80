/-
  Tables: rules in memory; possible, by contract.
-/
import Derived.Test.YtbcfndhnopmbbaaTabB
namespace Go.Proofs.Ytbcfndhnopmbbaa
open Go.RowKit
set_option linter.unusedVariables false
set_option linter.unusedSimpArgs false
/-- a rule as cells -/
def ruC (r : Tb.Rl) : List Value := [.string (S r.text), .int .i64 r.wh, .slice r.cells.ad r.cells.l.length r.cells.c]
def RC (rs : List Tb.Rl) : List Value := rs.flatMap ruC
theorem RC_len (es : List Tb.Rl) : (RC es).length = es.length * 3 := by
  induction es with
  | nil => rfl
  | cons e r ih =>
    unfold RC at ih ⊢
    rw [List.flatMap_cons, List.length_append, ih, List.length_cons]
    show 3 + _ = _
    omega
theorem RC_get (es : List Tb.Rl) (k j : Nat) (h : k < es.length) (hj : j < 3) : (RC es)[k * 3 + j]? = (ruC es[k])[j]? := by
  induction es generalizing k with
  | nil => exact absurd h (by simp)
  | cons e r ih =>
    unfold RC at ih ⊢
    rw [List.flatMap_cons]
    cases k with
    | zero => rw [List.getElem?_append_left (by show 0 * 3 + j < 3; omega), Nat.zero_mul, Nat.zero_add]; rfl
    | succ k =>
      have h' : k < r.length := by simpa using h
      rw [List.getElem?_append_right (by show 3 ≤ _; omega)]
      show (r.flatMap ruC)[(k + 1) * 3 + j - 3]? = _
      rw [show (k + 1) * 3 + j - 3 = k * 3 + j by omega, ih k h']
      rfl
theorem RC_append (a b : List Tb.Rl) : RC (a ++ b) = RC a ++ RC b := by unfold RC; rw [List.flatMap_append]
/-- bytes in memory below B -/
def BsAt (w : World) (B : Nat) (b : Tb.Bs) : Prop := Reads w B 1 b.ad b.l.length (BV b.l) ∧ b.l.length ≤ b.c ∧ b.l.length ≤ 1048576
theorem BsAt.below {w w' : World} {B : Nat} {b : Tb.Bs} (h : BsAt w B b) (hb : Below B w w') : BsAt w' B b := ⟨h.1.below hb, h.2⟩
theorem BsAt.more {w : World} {B B' : Nat} {b : Tb.Bs} (h : BsAt w B b) (hB : B ≤ B') : BsAt w B' b := ⟨h.1.more hB, h.2⟩
/-- rules in memory below B -/
def RulesAt (w : World) (B : Nat) (A : Option Addr) (rs : List Tb.Rl) : Prop := Reads w B 3 A rs.length (RC rs) ∧ (∀ r ∈ rs, BsAt w B r.cells ∧ r.text.length ≤ 1048576 ∧ Wr.inI r.wh) ∧ rs.length ≤ 1048576
theorem RulesAt.below {w w' : World} {B : Nat} {A : Option Addr} {rs : List Tb.Rl} (h : RulesAt w B A rs) (hb : Below B w w') : RulesAt w' B A rs := ⟨h.1.below hb, fun r hr => ⟨(h.2.1 r hr).1.below hb, (h.2.1 r hr).2⟩, h.2.2⟩
theorem RulesAt.more {w : World} {B B' : Nat} {A : Option Addr} {rs : List Tb.Rl} (h : RulesAt w B A rs) (hB : B ≤ B') : RulesAt w B' A rs := ⟨h.1.more hB, fun r hr => ⟨(h.2.1 r hr).1.more hB, (h.2.1 r hr).2⟩, h.2.2⟩
/-- the cells of a rule -/
theorem reads_rule {w : World} {B : Nat} {A : Option Addr} {rs : List Tb.Rl} (h : RulesAt w B A rs) (k : Nat) (hk : k < rs.length) :
    ∃ ad, A = some ad ∧ ad.block < B ∧ ∀ (j : Nat) (v : Value), (ruC rs[k])[j]? = some v → w.cell? ((ad.add (k * 3)).add j) = some v := by
  obtain ⟨ad, hA, hb, hc⟩ := h.1.2 (by omega)
  refine ⟨ad, hA, hb, fun j v hv => ?_⟩
  have hj : j < 3 := (List.getElem?_eq_some_iff.1 hv).1
  rw [add_of_add]
  exact hc _ _ (by rw [RC_get rs k j hk hj]; exact hv)
theorem ruleInfo : (Try.prog.info? 74).map (·.size) = some 3 := by kernel_rfl
theorem ruleInfo3 : (Try.prog.info? 74).map (fun i => (i.zero, i.size, i.bytes)) = some (some (.agg #[.string (S []), .int .i64 0, .slice none 0 0]), 3, 48) := by kernel_rfl
theorem byteOf_S (l : List UInt8) (i : Nat) (h : i < l.length) (h' : i < (S l).size) : (S l)[i]'h' = l[i] := by
  rfl
theorem name_world {P : Program} {c : Code} {Q : Exit → Act → World → Prop} {a : Act} {w : World} (h : ∀ W, Hid (w = W) → c.wp P Q a W) : c.wp P Q a w := h w rfl
theorem run_loadVar_at {P : Program} (w : World) (a : Addr) (ty : TypeId) (cs : List Value) (d : TypeDesc) (hc : ∀ j v, cs[j]? = some v → w.cell? (a.add j) = some v)
    (hu : P.underlying ty = some d) (hd : d.isRow = true) (hi : (P.info? ty).map (·.size) = some cs.length) : (loadVar ty a).run P w = .ok (.agg cs.toArray) w := by
  have hl : (loadCells a cs.length).run P w = .ok cs.toArray w := run_loadCells_list (P := P) w a cs hc
  cases hq : P.info? ty with
  | none => simp [hq] at hi
  | some i =>
    have hs : i.size = cs.length := by simpa [hq] using hi
    have hagg : (isAgg ty).run P w = .ok true w := by
      unfold isAgg
      rw [Sem.run_bind, run_underlying hu w]
      cases d <;> simp_all
    simp [loadVar, Sem.run_bind, hagg, sizeOf, typeInfo, hq, hs, hl]
theorem wpList_load_at {P : Program} {ops : Array Oper} {rest : List Oper} {op : Oper} {a : Act} {w : World} {Q : Exit → Act → World → Prop} (hgd : op.guard = none) (ty : TypeId) (x : Operand) (ho : op.op = .load ty x)
    (ad : Addr) (hx : a.eval x = .pointer (some ad)) (cs : List Value) (d : TypeDesc) (hc : ∀ j v, cs[j]? = some v → w.cell? (ad.add j) = some v)
    (hu : P.underlying ty = some d) (hd : d.isRow = true) (hi : (P.info? ty).map (·.size) = some cs.length)
    (h : wpList P ops Q rest (a.put op.dst (.agg cs.toArray)) w) : wpList P ops Q (op :: rest) a w :=
  wpList_plain hgd fun _ hK => by
    unfold Oper.wp execOp
    simp only [ho, hx, Instr.loadAt, Instr.sureAddr, Sem.run_bind, Sem.run_pure, Result.andThen_ok, run_loadVar_at w ad ty cs d hc hu hd hi]
    exact hK _ _ h
/-- a possible rule: by cases -/
theorem Tb.right_eq (r : Tb.Rl) : Tb.right r = (Tb.writable r.cells.l && decide (1 ≤ r.text.length ∧ r.text.length ≤ 8) && (if r.text.all Tb.small then decide (0 ≤ r.wh ∧ r.wh ≤ 3) else decide (r.text.length = 1) && Tb.mark (r.text.headD 0) && decide (r.wh = 0))) := rfl
set_option maxHeartbeats 4000000 in
set_option maxRecDepth 100000 in
theorem possible_any (r : Tb.Rl) (w : World) (hb : BsAt w w.heap.size r.cells) (ht : r.text.length ≤ 1048576) :
    Calls Try.prog 59 #[.agg #[.string (S r.text), .int .i64 r.wh, .slice r.cells.ad r.cells.l.length r.cells.c]] w fun e w' => e = .returned (.bool (Tb.right r)) ∧ Below w.heap.size w w' := by
  have HR := hide (Tb.right_eq r)
  have HT1 := hide (show 0 < r.text.length → (r.text.headD 0) = r.text.getD 0 0 by cases r.text <;> simp)
  obtain ⟨T, wh, ⟨cl, ca, cc⟩⟩ := r
  simp only [] at *
  have CW := hide (fun (W : World) (h : Below w.heap.size w W) => writable_any ca cl.length cc cl W ((hb.1.below h).more h.size) hb.2.2)
  generalize Tb.right _ = res at *
  generalize Tb.writable cl = wr at *
  generalize cl.length = cn at *
  clear hb
  have HS := hide (S_size T)
  have CT := hide (fun (W : World) => conv_bytes T W)
  have CM := hide (fun (W : World) (h0 : 0 < (S T).size) => (show Calls Try.prog 66 #[.int .u8 ((((S T)[0]'h0).toNat : Nat) : Int)] W fun e w' => e = .returned (.bool (Tb.mark (T.headD 0))) ∧ W = w' by
    have h1 : (S T)[0]'h0 = T.headD 0 := by
      rw [byteOf_S T 0 (by rw [S_size] at h0; exact h0)]
      cases T with
      | nil => simp [S_size] at h0
      | cons a b => rfl
    rw [h1]
    exact mark_any _ W))
  go_enter Try.func59, Try.ntmps59
  go_upto_region 1 with fail
  refine name_world fun V hV => ?_
  have VB := hide (show Blk V w.heap.size 74 #[.string (S T), .int .i64 wh, .slice ca cn cc] by rw [← hV.out]; exact Blk.new w _ _)
  have HV := hide (show Below w.heap.size w V by rw [← hV.out]; exact below_alloc w _)
  have hc0 : V.cell? ⟨w.heap.size, 0, none⟩ = some (.string (S T)) := VB.out.cell 0
  have hc1 : V.cell? ⟨w.heap.size, 1, none⟩ = some (.int .i64 wh) := VB.out.cell 1
  have hc2 : V.cell? ⟨w.heap.size, 2, none⟩ = some (.slice ca cn cc) := VB.out.cell 2
  have hgV := VB.out.lt
  have C1 := hide (CW.out V HV.out)
  clear hV
  cases wr with
  | false =>
    have HF := hide (show res = false by rw [HR.out]; rfl)
    clear HR HT1 CW CT CM
    go_wp2_with (go_at_call 61; refine (unhide C1).mono ?_; rintro e w1 ⟨rfl, rfl⟩)
    go_ret
    exact ⟨by rw [HF.out]; rfl, HV.out⟩
  | true =>
    by_cases h1 : ((S T).size : Int) < 1
    · have HF := hide (show res = false by rw [HR.out, decide_eq_false (by rw [S_size] at h1; omega)]; rfl)
      clear HR HT1 CW CT CM
      go_wp2_with (go_at_call 61; refine (unhide C1).mono ?_; rintro e w1 ⟨rfl, rfl⟩)
      go_ret
      exact ⟨by rw [HF.out]; rfl, HV.out⟩
    · by_cases h8 : (8 : Int) < ((S T).size : Int)
      · have HF := hide (show res = false by rw [HR.out, decide_eq_false (by rw [S_size] at h8; omega)]; rfl)
        clear HR HT1 CW CT CM
        go_wp2_with (go_at_call 61; refine (unhide C1).mono ?_; rintro e w1 ⟨rfl, rfl⟩)
        go_ret
        exact ⟨by rw [HF.out]; rfl, HV.out⟩
      · obtain ⟨bA, bc, w2, hcv, hrd, hb2⟩ := CT.out V
        have HCV := hide hcv
        have CE := hide (every_small (some bA) (S T).size bc T w2 hrd (by rw [HS.out]; exact ht))
        have B2 := hide hb2
        have H2 := hide (HV.out.trans (hb2.mono HV.out.size))
        have VB2 := VB.out.below hb2 hgV
        have d0 : w2.cell? ⟨w.heap.size, 0, none⟩ = some (.string (S T)) := VB2.cell 0
        have d1 : w2.cell? ⟨w.heap.size, 1, none⟩ = some (.int .i64 wh) := VB2.cell 1
        have HRES := hide (show res = (if T.all Tb.small then decide (0 ≤ wh ∧ wh ≤ 3) else decide (T.length = 1) && Tb.mark (T.headD 0) && decide (wh = 0)) by rw [HR.out, decide_eq_true (by rw [S_size] at h1 h8; omega)]; rfl)
        have CM2 := hide (CM.out w2)
        have HSZ := HS.out
        generalize T.all Tb.small = sm at *
        generalize Tb.mark (T.headD 0) = mk at *
        clear HR HT1 CW CT CM hrd hb2 VB2
        cases sm with
        | true =>
          by_cases h0 : (0 : Int) ≤ wh
          · by_cases h3 : wh ≤ 3
            · have HF := hide (show res = true by rw [HRES.out, if_pos rfl, decide_eq_true ⟨h0, h3⟩])
              clear HRES CM2
              go_wp2_with (first
                | (go_at_call 61; refine (unhide C1).mono ?_; rintro e w1 ⟨rfl, rfl⟩)
                | (go_at_call 46; refine (unhide CE).mono ?_; rintro e w1 ⟨rfl, rfl⟩))
              go_ret
              exact ⟨by rw [HF.out]; rfl, H2.out⟩
            · have HF := hide (show res = false by rw [HRES.out, if_pos rfl, decide_eq_false (by omega)])
              clear HRES CM2
              go_wp2_with (first
                | (go_at_call 61; refine (unhide C1).mono ?_; rintro e w1 ⟨rfl, rfl⟩)
                | (go_at_call 46; refine (unhide CE).mono ?_; rintro e w1 ⟨rfl, rfl⟩))
              go_ret
              exact ⟨by rw [HF.out]; show Ending.returned (.bool (decide (wh ≤ 3))) = _; rw [decide_eq_false (by omega)], H2.out⟩
          · have HF := hide (show res = false by rw [HRES.out, if_pos rfl, decide_eq_false (by omega)])
            clear HRES CM2
            go_wp2_with (first
              | (go_at_call 61; refine (unhide C1).mono ?_; rintro e w1 ⟨rfl, rfl⟩)
              | (go_at_call 46; refine (unhide CE).mono ?_; rintro e w1 ⟨rfl, rfl⟩))
            go_ret
            exact ⟨by rw [HF.out]; rfl, H2.out⟩
        | false =>
          have HRES' := hide (show res = (decide (T.length = 1) && mk && decide (wh = 0)) by rw [HRES.out]; rfl)
          clear HRES
          by_cases hl : ((S T).size : Int) = 1
          · have hle : ((((S T).size : Nat) : Int) == 1) = true := by rw [hl]; rfl
            have hlt : 0 < (S T).size := by omega
            have hli : (0 : Int) < ((S T).size : Int) := by omega
            have CM3 := hide (CM2.out hlt)
            have HRES2 := hide (show res = (mk && decide (wh = 0)) by rw [HRES'.out, decide_eq_true (by rw [S_size] at hl; omega), Bool.true_and])
            clear HRES' CM2
            cases mk with
            | false =>
              have HF := hide (show res = false by rw [HRES2.out]; rfl)
              clear HRES2
              go_wp2_with (first
                | (go_at_call 61; refine (unhide C1).mono ?_; rintro e w1 ⟨rfl, rfl⟩)
                | (go_at_call 66; refine (unhide CM3).mono ?_; rintro e w1 ⟨rfl, rfl⟩)
                | (go_at_call 46; refine (unhide CE).mono ?_; rintro e w1 ⟨rfl, rfl⟩))
              go_ret
              exact ⟨by rw [HF.out]; rfl, H2.out⟩
            | true =>
              have HF := hide (show res = (wh == 0) by rw [HRES2.out, Bool.true_and]; by_cases h : wh = 0 <;> simp [h])
              clear HRES2
              go_wp2_with (first
                | (go_at_call 61; refine (unhide C1).mono ?_; rintro e w1 ⟨rfl, rfl⟩)
                | (go_at_call 66; refine (unhide CM3).mono ?_; rintro e w1 ⟨rfl, rfl⟩)
                | (go_at_call 46; refine (unhide CE).mono ?_; rintro e w1 ⟨rfl, rfl⟩))
              go_ret
              exact ⟨by rw [HF.out]; rfl, H2.out⟩
          · have hle : ((((S T).size : Nat) : Int) == 1) = false := by
              rw [beq_eq_false_iff_ne]
              exact hl
            have HF := hide (show res = false by rw [HRES'.out, decide_eq_false (by rw [S_size] at hl; omega)]; rfl)
            clear HRES' CM2
            go_wp2_with (first
              | (go_at_call 61; refine (unhide C1).mono ?_; rintro e w1 ⟨rfl, rfl⟩)
              | (go_at_call 46; refine (unhide CE).mono ?_; rintro e w1 ⟨rfl, rfl⟩))
            go_ret
            exact ⟨by rw [HF.out]; rfl, H2.out⟩
end Go.Proofs.Ytbcfndhnopmbbaa
