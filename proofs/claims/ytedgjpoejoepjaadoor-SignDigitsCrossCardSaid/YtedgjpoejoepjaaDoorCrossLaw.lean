/-
  SignDigitsCross, walked.
-/
import Derived.Test.YtedgjpoejoepjaaDoorSane
namespace Go.Proofs.YtedgjpoejoepjaaDoor
open Go.RowKit
set_option linter.unusedVariables false
set_option linter.unusedSimpArgs false

namespace Sg
theorem lack_mono (a b : List UInt8) : ∀ n, (∀ i, i < n → digit b i ≤ digit a i) → lack a n ≤ lack b n
  | 0, _ => Nat.le_refl _
  | n + 1, h => by
    have := lack_mono a b n (fun i hi => h i (by omega))
    have h2 := h n (by omega)
    have h3 := digit_le a n
    unfold lack
    omega
theorem lack_strict (a b : List UInt8) : ∀ n, (∀ i, i < n → digit b i ≤ digit a i) → ∀ j, j < n → digit b j < digit a j → lack a n < lack b n
  | 0, _, j, hj, _ => by omega
  | n + 1, h, j, hj, hd => by
    have h2 := h n (by omega)
    have h3 := digit_le a n
    have h4 := digit_le b n
    unfold lack
    rcases Nat.lt_or_ge j n with hjn | hjn
    · have := lack_strict a b n (fun i hi => h i (by omega)) j hjn hd
      omega
    · obtain rfl : j = n := by omega
      have := lack_mono a b j (fun i hi => h i (by omega))
      omega
theorem lack_digs (d : List UInt8) : lack d 64 = dig d 64 * 64 + dig d 65 * 16 + dig d 66 * 4 + dig d 67 := by
  have hl := lack_le d 64
  unfold dig
  simp only [show ¬ (64 < 64) by omega, show ¬ (65 < 64) by omega, show ¬ (66 < 64) by omega, show ¬ (67 < 64) by omega, if_false]
  show lack d 64 = lack d 64 / 64 % 4 * 64 + lack d 64 / 16 % 4 * 16 + lack d 64 / 4 % 4 * 4 + lack d 64 / 1 % 4
  omega
theorem digits_inj (a b : List UInt8) (ha : a.length = 16) (hb : b.length = 16) (h : ∀ i, i < 64 → digit a i = digit b i) : a = b := by
  apply List.ext_getElem (by omega)
  intro q hq hq'
  have e : ∀ (d : List UInt8) (hd : q < d.length) (r : Nat), r < 4 → digit d (4 * q + r) = d[q].toNat / 4 ^ (3 - r) % 4 := by
    intro d hd r hr
    unfold digit
    rw [show (4 * q + r) / 4 = q by omega, show (4 * q + r) % 4 = r by omega]
    simp [List.getD, hd]
  have h0 := h (4 * q + 0) (by omega)
  have h1 := h (4 * q + 1) (by omega)
  have h2 := h (4 * q + 2) (by omega)
  have h3 := h (4 * q + 3) (by omega)
  rw [e a hq 0 (by omega), e b hq' 0 (by omega)] at h0
  rw [e a hq 1 (by omega), e b hq' 1 (by omega)] at h1
  rw [e a hq 2 (by omega), e b hq' 2 (by omega)] at h2
  rw [e a hq 3 (by omega), e b hq' 3 (by omega)] at h3
  have l1 := a[q].toNat_lt
  have l2 := b[q].toNat_lt
  apply UInt8.toNat_inj.1
  generalize a[q].toNat = x at *
  generalize b[q].toNat = y at *
  change x / 64 % 4 = y / 64 % 4 at h0
  change x / 16 % 4 = y / 16 % 4 at h1
  change x / 4 % 4 = y / 4 % 4 at h2
  change x / 1 % 4 = y / 1 % 4 at h3
  omega
/-- P3.6, one half: some digit is less -/
theorem cross (a b : List UInt8) (ha : a.length = 16) (hb : b.length = 16) (hne : a ≠ b) : ∃ i, i < 68 ∧ dig a i < dig b i := by
  apply Classical.byContradiction
  intro hno
  have hall : ∀ i, i < 68 → dig b i ≤ dig a i := fun i hi => by
    rcases Nat.lt_or_ge (dig a i) (dig b i) with h | h
    · exact absurd ⟨i, hi, h⟩ hno
    · exact h
  have hb64 : ∀ i, i < 64 → digit b i ≤ digit a i := fun i hi => by
    have := hall i (by omega)
    unfold dig at this
    rwa [if_pos hi, if_pos hi] at this
  have hst : ∃ j, j < 64 ∧ digit b j < digit a j := by
    apply Classical.byContradiction
    intro h
    apply hne
    apply digits_inj a b ha hb
    intro i hi
    have h1 := hb64 i hi
    rcases Nat.lt_or_ge (digit b i) (digit a i) with h2 | h2
    · exact absurd ⟨i, hi, h2⟩ h
    · omega
  obtain ⟨j, hj, hd⟩ := hst
  have hlt := lack_strict a b 64 hb64 j hj hd
  rw [lack_digs a, lack_digs b] at hlt
  have h4 := hall 64 (by omega)
  have h5 := hall 65 (by omega)
  have h6 := hall 66 (by omega)
  have h7 := hall 67 (by omega)
  omega
def lessB (a b : List UInt8) : Nat → Bool
  | 0 => false
  | n + 1 => lessB a b n || decide ((dig a n : Int) < (dig b n : Int))
theorem lessB_of (a b : List UInt8) : ∀ n i, i < n → dig a i < dig b i → lessB a b n = true
  | 0, i, hi, _ => by omega
  | n + 1, i, hi, hd => by
    unfold lessB
    rcases Nat.lt_or_ge i n with h | h
    · rw [lessB_of a b n i h hd]; rfl
    · obtain rfl : i = n := by omega
      rw [decide_eq_true (by omega)]; simp
theorem lessB_all (a b : List UInt8) (ha : a.length = 16) (hb : b.length = 16) (hne : a ≠ b) : lessB a b 68 = true := by
  obtain ⟨i, hi, hd⟩ := cross a b ha hb hne
  exact lessB_of a b 68 i hi hd
end Sg
theorem exec_eql (d e : List UInt8) (hd : d.length = 16) (he : e.length = 16) (o : Oper) (a : Act) (x y : Operand) (r : TypeId) (ho : o.op = .binOp .eql 23 x y r) (hx : a.eval x = .agg (BV d).toArray) (hy : a.eval y = .agg (BV e).toArray) (w : World) :
    (execOp a.eval o).run Tryd.prog w = .ok (.value (.bool (d == e))) w := by
  have hgd := guard16
  have hsame : (Op.equalIn 10000 23 (.agg (BV d).toArray) (.agg (BV e).toArray)).run Tryd.prog w = .ok (d == e) w := run_same16 d e hd he w
  generalize (BV d).toArray = dd at *
  generalize (BV e).toArray = ee at *
  unfold execOp
  simp only [ho, hx, hy]
  simp only [eqGuard, Go.binOp, Sem.run_bind]
  have h1 : (if (!true) = true then (pure () : Sem Unit)
              else do
                let __do_lift ← program
                let __do_lift_1 ← program
                if (!__do_lift.eqGuardType __do_lift_1.depth 23) = true then pure ()
                  else do
                    let __do_lift ← Op.eqGuardIn Op.maxDepth 23 (Value.agg dd) (Value.agg ee)
                    if __do_lift = true then
                        unsupported
                          (Unsupported.noEntry
                            "binop/eql: two nil values of an interface type with methods, in a part of a struct or an array")
                      else pure ()).run Tryd.prog w = .ok () w := by
    rw [if_neg (by decide)]
    simp only [Sem.run_bind, run_program, Result.andThen_ok, hgd]
    rfl
  rw [h1]
  simp only [Result.andThen_ok]
  have h2 : (Op.equal 23 (Value.agg dd) (Value.agg ee)).run Tryd.prog w = .ok (d == e) w := hsame
  rw [h2]
  rfl
theorem step_quiet_eql {ops : Array Oper} {o : Oper} {a : Act} {C : World → Prop} {K : Act → Prop} {E : Prop} (hw : Region.wanted o (yielded ops a.tmps) = true) (x y : Operand) (r : TypeId) (ho : o.op = .binOp .eql 23 x y r)
    (d e : List UInt8) (bq : Bool) (hq : (d == e) = bq) (hx : a.eval x = .agg (BV d).toArray) (hy : a.eval y = .agg (BV e).toArray) (hd : d.length = 16) (he : e.length = 16) (h : K (a.put o.dst (.bool bq))) :
    if Region.wanted o (yielded ops a.tmps) = true then o.quiet Tryd.prog a C K else E := by
  rw [if_pos hw]
  refine ⟨_, fun w hC => ?_, h⟩
  unfold Oper.quietAt
  rw [exec_eql d e hd he o a x y r ho hx hy w, hq]
  exact ⟨rfl, rfl⟩
theorem wp_load_dig (d : Option Tmp) (x : Operand) (ty : TypeId) (ps : String) (af : Array Edge) (gd : Option (Nat × Bool)) (a : Act) (w : World) (K : Act → World → Prop) (Q : Exit → Act → World → Prop)
    (h1 : a.eval x = .pointer (some ⟨ptrBlock (a.eval x), 0, none⟩)) (h2 : rowOk w (ptrBlock (a.eval x)) 16) :
    Oper.wp Tryd.prog { dst := d, op := .load 23 x, type := ty, pos := ps, after := af, guard := gd } a w K Q = K (a.put d (.agg (rowAt w (ptrBlock (a.eval x))))) w := by
  have := load_dig w _ h2
  rw [← h1] at this
  unfold Oper.wp execOp
  simp only [Sem.run_bind, this, Result.andThen_ok]
  rfl
attribute [local go_sem ↓] wp_load_dig
attribute [local go_sem] ptrBlock_is
set_option maxHeartbeats 4000000 in
set_option maxRecDepth 100000 in
theorem cross_walk (a b : List UInt8) (w : World) (ha : a.length = 16) (hb : b.length = 16) (hK : KLaid w) :
    Calls Tryd.prog 7 #[.agg (BV a).toArray, .agg (BV b).toArray] w fun e w' => e = .returned (.bool true) ∧ Below w.heap.size w w' := by
  have CSA := hide (fun (W : World) hK => sanity_any W hK)
  have CA := hide (fun (W : World) => digits_any a W ha)
  have CB := hide (fun (W : World) => digits_any b W hb)
  have HK := hide hK
  have HA := hide ha
  have HB := hide hb
  clear hK ha hb
  go_enter Tryd.func7, Tryd.ntmps7
  go_upto_region 1 with fail
  refine name_world fun V hV => ?_
  have D2 := hide (show Dig V w.heap.size a by rw [← hV.out]; exact (Dig.new w a HA.out).alloc _)
  have D3 := hide (show Dig V (w.heap.size + 1) b by
    rw [← hV.out]
    have := Dig.new (w.alloc (.cells (BV a).toArray 23)) b HB.out
    rwa [show (w.alloc (.cells (BV a).toArray 23)).heap.size = w.heap.size + 1 by simp] at this)
  have HV := hide (show Below w.heap.size w V by rw [← hV.out]; exact ((Below.refl _ _).alloc (Nat.le_refl _) _).alloc (by simp) _)
  have hl3 := D3.out.2.lt
  clear hV
  go_upto_region 2 with (go_at_call 9; refine (unhide CSA V (HK.out.below HV.out (Nat.le_refl _))).mono ?_; rintro e x1 ⟨rfl, hb1⟩; have X1 := hide hb1; clear hb1)
  have E2 := hide (D2.out.below X1.out (by omega))
  have E3 := hide (D3.out.below X1.out hl3)
  have hx1 := X1.out.size
  go_upto_region 3 with (first
    | (with_reducible refine wpList_load_dig rfl (.tmp 2) rfl w.heap.size rfl a E2.out ?_)
    | (go_at_call 10; refine (CA.out x1).mono ?_; rintro e x2 ⟨rfl, hga, hb2⟩; have X2 := hide hb2; have GA := hide hga; clear hb2 hga))
  have F2 := hide (E2.out.below X2.out (by omega))
  have F3 := hide (E3.out.below X2.out (by omega))
  have hx2 := X2.out.size
  have hga := GA.out.lt
  go_upto_region 4 with (first
    | (with_reducible refine wpList_load_dig rfl (.tmp 3) rfl (w.heap.size + 1) rfl b F3.out ?_)
    | (go_at_call 10; refine (CB.out x2).mono ?_; rintro e x3 ⟨rfl, hgb, hb3⟩; have X3 := hide hb3; have GB := hide hgb; clear hb3 hgb))
  have G2 := hide (F2.out.below X3.out (by omega))
  have G3 := hide (F3.out.below X3.out (by omega))
  have GA3 := hide (GA.out.below X3.out hga)
  have hx3 := X3.out.size
  have HX := hide (HV.out.trans ((X1.out.trans ((X2.out.trans (X3.out.mono hx2)).mono hx1)).mono HV.out.size))
  obtain ⟨ga, hgae⟩ : ∃ ga, x1.heap.size + 1 = ga := ⟨_, rfl⟩
  obtain ⟨gb, hgbe⟩ : ∃ gb, x2.heap.size + 1 = gb := ⟨_, rfl⟩
  have KA := hide (show Blk x3 ga 43 (IV (Sg.digits a)).toArray from hgae ▸ GA3.out)
  have KB := hide (show Blk x3 gb 43 (IV (Sg.digits b)).toArray from hgbe ▸ GB.out)
  rw [hgae, hgbe]
  clear hgae hgbe GA GA3 GB D2 D3 E2 E3 F2 F3 CA CB CSA
  go_upto_region 9 with fail
  go_loopw [8, 9, 10] (fun s8 s9 s10 wr => ∃ i : Nat, i ≤ 68 ∧ s10 = .int .i64 (i : Int) ∧ s8 = .bool (Sg.lessB a b i) ∧ s9 = .bool (Sg.lessB b a i) ∧ Blk wr ga 43 (IV (Sg.digits a)).toArray ∧ Blk wr gb 43 (IV (Sg.digits b)).toArray ∧ Dig wr w.heap.size a ∧ Dig wr (w.heap.size + 1) b ∧ Below w.heap.size w wr) (fun _ _ s10 _ => 68 - (intOf s10).toNat)
  case atStart => exact ⟨0, by omega, rfl, rfl, rfl, KA.out, KB.out, G2.out, G3.out, HX.out⟩
  case round =>
    obtain ⟨i, hi, rfl, rfl, rfl, hKA, hKB, hG2, hG3, hbel⟩ := hrel
    obtain ⟨wd, rfl⟩ : ∃ wd, wd = wr := ⟨wr, rfl⟩
    by_cases hlt : i < 68
    · have hca : wd.cell? ⟨ga, i, none⟩ = some (.int .i64 ((Sg.dig a i : Nat) : Int)) := by rw [hKA.cell]; exact IV_get _ _ _ (Sg.digits_get a i hlt)
      have hcb : wd.cell? ⟨gb, i, none⟩ = some (.int .i64 ((Sg.dig b i : Nat) : Int)) := by rw [hKB.cell]; exact IV_get _ _ _ (Sg.digits_get b i hlt)
      have hs1 : Sg.lessB a b (i + 1) = (Sg.lessB a b i || decide ((Sg.dig a i : Int) < (Sg.dig b i : Int))) := rfl
      have hs2 : Sg.lessB b a (i + 1) = (Sg.lessB b a i || decide ((Sg.dig b i : Int) < (Sg.dig a i : Int))) := rfl
      have htest : (i : Int) < 68 := by omega
      have hi0 : (0 : Int) ≤ (i : Int) := by omega
      have HS1 := hide hs1
      have HS2 := hide hs2
      have HKA := hide hKA
      have HKB := hide hKB
      have HG2 := hide hG2
      have HG3 := hide hG3
      have HBe := hide hbel
      clear hs1 hs2 hKA hKB hG2 hG3 hbel KA KB G2 G3 HX
      generalize Sg.lessB a b i = p at *
      generalize Sg.lessB b a i = q at *
      generalize ((Sg.dig a i : Nat) : Int) = da at *
      generalize ((Sg.dig b i : Nat) : Int) = db at *
      cases p <;> cases q
      all_goals
        go_upto_region 11 with fail
        go_quiet (fail)
        have hca2 : (wd.drewN nq).cell? ⟨ga, i, none⟩ = some (.int .i64 da) := hca
        have hcb2 : (wd.drewN nq).cell? ⟨gb, i, none⟩ = some (.int .i64 db) := hcb
        have JA := hide (show Blk (wd.drewN nq) ga 43 (IV (Sg.digits a)).toArray from HKA.out)
        have JB := hide (show Blk (wd.drewN nq) gb 43 (IV (Sg.digits b)).toArray from HKB.out)
        have J2 := hide (show Dig (wd.drewN nq) w.heap.size a from HG2.out)
        have J3 := hide (show Dig (wd.drewN nq) (w.heap.size + 1) b from HG3.out)
        have JE := hide (below_drewN HBe.out nq)
        clear hca hcb HKA HKB HG2 HG3 HBe
        generalize wd.drewN nq = we at *
        go_upto_region 12 with fail
        go_quiet (fail)
        go_wp2
        exact ⟨⟨i + 1, by omega, by go_num, by rw [HS1.out]; simp, by rw [HS2.out]; simp, JA.out, JB.out, J2.out, J3.out, below_drewN JE.out _⟩, by simp [intOf]; omega⟩
    · obtain rfl : i = 68 := by omega
      have hall : a ≠ b → Sg.lessB a b 68 = true ∧ Sg.lessB b a 68 = true := fun h => ⟨Sg.lessB_all a b HA.out HB.out h, Sg.lessB_all b a HB.out HA.out (Ne.symm h)⟩
      generalize Sg.lessB a b 68 = p at *
      generalize Sg.lessB b a 68 = q at *
      have hl2 := hG2.2.lt
      have hl3 := hG3.2.lt
      have HG2 := hide hG2
      have HG3 := hide hG3
      have HBe := hide hbel
      have HALL := hide hall
      clear hKA hKB hG2 hG3 hbel KA KB G2 G3 HX hall
      have HD2 := hide (fun (W' : World) (hb : Below wd.heap.size wd W') => HG2.out.below hb hl2)
      have HD3 := hide (fun (W' : World) (hb : Below wd.heap.size wd W') => HG3.out.below hb hl3)
      obtain ⟨r1, r2⟩ : rowOk wd w.heap.size 16 ∧ rowAt wd w.heap.size = (BV a).toArray := ⟨HG2.out.ok, HG2.out.row⟩
      obtain ⟨r3, r4⟩ : rowOk wd (w.heap.size + 1) 16 ∧ rowAt wd (w.heap.size + 1) = (BV b).toArray := ⟨HG3.out.ok, HG3.out.row⟩
      have hgd := guard16
      have hsame : ∀ W, (Op.equalIn 10000 23 (.agg (BV a).toArray) (.agg (BV b).toArray)).run Tryd.prog W = .ok (a == b) W := fun W => run_same16 a b HA.out HB.out W
      by_cases hab : a = b
      · have hq : (a == b) = true := by rw [hab]; simp
        rw [hq] at hsame
        clear hab hq
        go_wp2
        go_ret
        exact ⟨rfl, HBe.out⟩
      · have hq : (a == b) = false := by simp [hab]
        rw [hq] at hsame
        obtain ⟨hp, hq'⟩ := HALL.out hab
        subst hp
        subst hq'
        clear hab hq HALL
        go_wp2
        go_ret
        exact ⟨rfl, HBe.out⟩
end Go.Proofs.YtedgjpoejoepjaaDoor
