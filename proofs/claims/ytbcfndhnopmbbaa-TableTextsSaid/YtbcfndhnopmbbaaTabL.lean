/-
  Tables: fitting and what it returns, by contract.
-/
import Derived.Test.YtbcfndhnopmbbaaTabK
namespace Go.Proofs.Ytbcfndhnopmbbaa
open Go.RowKit
set_option linter.unusedVariables false
set_option linter.unusedSimpArgs false
/-- what fitting returns -/
def fitF (g0 g1 g2 : Nat) : Value := .func (.func 68) #[] #[.pointer (some ⟨g0, 0, none⟩), .pointer (some ⟨g1, 0, none⟩), .pointer (some ⟨g2, 0, none⟩)]
/-- what it holds -/
structure FitAt (w : World) (B g0 g1 g2 : Nat) (A : Option Addr) (n c p : Nat) (b : Bool) : Prop where
  l0 : Blk w g0 37 #[.slice A n c]
  l1 : Blk w g1 3 #[.int .i64 (p : Int)]
  l2 : Blk w g2 4 #[.bool b]
  b0 : B ≤ g0
  b1 : B ≤ g1
  b2 : B ≤ g2
theorem FitAt.below {w w' : World} {B B' g0 g1 g2 : Nat} {A : Option Addr} {n c p : Nat} {b : Bool} (h : FitAt w B g0 g1 g2 A n c p b) (hb : Below B' w w') (h0 : g0 < B') (h1 : g1 < B') (h2 : g2 < B') : FitAt w' B g0 g1 g2 A n c p b :=
  ⟨h.l0.below hb h0, h.l1.below hb h1, h.l2.below hb h2, h.b0, h.b1, h.b2⟩
set_option maxHeartbeats 2000000 in
set_option maxRecDepth 100000 in
theorem fitting_any (A : Option Addr) (c : Nat) (l : Tb.Text) (p : Nat) (w : World) (hr : TextAt w w.heap.size A l) (hp : p < l.length) :
    Calls Try.prog 63 #[.slice A l.length c, .int .i64 (p : Int)] w fun e w' => ∃ g0 g1 g2, e = .returned (fitF g0 g1 g2) ∧ FitAt w' w.heap.size g0 g1 g2 A l.length c p (!Tb.inside l p) ∧ Below w.heap.size w w' := by
  have CI := hide (fun (W : World) (hb : Below w.heap.size w W) => inside_any A c l p W (hr.same hb) (by omega))
  generalize Tb.inside l p = ins at *
  generalize l.length = n at *
  clear hr hp
  go_enter Try.func63, Try.ntmps63
  go_upto_region 1 with fail
  refine name_world fun V hV => ?_
  have V0 := hide (show Blk V w.heap.size 37 #[.slice A n c] by rw [← hV.out]; exact (Blk.new w _ _).alloc _)
  have V1 := hide (show Blk V (w.heap.size + 1) 3 #[.int .i64 (p : Int)] by
    rw [← hV.out]
    have := Blk.new (w.alloc (.cells #[.slice A n c] 37)) 3 #[.int .i64 (p : Int)]
    rwa [show (w.alloc (.cells #[.slice A n c] 37)).heap.size = w.heap.size + 1 by simp] at this)
  have HV := hide (show Below w.heap.size w V by rw [← hV.out]; exact ((Below.refl _ _).alloc (Nat.le_refl _) _).alloc (by simp) _)
  have hgV := V1.out.lt
  have c0 : V.cell? ⟨w.heap.size, 0, none⟩ = some (.slice A n c) := V0.out.cell 0
  have c1 : V.cell? ⟨w.heap.size + 1, 0, none⟩ = some (.int .i64 (p : Int)) := V1.out.cell 0
  have C := hide (CI.out V HV.out)
  clear hV
  go_upto_region 2 with (go_at_call 67; refine (unhide C).mono ?_; rintro e w1 ⟨rfl, hb1⟩; have B1 := hide hb1; clear hb1)
  refine name_world fun X hX => ?_
  have X2 := hide (show Blk X w1.heap.size 4 #[.bool (!ins)] by rw [← hX.out]; exact Blk.new w1 _ _)
  have HX := hide (show Below w1.heap.size w1 X by rw [← hX.out]; exact below_alloc w1 _)
  have X0 := hide ((V0.out.below B1.out (by omega)).below HX.out (by have := B1.out.size; omega))
  have X1 := hide ((V1.out.below B1.out hgV).below HX.out (by have := B1.out.size; omega))
  have HW := hide ((HV.out.trans (B1.out.mono HV.out.size)).trans (HX.out.mono (by have := B1.out.size; omega)))
  have hs1 := B1.out.size
  clear hX c0 c1
  go_wp2
  go_ret
  exact ⟨w.heap.size, w.heap.size + 1, w1.heap.size, rfl, ⟨X0.out, X1.out, X2.out, by omega, by omega, by omega⟩, HW.out⟩
theorem Tb.stands_le {s : List UInt8} {l : Tb.Text} {p : Nat} (h : Tb.stands s l p = true) : p + s.length ≤ l.length := by
  unfold Tb.stands at h
  rw [Bool.and_eq_true] at h
  exact of_decide_eq_true h.1
set_option maxHeartbeats 4000000 in
set_option maxRecDepth 100000 in
theorem fit_any (g0 g1 g2 : Nat) (A : Option Addr) (c : Nat) (l : Tb.Text) (p : Nat) (r : Tb.Rl) (w : World) (hr : TextAt w w.heap.size A l) (hp : p < l.length) (hc : l.length ≤ c) (hs1 : 1 ≤ r.text.length) (hs2 : r.text.length ≤ 1048576)
    (B : Nat) (hF : FitAt w B g0 g1 g2 A l.length c p (!Tb.inside l p)) :
    Calls Try.prog 68 #[.agg #[.string (S r.text), .int .i64 r.wh, .slice r.cells.ad r.cells.l.length r.cells.c], .pointer (some ⟨g0, 0, none⟩), .pointer (some ⟨g1, 0, none⟩), .pointer (some ⟨g2, 0, none⟩)] w
      fun e w' => e = .returned (.bool (Tb.fits r l p)) ∧ Below w.heap.size w w' := by
  have HF := hide (show Tb.fits r l p = (Tb.stands r.text l p && Tb.whereOk r.wh (Tb.inside l p) (Tb.inside l (p + r.text.length))) from rfl)
  have HWO := hide (fun (b e : Bool) => (show Tb.whereOk r.wh b e = if r.wh = 1 then !b && !e else if r.wh = 2 then !b && e else if r.wh = 3 then b else true from rfl))
  have CS := hide (fun (W : World) (hb : Below w.heap.size w W) => stands_any A c l r.text p W (hr.same hb) hp hc hs1 hs2)
  have CI := hide (fun (hle : p + r.text.length ≤ l.length) (W : World) (hb : Below w.heap.size w W) => inside_any A c l (p + r.text.length) W (hr.same hb) hle)
  have HLE := hide (fun (h : Tb.stands r.text l p = true) => Tb.stands_le h)
  have HSZ := S_size r.text
  have hbig := hr.2
  obtain ⟨T, wh, ⟨cl, ca, cc⟩⟩ := r
  simp only [] at *
  generalize Tb.fits _ l p = res at *
  generalize Tb.stands T l p = st at *
  generalize Tb.inside l p = ins at *
  generalize Tb.inside l (p + T.length) = ine at *
  generalize S T = sv at *
  generalize T.length = m at *
  generalize l.length = n at *
  generalize cl.length = cn at *
  have hg0 := hF.l0.lt
  have hg1 := hF.l1.lt
  have hg2 := hF.l2.lt
  have FA := hide hF
  clear hr hF
  go_enter Try.func68, Try.ntmps68
  go_upto_region 1 with fail
  refine name_world fun X hX => ?_
  have XB := hide (show Blk X w.heap.size 74 #[.string sv, .int .i64 wh, .slice ca cn cc] by rw [← hX.out]; exact Blk.new w _ _)
  have HX := hide (show Below w.heap.size w X by rw [← hX.out]; exact below_alloc w _)
  have XF := hide (FA.out.below HX.out hg0 hg1 hg2)
  have hgX := XB.out.lt
  have e0 : X.cell? ⟨w.heap.size, 0, none⟩ = some (.string sv) := XB.out.cell 0
  have e1 : X.cell? ⟨w.heap.size, 1, none⟩ = some (.int .i64 wh) := XB.out.cell 1
  have a0 : X.cell? ⟨g0, 0, none⟩ = some (.slice A n c) := XF.out.l0.cell 0
  have a1 : X.cell? ⟨g1, 0, none⟩ = some (.int .i64 (p : Int)) := XF.out.l1.cell 0
  have C := hide (CS.out X HX.out)
  clear hX FA CS
  cases st with
  | false =>
    have HR := hide (show res = false by rw [HF.out]; rfl)
    clear HF HWO CI HLE
    go_wp2_with (go_at_call 69; refine (unhide C).mono ?_; rintro e w1 ⟨rfl, hb1⟩; have B1 := hide (HX.out.trans (hb1.mono HX.out.size)); clear hb1)
    go_ret
    exact ⟨by rw [HR.out]; rfl, B1.out⟩
  | true =>
    have hle := HLE.out rfl
    have HR := hide (show res = if wh = 1 then !ins && !ine else if wh = 2 then !ins && ine else if wh = 3 then ins else true by rw [HF.out, HWO.out]; rfl)
    have CI2 := hide (CI.out hle)
    have hpm : ((p + m : Nat) : Int) = (p : Int) + (m : Int) := by omega
    rw [hpm] at CI2
    have hni : (n : Int) ≤ 1048576 := by omega
    have hpi : (p : Int) + (m : Int) ≤ 1048576 := by omega
    clear HF HWO CI HLE hpm
    go_upto_region 3 with (go_at_call 69; refine (unhide C).mono ?_; rintro e w1 ⟨rfl, hb1⟩; have B1 := hide hb1; clear hb1)
    have YB := XB.out.below B1.out hgX
    have hb1s := B1.out.size
    have YF := XF.out.below B1.out (by omega) (by omega) (by omega)
    have HY := hide (HX.out.trans (B1.out.mono HX.out.size))
    clear e0 e1 a0 a1
    have e0 : w1.cell? ⟨w.heap.size, 0, none⟩ = some (.string sv) := YB.cell 0
    have a0 : w1.cell? ⟨g0, 0, none⟩ = some (.slice A n c) := YF.l0.cell 0
    have a1 : w1.cell? ⟨g1, 0, none⟩ = some (.int .i64 (p : Int)) := YF.l1.cell 0
    have C2 := hide (CI2.out w1 HY.out)
    have YBH := hide YB
    have YFH := hide YF
    clear YB YF CI2
    go_upto_region 4 with (go_at_call 67; refine (unhide C2).mono ?_; rintro e w2 ⟨rfl, hb2⟩; have B2 := hide hb2; clear hb2)
    have ZB := YBH.out.below B2.out (by omega)
    have ZF := YFH.out.below B2.out (by omega) (by omega) (by omega)
    have HZ := hide (HY.out.trans (B2.out.mono HY.out.size))
    clear e0 a0 a1
    have e1 : w2.cell? ⟨w.heap.size, 1, none⟩ = some (.int .i64 wh) := ZB.cell 1
    have a2 : w2.cell? ⟨g2, 0, none⟩ = some (.bool (!ins)) := ZF.l2.cell 0
    clear ZB ZF YBH YFH
    by_cases h1 : wh = 1
    · subst h1
      cases ins <;> cases ine <;>
      · go_wp2
        go_ret
        exact ⟨by rw [HR.out]; rfl, HZ.out⟩
    · have n1 : (wh == 1) = false := by rw [beq_eq_false_iff_ne]; exact h1
      by_cases h2 : wh = 2
      · subst h2
        cases ins <;> cases ine <;>
        · go_wp2
          go_ret
          exact ⟨by rw [HR.out]; rfl, HZ.out⟩
      · have n2 : (wh == 2) = false := by rw [beq_eq_false_iff_ne]; exact h2
        by_cases h3 : wh = 3
        · subst h3
          cases ins <;>
          · go_wp2
            go_ret
            exact ⟨by rw [HR.out]; rfl, HZ.out⟩
        · have n3 : (wh == 3) = false := by rw [beq_eq_false_iff_ne]; exact h3
          have HR2 := hide (show res = true by rw [HR.out, if_neg h1, if_neg h2, if_neg h3])
          clear HR
          go_wp2
          go_ret
          exact ⟨by rw [HR2.out]; rfl, HZ.out⟩
end Go.Proofs.Ytbcfndhnopmbbaa
