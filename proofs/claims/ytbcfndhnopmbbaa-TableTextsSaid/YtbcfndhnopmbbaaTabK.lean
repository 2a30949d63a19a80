/-
  Tables: stands, by contract. (Written by tools/gen_tabk.py.)
-/
import Derived.Test.YtbcfndhnopmbbaaTabJ
namespace Go.Proofs.Ytbcfndhnopmbbaa
open Go.RowKit
set_option linter.unusedVariables false
set_option linter.unusedSimpArgs false
theorem run_index_S (s : List UInt8) (i : Nat) (h : i < s.length) (W : World) : (Instr.index 9 (.string (S s)) (.int .i64 (i : Int))).run Try.prog W = .ok (.int .u8 ((s.getD i 0).toNat : Int)) W := by
  have h' : (i : Int).toNat < (S s).size := by rw [S_size]; simpa using h
  have e : (S s)[(i : Int).toNat]'h' = s.getD i 0 := by
    rw [byteOf_S s _ (by simpa using h) h']
    simp [List.getD, h]
  rw [run_index_string W 9 (S s) .i64 (i : Int) Try.underlying9, dif_pos ⟨by omega, by rw [S_size]; omega⟩]
  exact congrArg (fun c : UInt8 => Result.ok (Value.int .u8 (c.toNat : Int)) W) e
theorem stands_take (s : List UInt8) (l : Tb.Text) (p i : Nat) : (List.range (i + 1)).all (Tb.standsAt s l p) = ((List.range i).all (Tb.standsAt s l p) && Tb.standsAt s l p i) := by
  rw [List.range_succ, List.all_append]
  simp
theorem u8_ne (a b : UInt8) : (((a.toNat : Nat) : Int) != ((b.toNat : Nat) : Int)) = !decide (a = b) := by
  by_cases h : a = b
  · subst h; simp
  · rw [decide_eq_false h]
    simp only [Bool.not_false, bne_iff_ne, ne_eq]
    intro h2
    exact h (UInt8.toNat_inj.1 (by omega))
theorem int_ne (a b : Int) : (a != b) = !decide (a = b) := by
  by_cases h : a = b <;> simp [h]
set_option maxHeartbeats 8000000 in
set_option maxRecDepth 100000 in
theorem stands_any (A : Option Addr) (c : Nat) (l : Tb.Text) (s : List UInt8) (p : Nat) (w : World) (hr : TextAt w w.heap.size A l) (hp : p < l.length) (hc : l.length ≤ c) (hs1 : 1 ≤ s.length) (hs2 : s.length ≤ 1048576) :
    Calls Try.prog 69 #[.string (S s), .slice A l.length c, .int .i64 (p : Int)] w fun e w' => e = .returned (.bool (Tb.stands s l p)) ∧ Below w.heap.size w w' := by
  have HI := hide (show Tb.stands s l p = (decide (p + s.length ≤ l.length) && (List.range s.length).all (Tb.standsAt s l p)) from rfl)
  have hbig := hr.2
  have HW := hide (Below.refl w.heap.size w)
  have HR := hide hr
  have HSZ := hide (S_size s)
  obtain ⟨ad, rfl, hadb, hcl, _⟩ := reads_sym' hr p hp
  clear hr
  generalize hn : l.length = n at *
  obtain ⟨m, hm⟩ : ∃ m, m = s.length := ⟨_, rfl⟩
  have HN := hide hn
  have HM := hide hm
  rw [← hm] at HI hs1 hs2
  clear hn
  generalize Tb.stands s l p = res at *
  have hw1 : wrap64 ((n : Int) - (p : Int)) = (n : Int) - (p : Int) := by unfold wrap64; omega
  by_cases hlong : (n : Int) - (p : Int) < (m : Int)
  · have HF := hide (show res = false by rw [HI.out, decide_eq_false (by omega)]; rfl)
    have hsz : ((S s).size : Int) = (m : Int) := by rw [HSZ.out, ← hm]
    clear hm
    clear hcl HI
    generalize S s = sv at *
    go_enter Try.func69, Try.ntmps69
    go_wp2
    go_ret
    exact ⟨by rw [HF.out]; rfl, HW.out⟩
  · have HI2 := hide (show res = (List.range m).all (Tb.standsAt s l p) by rw [HI.out, decide_eq_true (by omega), Bool.true_and])
    have hsz : (S s).size = m := by rw [HSZ.out, ← hm]
    have hpm : p + m ≤ n := by omega
    have hw2 : wrap64 ((p : Int) + (m : Int)) = (p : Int) + (m : Int) := by unfold wrap64; omega
    have hcp : ¬ c = p := by omega
    have hlo1 : (0 : Int) ≤ (p : Int) := by omega
    have hlo2 : (p : Int) ≤ (p : Int) + (m : Int) := by omega
    have hlo3 : (p : Int) + (m : Int) ≤ (c : Int) := by omega
    clear hm HI hlong
    have HSX := hide (fun (i : Nat) (hi : i < m) (W : World) => run_index_S s i (by have := HM.out; omega) W)
    generalize hsv : S s = sv at *
    have HSV := hide hsv
    clear hsv
    go_enter Try.func69, Try.ntmps69
    go_wp2
    rw [Nat.add_sub_cancel_left]
    go_loopw [24] (fun q wr => ∃ i : Nat, i ≤ m ∧ q = .int .i64 (i : Int) ∧ Hid ((List.range i).all (Tb.standsAt s l p) = true) ∧ Below w.heap.size w wr) (fun q _ => m - (intOf q).toNat)
    case atStart => exact ⟨0, by omega, rfl, rfl, HW.out⟩
    case round =>
      obtain ⟨i, hi, rfl, HT, hbel⟩ := hrel
      obtain ⟨wd, rfl⟩ : ∃ wd, wd = wr := ⟨wr, rfl⟩
      have HB := hide hbel
      by_cases hlt : i < m
      · obtain ⟨ad', he, _, hd0, hd1⟩ := reads_sym HR.out (p + i) (by rw [HN.out]; omega)
        injection he with he
        subst he
        have HEC := hide (show ∀ (j : Nat) (v : Value), ([.int .i64 (Tb.at_ l (p + i)).1, .int .u8 ((Tb.at_ l (p + i)).2.toNat : Int)] : List Value)[j]? = some v → wd.cell? (((ad.add (p * 2)).add (i * 2)).add j) = some v from fun j v hv => by
          rw [add_of_add ad (p * 2) (i * 2), show p * 2 + i * 2 = (p + i) * 2 by omega]
          exact sym_cells (Tb.at_ l (p + i)) wd ad (p + i) (by rw [HB.out.cell (by rw [block_of_add]; exact hadb)]; exact hd0) (by rw [HB.out.cell (by rw [block_of_add]; exact hadb)]; exact hd1) j v hv)
        have hi0 : (0 : Int) ≤ (i : Int) := by omega
        have hi2 : (i : Int) < (m : Int) := by omega
        have hix := fun W => HSX.out i hlt W
        have HLT := hide hlt
        have HTS := hide (stands_take s l p i)
        have HSA := hide (show Tb.standsAt s l p i = (decide ((if i = 0 then Tb.low (Tb.at_ l (p + i)).2 else (Tb.at_ l (p + i)).2) = s.getD i 0) && decide ((Tb.at_ l (p + i)).1 = (Tb.at_ l p).1)) from rfl)
        have HBAD := hide (show Tb.standsAt s l p i = false → res = false by
          intro h
          rw [HI2.out, List.all_eq_false]
          exact ⟨i, List.mem_range.2 hlt, by rw [h]; decide⟩)
        have CL := hide (fun W => letter_any (Tb.at_ l (p + i)).2 W)
        unfold VC at CL
        clear hd0 hd1 hlt hbel HSX
        generalize Tb.standsAt s l p i = ok at *
        generalize s.getD i 0 = sc at *
        generalize Tb.letter (Tb.at_ l (p + i)).2 = le at *
        generalize Tb.capital (Tb.at_ l (p + i)).2 = ca at *
        generalize hlow : Tb.low (Tb.at_ l (p + i)).2 = lo at *
        generalize (Tb.at_ l (p + i)).2 = cc at *
        generalize (Tb.at_ l (p + i)).1 = li at *
        generalize (Tb.at_ l p).1 = lp at *
        clear hlow
        go_upto_region 6 with (with_reducible refine wpList_load_at rfl 67 (.tmp 27) rfl ((ad.add (p * 2)).add (i * 2)) rfl [.int .i64 li, .int .u8 (cc.toNat : Int)] _ HEC.out Try.underlying67 rfl ?c1 ?_)
        case c1 => exact symInfo
        refine name_world fun X hX => ?_
        have XB := hide (show Blk X wd.heap.size 67 #[.int .i64 li, .int .u8 (cc.toNat : Int)] by rw [← hX.out]; exact Blk.new wd _ _)
        have HXB := hide (show Below wd.heap.size wd X by rw [← hX.out]; exact below_alloc wd _)
        have HXV := hide (show Below w.heap.size w X from HB.out.trans (HXB.out.mono HB.out.size))
        have hXc : X.cell? (ad.add (p * 2)) = some (.int .i64 lp) := by rw [HXV.out.cell (by rw [block_of_add]; exact hadb)]; exact hcl
        have hgx : w.heap.size ≤ wd.heap.size := HB.out.size
        have hgxX := XB.out.lt
        clear hX HEC
        by_cases hz : i = 0
        · have hze : ((i : Int) == 0) = true := by rw [hz]; rfl
          have HSA2 := hide (show ok = (decide (lo = sc) && decide (li = lp)) by rw [HSA.out, if_pos hz])
          have f1 : X.cell? ⟨wd.heap.size, 1, none⟩ = some (.int .u8 (cc.toNat : Int)) := XB.out.cell 1
          have fz : X.frozen? ⟨wd.heap.size, 1, none⟩ = false := XB.out.frozen 1
          have CLX := hide (CL.out X)
          clear HSA CL hz
          go_upto_region 8 with (go_at_call 22; refine (unhide CLX).mono ?_; rintro e w1 ⟨rfl, rfl⟩)
          refine name_world fun Z hZ => ?_
          have ZB := hide (show Blk Z wd.heap.size 67 #[.int .i64 li, .int .u8 (lo.toNat : Int)] by rw [← hZ.out]; exact XB.out.set_ 1 _)
          have ZW := hide (show Below w.heap.size w Z by rw [← hZ.out]; exact HXV.out.setCell hgx _)
          have hzc : Z.cell? (ad.add (p * 2)) = some (.int .i64 lp) := by rw [ZW.out.cell (by rw [block_of_add]; exact hadb)]; exact hcl
          clear f1 fz hXc hZ CLX
          have z0 : Z.cell? ⟨wd.heap.size, 0, none⟩ = some (.int .i64 li) := ZB.out.cell 0
          have z1 : Z.cell? ⟨wd.heap.size, 1, none⟩ = some (.int .u8 (lo.toNat : Int)) := ZB.out.cell 1
          have hzi : ∀ k, (Instr.index 9 (.string sv) (.int .i64 (i : Int))).run Try.prog (Z.drewN k) = .ok (.int .u8 (sc.toNat : Int)) (Z.drewN k) := fun k => hix _
          have E1 := hide (u8_ne lo sc)
          have E2 := hide (int_ne li lp)
          generalize wd.heap.size = gw at *
          by_cases e1 : lo = sc
          · have E1' := E1.out
            rw [decide_eq_true e1] at E1'
            by_cases e2 : li = lp
            · have E2' := E2.out
              rw [decide_eq_true e2] at E2'
              have HOK := hide (show (List.range (i + 1)).all (Tb.standsAt s l p) = true by rw [HTS.out, HT.out, HSA2.out, decide_eq_true e1, decide_eq_true e2]; rfl)
              clear E1 E2 HSA2 HBAD HTS HT e1 e2
              generalize (lo.toNat : Int) = cv at *
              generalize (sc.toNat : Int) = scv at *
              go_wp2
              go_quiet (fail)
              go_wp2
              exact ⟨⟨i + 1, HLT.out, by go_num, HOK, below_drewN ZW.out _⟩, by have := HLT.out; simp [intOf]; omega⟩
            · have E2' := E2.out
              rw [decide_eq_false e2] at E2'
              have HF := hide (show res = false from HBAD.out (by rw [HSA2.out, decide_eq_false e2, Bool.and_false]))
              clear E1 E2 HSA2 HBAD HTS HT e1 e2
              generalize (lo.toNat : Int) = cv at *
              generalize (sc.toNat : Int) = scv at *
              go_wp2
              go_quiet (fail)
              go_wp2
              go_ret
              exact ⟨by rw [HF.out]; rfl, below_drewN ZW.out _⟩
          · have E1' := E1.out
            rw [decide_eq_false e1] at E1'
            have HF := hide (show res = false from HBAD.out (by rw [HSA2.out, decide_eq_false e1, Bool.false_and]))
            clear E1 E2 HSA2 HBAD HTS HT e1
            generalize (lo.toNat : Int) = cv at *
            generalize (sc.toNat : Int) = scv at *
            go_wp2
            go_quiet (fail)
            go_wp2
            go_ret
            exact ⟨by rw [HF.out]; rfl, below_drewN ZW.out _⟩
        · have hze : ((i : Int) == 0) = false := by rw [beq_eq_false_iff_ne]; omega
          have HSA2 := hide (show ok = (decide (cc = sc) && decide (li = lp)) by rw [HSA.out, if_neg hz])
          clear HSA CL hz
          obtain ⟨Z, hZ⟩ : ∃ Z, Z = X := ⟨_, rfl⟩
          rw [← hZ] at XB HXV hXc hgxX HXB ⊢
          have ZB := XB
          have ZW := HXV
          have hzc := hXc
          clear hZ XB HXV hXc
          have z0 : Z.cell? ⟨wd.heap.size, 0, none⟩ = some (.int .i64 li) := ZB.out.cell 0
          have z1 : Z.cell? ⟨wd.heap.size, 1, none⟩ = some (.int .u8 (cc.toNat : Int)) := ZB.out.cell 1
          have hzi : ∀ k, (Instr.index 9 (.string sv) (.int .i64 (i : Int))).run Try.prog (Z.drewN k) = .ok (.int .u8 (sc.toNat : Int)) (Z.drewN k) := fun k => hix _
          have E1 := hide (u8_ne cc sc)
          have E2 := hide (int_ne li lp)
          generalize wd.heap.size = gw at *
          by_cases e1 : cc = sc
          · have E1' := E1.out
            rw [decide_eq_true e1] at E1'
            by_cases e2 : li = lp
            · have E2' := E2.out
              rw [decide_eq_true e2] at E2'
              have HOK := hide (show (List.range (i + 1)).all (Tb.standsAt s l p) = true by rw [HTS.out, HT.out, HSA2.out, decide_eq_true e1, decide_eq_true e2]; rfl)
              clear E1 E2 HSA2 HBAD HTS HT e1 e2
              generalize (cc.toNat : Int) = cv at *
              generalize (sc.toNat : Int) = scv at *
              go_wp2
              go_quiet (fail)
              go_wp2
              exact ⟨⟨i + 1, HLT.out, by go_num, HOK, below_drewN ZW.out _⟩, by have := HLT.out; simp [intOf]; omega⟩
            · have E2' := E2.out
              rw [decide_eq_false e2] at E2'
              have HF := hide (show res = false from HBAD.out (by rw [HSA2.out, decide_eq_false e2, Bool.and_false]))
              clear E1 E2 HSA2 HBAD HTS HT e1 e2
              generalize (cc.toNat : Int) = cv at *
              generalize (sc.toNat : Int) = scv at *
              go_wp2
              go_quiet (fail)
              go_wp2
              go_ret
              exact ⟨by rw [HF.out]; rfl, below_drewN ZW.out _⟩
          · have E1' := E1.out
            rw [decide_eq_false e1] at E1'
            have HF := hide (show res = false from HBAD.out (by rw [HSA2.out, decide_eq_false e1, Bool.false_and]))
            clear E1 E2 HSA2 HBAD HTS HT e1
            generalize (cc.toNat : Int) = cv at *
            generalize (sc.toNat : Int) = scv at *
            go_wp2
            go_quiet (fail)
            go_wp2
            go_ret
            exact ⟨by rw [HF.out]; rfl, below_drewN ZW.out _⟩
      · obtain rfl : i = m := by omega
        have HF := hide (show res = true by rw [HI2.out]; exact HT.out)
        have hnt : ¬ ((i : Int) < (i : Int)) := by omega
        clear HT hlt hbel HSX HI2
        go_wp2
        go_ret
        exact ⟨by rw [HF.out]; rfl, HB.out⟩
end Go.Proofs.Ytbcfndhnopmbbaa
