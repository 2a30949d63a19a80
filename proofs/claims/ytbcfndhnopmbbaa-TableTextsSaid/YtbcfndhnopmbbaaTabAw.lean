/-
  Tables: the walk of the law that there is always a step, from the contracts of the tables made of a number and of the examples.
-/
import Derived.Test.YtbcfndhnopmbbaaTabSy
import Derived.Test.YtbcfndhnopmbbaaTabY
namespace Go.Proofs.Ytbcfndhnopmbbaa
open Go.RowKit
set_option linter.unusedVariables false
set_option linter.unusedSimpArgs false
/-- what the tables made of a number come out as -/
def TablesC (n : Int) : Prop := ∀ W : World, Calls Try.prog 8 #[.int .i64 n] W fun e w' => ∃ v t, e = .returned v ∧ TabAt w' w'.heap.size v t ∧ Tb.eT t = Tb.tablesT n ∧ Below W.heap.size W w'
def LivesC : Prop := ∀ W : World, Calls Try.prog 12 #[] W fun e w' => e = .returned (.bool true) ∧ Below W.heap.size W w'
theorem tablesT_r0 (n : Int) : (Tb.tablesT n).r0 = Tb.once (Tb.rawR n 0) := by unfold Tb.tablesT; simp only []
theorem tablesT_r1 (n : Int) : (Tb.tablesT n).r1 = Tb.once (Tb.rawR n 1) := by unfold Tb.tablesT; simp only []
theorem tab_of {t : Tb.Tab} {n : Int} (h : Tb.eT t = Tb.tablesT n) : Tb.valid t = 0 ∧ Tb.marked t.r0 ∧ Tb.marked t.r1 := by
  have e0 : (Tb.eT t).r0 = (Tb.tablesT n).r0 := congrArg Tb.Tab.r0 h
  have e1 : (Tb.eT t).r1 = (Tb.tablesT n).r1 := congrArg Tb.Tab.r1 h
  rw [tablesT_r0] at e0
  rw [tablesT_r1] at e1
  have k0 : t.r0.map Tb.key = (Tb.once (Tb.rawR n 0)).map Tb.key := by rw [← e0]; exact (Tb.map_key_eR t.r0).symm
  have k1 : t.r1.map Tb.key = (Tb.once (Tb.rawR n 1)).map Tb.key := by rw [← e1]; exact (Tb.map_key_eR t.r1).symm
  refine ⟨(Tb.valid_eT t).symm.trans ((congrArg Tb.valid h).trans (Tb.valid_tablesT n)), fun m hm => ?_, fun m hm => ?_⟩
  · rw [k0]; exact Tb.once_marked n 0 m hm
  · rw [k1]; exact Tb.once_marked n 1 m hm
set_option maxHeartbeats 8000000 in
set_option maxRecDepth 100000 in
theorem always_walk (n : Int) (A : Option Addr) (c : Nat) (l : List Int) (lang : Int) (num : Bool) (w : World) (hn : Wr.inI n) (hg : Wr.inI lang) (hr : IntsAt w w.heap.size A l) (hT : TablesC n) (hL : LivesC) :
    Calls Try.prog 6 #[.int .i64 n, .slice A l.length c, .int .i64 lang, .bool num] w fun e w' => e = .returned (.bool true) ∧ Below w.heap.size w w' := by
  have CT := hide (hT w)
  have CL := hide hL
  have CS := hide (fun (W : World) (hb : Below w.heap.size w W) => syms_any A c l W ⟨(hr.1.below hb).more hb.size, hr.2⟩)
  have CA := hide (fun W => (show Calls Try.prog 30 #[.int .i64 lang, .int .i64 2] W fun e w' => e = .returned (.int .i64 ((Ce.around lang 2 : Nat) : Int)) ∧ W = w' from around_any lang 2 W hg (by omega) (by omega)))
  obtain ⟨hgl, hgg⟩ := Tb.symsT_good l
  have hlg := Ce.around_lt lang 2 (by decide)
  generalize Tb.symsT l = tx at *
  generalize Ce.around lang 2 = lg at *
  generalize l.length = ln at *
  clear hr hT hL
  go_enter Try.func6, Try.ntmps6
  go_upto_region 2 with (go_at_call 8; refine (unhide CT).mono ?_; rintro e w1 ⟨v, t, rfl, hta, hte, hb1⟩; have HTA := hide hta; have HTE := hide hte; have B1 := hide hb1; obtain ⟨A0, A1, c0, c1, rfl, hta'⟩ := hta; clear hta' hb1 hte)
  refine name_world fun V hV => ?_
  have VT := hide (show Blk V w1.heap.size 28 #[.slice A0 t.r0.length c0, .slice A1 t.r1.length c1, .slice t.dig.ad t.dig.l.length t.dig.c, .slice t.cap.ad t.cap.l.length t.cap.c, .slice t.num.ad t.num.l.length t.num.c, .slice t.fin.ad t.fin.l.length t.fin.c, .slice t.sw.ad t.sw.l.length t.sw.c] by rw [← hV.out]; exact Blk.new w1 _ _)
  have HV1 := hide (show Below w1.heap.size w1 V by rw [← hV.out]; exact below_alloc w1 _)
  have hb1s := B1.out.size
  have HVW := hide (B1.out.trans (HV1.out.mono hb1s))
  have CS1 := hide (CS.out V HVW.out)
  have HTA2 := hide ((HTA.out.below HV1.out).more HV1.out.size)
  have hgt := VT.out.lt
  clear hV CS CT HTA HV1 B1
  generalize w1.heap.size = gt at *
  go_upto_region 3 with (go_at_call 15; refine (unhide CS1).mono ?_; rintro e w2 ⟨A', c', rfl, hc', htx, hb2⟩; have HTX := hide htx; have B2 := hide hb2; have hc2 := hc'; clear hb2 htx hc')
  have hb2s := B2.out.size
  have hvs := HVW.out.size
  have CST := hide (fun (s : Tb.St) (p : Int) (W : World) (hb : Below w2.heap.size w2 W) => steps_any _ t s A' c' tx p W (((HTA2.out.below B2.out).more B2.out.size |>.below hb).more hb.size) (HTX.out.same hb) hc2)
  have HW2 := hide (HVW.out.trans (B2.out.mono hvs))
  have VT2 := hide (VT.out.below B2.out hgt)
  obtain ⟨hva, hm0, hm1⟩ := tab_of HTE.out
  have HAL := hide (fun (s : Tb.St) (p : Nat) (hp : p < tx.length) (hs : Tb.langOk s.lang = true) => Tb.always hva hm0 hm1 s hp hs hgg)
  have HGD := hide hgg
  have hgt2 := VT2.out.lt
  clear CS1 HTA2 VT B2 HVW HTE hva hm0 hm1 hgg hgt
  unfold stV at CST
  generalize t.r0.length = n0 at *
  generalize t.r1.length = n1 at *
  generalize t.dig.l.length = n2 at *
  generalize t.cap.l.length = n3 at *
  generalize t.num.l.length = n4 at *
  generalize t.fin.l.length = n5 at *
  generalize t.sw.l.length = n6 at *
  obtain ⟨m, hm⟩ : ∃ m, m = tx.length := ⟨_, rfl⟩
  have HM := hide hm
  rw [← hm] at CST HAL hgl hc2 ⊢
  clear hm
  go_wp2
  go_loopw [11] (fun q wr => ∃ i : Nat, i ≤ m ∧ q = .int .i64 (i : Int) ∧ Below w2.heap.size w2 wr) (fun q _ => m - (intOf q).toNat)
  case atStart => exact ⟨0, by omega, rfl, Below.refl _ _⟩
  case round =>
    obtain ⟨i, hi, rfl, hbel⟩ := hrel
    obtain ⟨wd, rfl⟩ : ∃ wd, wd = wr := ⟨wr, rfl⟩
    have HB := hide hbel
    by_cases hlt : i < m
    · have hi1 : (i : Int) < (m : Int) := by omega
      have HLT := hide hlt
      clear hbel hlt
      go_upto_region 7 with (go_at_call 30; refine (unhide CA _).mono ?_; rintro e w3 ⟨rfl, rfl⟩)
      refine name_world fun X hX => ?_
      have XS := hide (show Blk X wd.heap.size 60 #[.int .i64 (lg : Int), .bool num, .bool false] by rw [← hX.out]; exact Blk.new wd _ _)
      have HX := hide (show Below wd.heap.size wd X by rw [← hX.out]; exact below_alloc wd _)
      have hbs := HB.out.size
      have XB := hide (HB.out.trans (HX.out.mono hbs))
      have XT := hide (VT2.out.below XB.out hgt2)
      have y0 : X.cell? ⟨wd.heap.size, 0, none⟩ = some (.int .i64 (lg : Int)) := XS.out.cell 0
      have y1 : X.cell? ⟨wd.heap.size, 1, none⟩ = some (.bool num) := XS.out.cell 1
      have y2 : X.cell? ⟨wd.heap.size, 2, none⟩ = some (.bool false) := XS.out.cell 2
      have t0 : X.cell? ⟨gt, 0, none⟩ = some (.slice A0 n0 c0) := XT.out.cell 0
      have t1 : X.cell? ⟨gt, 1, none⟩ = some (.slice A1 n1 c1) := XT.out.cell 1
      have t2 : X.cell? ⟨gt, 2, none⟩ = some (.slice t.dig.ad n2 t.dig.c) := XT.out.cell 2
      have t3 : X.cell? ⟨gt, 3, none⟩ = some (.slice t.cap.ad n3 t.cap.c) := XT.out.cell 3
      have t4 : X.cell? ⟨gt, 4, none⟩ = some (.slice t.num.ad n4 t.num.c) := XT.out.cell 4
      have t5 : X.cell? ⟨gt, 5, none⟩ = some (.slice t.fin.ad n5 t.fin.c) := XT.out.cell 5
      have t6 : X.cell? ⟨gt, 6, none⟩ = some (.slice t.sw.ad n6 t.sw.c) := XT.out.cell 6
      have CS4 := hide (CST.out ⟨(lg : Int), num, false⟩ (i : Int) X XB.out)
      have HST := hide (HAL.out ⟨(lg : Int), num, false⟩ i HLT.out (Tb.langOk_nat lg hlg))
      clear hX HX
      generalize wd.heap.size = gs at *
      go_upto_region 8 with (go_at_call 27; refine (unhide CS4).mono ?_; rintro e w4 ⟨v4, xs, rfl, hst, hxs, hb4⟩; have B4 := hide hb4; have HXS := hide hxs; have HSA := hide hst; obtain ⟨A4, c4, rfl, hk4, _⟩ := hst; clear hxs hb4)
      have hxb := XB.out.size
      have B24 := hide (XB.out.trans (B4.out.mono hxb))
      have hks1 : xs.length ≠ 0 := by
        intro h0
        have h1 : xs = [] := List.length_eq_zero_iff.1 h0
        have h2 := HXS.out
        rw [h1] at h2
        exact HST.out.1 h2.symm
      have HPR := hide (fun (k : Nat) (hk : k < xs.length) => HST.out.2 xs[k].sp (by rw [← HXS.out]; exact List.mem_map_of_mem (List.getElem_mem hk)))
      have h96 : xs.length ≤ 96 := by obtain ⟨_, _, _, _, h, _⟩ := HSA.out; exact h
      have HSR := hide (show Reads w4 w4.heap.size 6 A4 xs.length (STC xs) by
        obtain ⟨A5, c5, hv, _, _, h, _⟩ := HSA.out
        injection hv with hv1 hv2 hv3
        subst hv1
        exact h)
      clear CS4 HST HXS HSA B4 XB XT XS y0 y1 y2 t0 t1 t2 t3 t4 t5 t6
      obtain ⟨ks, hks⟩ : ∃ ks, ks = xs.length := ⟨_, rfl⟩
      have HKS := hide hks
      rw [← hks] at hks1 h96 hk4 ⊢
      have hkb : ((ks : Int) == 0) = false := by simp [hks1]
      clear hks
      go_wp2
      go_loopw [14] (fun q wr => ∃ k : Nat, k ≤ ks ∧ q = .int .i64 (k : Int) ∧ Below w4.heap.size w4 wr) (fun q _ => ks - (intOf q).toNat)
      case atStart => exact ⟨0, by omega, rfl, Below.refl _ _⟩
      case round =>
        obtain ⟨k, hk, rfl, hbel⟩ := hrel
        obtain ⟨wk, rfl⟩ : ∃ wk, wk = wr := ⟨wr, rfl⟩
        have HBK := hide hbel
        have hk0 : (0 : Int) ≤ (k : Int) := by omega
        by_cases hlt : k < ks
        · have hk1 : (k : Int) < (ks : Int) := by omega
          have hkx : k < xs.length := by rw [← HKS.out]; exact hlt
          obtain ⟨ad, rfl, hadb, hcs⟩ := reads_step HSR.out k hkx
          obtain ⟨p1, p2, p3⟩ := HPR.out k hkx
          have hcl : ∀ (j : Nat) (v : Value), (spC xs[k])[j]? = some v → wk.cell? ((ad.add (k * 6)).add j) = some v := fun j v hv => by
            rw [HBK.out.cell (by rw [block_of_add, block_of_add]; exact hadb)]
            exact hcs j v hv
          have f3 : wk.cell? ⟨(ad.add (k * 6)).block, (ad.add (k * 6)).off + 3, none⟩ = some (.int .i64 (xs[k].sp.len : Int)) := hcl 3 _ rfl
          have f4 : wk.cell? ⟨(ad.add (k * 6)).block, (ad.add (k * 6)).off + 4, none⟩ = some (.slice xs[k].ad xs[k].sp.cells.length xs[k].c) := hcl 4 _ rfl
          have p2' : xs[k].sp.cells.length ≠ 0 := fun h => p2 (List.length_eq_zero_iff.1 h)
          have HP3 := hide p3
          have HCL := hide hcl
          have HLK := hide hlt
          have f0 : wk.cell? (ad.add (k * 6)) = some (.int .i64 xs[k].sp.to.lang) := hcl 0 _ rfl
          have f1 : wk.cell? ⟨(ad.add (k * 6)).block, (ad.add (k * 6)).off + 1, none⟩ = some (.bool xs[k].sp.to.num) := hcl 1 _ rfl
          have f2 : wk.cell? ⟨(ad.add (k * 6)).block, (ad.add (k * 6)).off + 2, none⟩ = some (.bool xs[k].sp.to.inn) := hcl 2 _ rfl
          clear hcs hcl p2 p3 hbel hlt HPR
          have hb4s := B24.out.size
          have B2K := hide (B24.out.trans (HBK.out.mono hb4s))
          have CSK := hide (CST.out xs[k].sp.to (i : Int) wk.drew B2K.out.drew)
          generalize xs[k].sp.len = xl at *
          generalize xs[k].sp.cells.length = cl at *
          generalize xs[k].ad = xa at *
          generalize xs[k].c = xc at *
          generalize xs[k].sp.to = tt at *
          have hcb : ((cl : Int) == 0) = false := by simp [p2']
          have hx0 : ¬ ((xl : Int) < 0) := by omega
          have hx1 : ¬ ((m : Int) < (i : Int) + (xl : Int)) := by omega
          by_cases hxl : xl = 0
          · have HQ := hide (HP3.out hxl)
            have hxz : ¬ ((0 : Int) < (xl : Int)) := by omega
            clear HP3 hxl
            have XT := hide (VT2.out.below B2K.out hgt2)
            have t0 : wk.cell? ⟨gt, 0, none⟩ = some (.slice A0 n0 c0) := XT.out.cell 0
            have t1 : wk.cell? ⟨gt, 1, none⟩ = some (.slice A1 n1 c1) := XT.out.cell 1
            have t2 : wk.cell? ⟨gt, 2, none⟩ = some (.slice t.dig.ad n2 t.dig.c) := XT.out.cell 2
            have t3 : wk.cell? ⟨gt, 3, none⟩ = some (.slice t.cap.ad n3 t.cap.c) := XT.out.cell 3
            have t4 : wk.cell? ⟨gt, 4, none⟩ = some (.slice t.num.ad n4 t.num.c) := XT.out.cell 4
            have t5 : wk.cell? ⟨gt, 5, none⟩ = some (.slice t.fin.ad n5 t.fin.c) := XT.out.cell 5
            have t6 : wk.cell? ⟨gt, 6, none⟩ = some (.slice t.sw.ad n6 t.sw.c) := XT.out.cell 6
            clear CSK
            go_upto_region 16 with fail
            have HTC := hide (fun (W : World) (hb : Below wk.heap.size wk W) => (show W.cell? ⟨gt, 0, none⟩ = some (.slice A0 n0 c0) ∧ W.cell? ⟨gt, 1, none⟩ = some (.slice A1 n1 c1) ∧ W.cell? ⟨gt, 2, none⟩ = some (.slice t.dig.ad n2 t.dig.c) ∧ W.cell? ⟨gt, 3, none⟩ = some (.slice t.cap.ad n3 t.cap.c) ∧ W.cell? ⟨gt, 4, none⟩ = some (.slice t.num.ad n4 t.num.c) ∧ W.cell? ⟨gt, 5, none⟩ = some (.slice t.fin.ad n5 t.fin.c) ∧ W.cell? ⟨gt, 6, none⟩ = some (.slice t.sw.ad n6 t.sw.c) from by
              have Q := XT.out.below hb XT.out.lt
              exact ⟨Q.cell 0, Q.cell 1, Q.cell 2, Q.cell 3, Q.cell 4, Q.cell 5, Q.cell 6⟩))
            have hadk : ad.block < wk.heap.size := by have := HBK.out.size; omega
            have HSC := hide (fun (W : World) (hb : Below wk.heap.size wk W) => (show W.cell? (ad.add (k * 6)) = some (.int .i64 tt.lang) ∧ W.cell? ⟨(ad.add (k * 6)).block, (ad.add (k * 6)).off + 1, none⟩ = some (.bool tt.num) ∧ W.cell? ⟨(ad.add (k * 6)).block, (ad.add (k * 6)).off + 2, none⟩ = some (.bool tt.inn) from
              ⟨by rw [hb.cell (by rw [block_of_add]; exact hadk)]; exact f0, by rw [hb.cell (by show (ad.add (k * 6)).block < _; rw [block_of_add]; exact hadk)]; exact f1, by rw [hb.cell (by show (ad.add (k * 6)).block < _; rw [block_of_add]; exact hadk)]; exact f2⟩))
            clear t0 t1 t2 t3 t4 t5 t6 f0 f1 f2 f3 f4
            refine wp_region_held_till (fun W => Below wk.heap.size wk W) 9 (by kernel_rfl) ?_
            obtain ⟨W0, hW0⟩ : ∃ W0, W0 = wk.drew := ⟨_, rfl⟩
            have HB0 := hide (show Below wk.heap.size wk W0 by rw [hW0]; exact (Below.refl _ _).drew)
            rw [← hW0]
            clear hW0
            refine heldTill_take 0 (.agg #[.slice A0 n0 c0, .slice A1 n1 c1, .slice t.dig.ad n2 t.dig.c, .slice t.cap.ad n3 t.cap.c, .slice t.num.ad n4 t.num.c, .slice t.fin.ad n5 t.fin.c, .slice t.sw.ad n6 t.sw.c]) rfl (by kernel_rfl) (by kernel_rfl) (by kernel_rfl) (by kernel_rfl) (fun _ _ _ h => h) ?_ HB0.out ?_
            · rw [if_pos (by rfl)]
              rintro W hbW
              obtain ⟨t0, t1, t2, t3, t4, t5, t6⟩ := HTC.out W hbW
              go_simp
            try simp only [Act.put, List.getElem_toArray, List.getElem_cons_succ, List.getElem_cons_zero, List.setIfInBounds_toArray, List.set_cons_zero, List.set_cons_succ]
            refine heldTill_take 1 (.slice (some ad) ks c4) rfl (by kernel_rfl) (by kernel_rfl) (by kernel_rfl) (by kernel_rfl) (fun _ _ _ h => h) ?_ HB0.out ?_
            · rw [if_pos (by rfl)]
              rintro W hbW
              go_simp
            try simp only [Act.put, List.getElem_toArray, List.getElem_cons_succ, List.getElem_cons_zero, List.setIfInBounds_toArray, List.set_cons_zero, List.set_cons_succ]
            refine heldTill_take 2 (.int .i64 (k : Int)) rfl (by kernel_rfl) (by kernel_rfl) (by kernel_rfl) (by kernel_rfl) (fun _ _ _ h => h) ?_ HB0.out ?_
            · rw [if_pos (by rfl)]
              rintro W hbW
              go_simp
            try simp only [Act.put, List.getElem_toArray, List.getElem_cons_succ, List.getElem_cons_zero, List.setIfInBounds_toArray, List.set_cons_zero, List.set_cons_succ]
            refine heldTill_take 3 (.pointer (some (ad.add (k * 6)))) rfl (by kernel_rfl) (by kernel_rfl) (by kernel_rfl) (by kernel_rfl) (fun _ _ _ h => h) ?_ HB0.out ?_
            · rw [if_pos (by rfl)]
              rintro W hbW
              go_simp
            try simp only [Act.put, List.getElem_toArray, List.getElem_cons_succ, List.getElem_cons_zero, List.setIfInBounds_toArray, List.set_cons_zero, List.set_cons_succ]
            refine heldTill_take 4 (.pointer (some (ad.add (k * 6)))) rfl (by kernel_rfl) (by kernel_rfl) (by kernel_rfl) (by kernel_rfl) (fun _ _ _ h => h) ?_ HB0.out ?_
            · rw [if_pos (by rfl)]
              rintro W hbW
              go_simp
            try simp only [Act.put, List.getElem_toArray, List.getElem_cons_succ, List.getElem_cons_zero, List.setIfInBounds_toArray, List.set_cons_zero, List.set_cons_succ]
            refine heldTill_take 5 (.agg #[.int .i64 tt.lang, .bool tt.num, .bool tt.inn]) rfl (by kernel_rfl) (by kernel_rfl) (by kernel_rfl) (by kernel_rfl) (fun _ _ _ h => h) ?_ HB0.out ?_
            · rw [if_pos (by rfl)]
              rintro W hbW
              obtain ⟨f0, f1, f2⟩ := HSC.out W hbW
              go_simp
            try simp only [Act.put, List.getElem_toArray, List.getElem_cons_succ, List.getElem_cons_zero, List.setIfInBounds_toArray, List.set_cons_zero, List.set_cons_succ]
            refine heldTill_take 6 (.slice A' m c') rfl (by kernel_rfl) (by kernel_rfl) (by kernel_rfl) (by kernel_rfl) (fun _ _ _ h => h) ?_ HB0.out ?_
            · rw [if_pos (by rfl)]
              rintro W hbW
              go_simp
            try simp only [Act.put, List.getElem_toArray, List.getElem_cons_succ, List.getElem_cons_zero, List.setIfInBounds_toArray, List.set_cons_zero, List.set_cons_succ]
            refine heldTill_take 7 (.int .i64 (i : Int)) rfl (by kernel_rfl) (by kernel_rfl) (by kernel_rfl) (by kernel_rfl) (fun _ _ _ h => h) ?_ HB0.out ?_
            · rw [if_pos (by rfl)]
              rintro W hbW
              go_simp
            try simp only [Act.put, List.getElem_toArray, List.getElem_cons_succ, List.getElem_cons_zero, List.setIfInBounds_toArray, List.set_cons_zero, List.set_cons_succ]
            refine heldTill_only 8 (by kernel_rfl) ?_
            refine wpOp_step rfl (fun K' hK => ?_)
            go_simp
            go_at_call 27
            refine (CST.out tt (i : Int) W0 (B2K.out.trans (HB0.out.mono B2K.out.size))).mono ?_
            rintro e w5 ⟨v5, ys, rfl, hst, hys, hb5⟩
            have B5 := hide (HB0.out.trans (hb5.mono HB0.out.size))
            have HYS := hide hys
            have HSB := hide hst
            obtain ⟨A5, c5, rfl, hk5, _⟩ := hst
            clear hys hb5
            refine hK _ _ ⟨fun _ => B5.out, ?_⟩
            clear hK K'
            try simp only [Act.put, List.getElem_toArray, List.getElem_cons_succ, List.getElem_cons_zero, List.setIfInBounds_toArray, List.set_cons_zero, List.set_cons_succ]
            refine heldTill_only 9 (by kernel_rfl) ?_
            refine wpOp_step rfl (fun K' hK => ?_)
            go_simp
            refine hK _ _ ⟨fun h => absurd rfl h, heldTill_done (by kernel_rfl) ?_⟩
            clear hK K'
            obtain ⟨f0, _, _⟩ := HSC.out w5 B5.out
            have hbks := B2K.out.size
            have B25 := hide (B2K.out.trans (B5.out.mono hbks))
            have hwks := HBK.out.size
            have B45 := hide (HBK.out.trans (B5.out.mono hwks))
            obtain ⟨td, rfl, htdb, hcx, _⟩ := reads_sym' HTX.out i (by rw [← HM.out]; exact HLT.out)
            have g0 : w5.cell? (td.add (i * 2)) = some (.int .i64 (Tb.at_ tx i).1) := by
              rw [B25.out.cell (by rw [block_of_add]; exact htdb)]
              exact hcx
            obtain ⟨q1, q2, q3⟩ := HQ.out
            rw [q1] at f0
            have hys0 : ys.length ≠ 0 := by
              intro h0
              have h1 : ys = [] := List.length_eq_zero_iff.1 h0
              have h2 := HYS.out
              rw [h1] at h2
              exact q2 h2.symm
            have HPY := hide (fun (j : Nat) (hj : j < ys.length) => q3 ys[j].sp (by rw [← HYS.out]; exact List.mem_map_of_mem (List.getElem_mem hj)))
            have HSY := hide (show Reads w5 w5.heap.size 6 A5 ys.length (STC ys) by
              obtain ⟨A6, c6, hv, _, _, h, _⟩ := HSB.out
              injection hv with hv1 hv2 hv3
              subst hv1
              exact h)
            have h96y : ys.length ≤ 96 := by obtain ⟨_, _, _, _, h, _⟩ := HSB.out; exact h
            clear q1 q2 q3 HQ HYS HSB hcx HTC HSC HB0
            obtain ⟨ka, hka⟩ : ∃ ka, ka = ys.length := ⟨_, rfl⟩
            have HKA := hide hka
            rw [← hka] at hys0 hk5 h96y ⊢
            clear hka
            have hkb2 : ((ka : Int) == 0) = false := by simp [hys0]
            generalize (Tb.at_ tx i).1 = al at *
            have hne : (al != al) = false := by simp
            go_upto_region 17 with fail
            go_quiet (fail)
            go_wp2
            go_loopw [16] (fun q wr => ∃ j : Nat, j ≤ ka ∧ q = .int .i64 (j : Int) ∧ wr = w5.drewN nq) (fun q _ => ka - (intOf q).toNat)
            case atStart => exact ⟨0, by omega, rfl, rfl⟩
            case round =>
              obtain ⟨j, hj, rfl, rfl⟩ := hrel
              have hj0 : (0 : Int) ≤ (j : Int) := by omega
              by_cases hjl : j < ka
              · have hj1 : (j : Int) < (ka : Int) := by omega
                have hjx : j < ys.length := by rw [← HKA.out]; exact hjl
                obtain ⟨yd, rfl, hydb, hcy⟩ := reads_step HSY.out j hjx
                have hyl := HPY.out j hjx
                have e3 : w5.cell? ⟨(yd.add (j * 6)).block, (yd.add (j * 6)).off + 3, none⟩ = some (.int .i64 (ys[j].sp.len : Int)) := hcy 3 _ rfl
                have hyb : ((ys[j].sp.len : Int) == 0) = false := by simp [hyl]
                have HJL := hide hjl
                clear hcy hjl HPY
                generalize ys[j].sp.len = yl at *
                go_wp2
                have h9 := HJL.out
                exact ⟨⟨j + 1, h9, by go_num, by first | trivial | rfl⟩, by simp only [intOf]; omega⟩
              · obtain rfl : j = ka := by omega
                have hnt : ¬ ((j : Int) < (j : Int)) := by omega
                have HEND := hide (below_drewN B45.out nq)
                clear hjl g0 f0
                go_wp2
                have h9 := HLK.out
                exact ⟨⟨k + 1, h9, by go_num, HEND.out⟩, by simp only [intOf]; omega⟩
          · have hxp : (0 : Int) < (xl : Int) := by omega
            clear CSK HP3
            go_wp2
            have h9 := HLK.out
            exact ⟨⟨k + 1, h9, by go_num, HBK.out⟩, by simp only [intOf]; omega⟩
        · obtain rfl : k = ks := by omega
          have hnt : ¬ ((k : Int) < (k : Int)) := by omega
          have HW4 := hide (B24.out.trans (hbel.mono B24.out.size))
          clear hlt hbel
          go_wp2
          have := HLT.out
          exact ⟨⟨i + 1, by omega, by go_num, HW4.out⟩, by simp only [intOf]; omega⟩
    · obtain rfl : i = m := by omega
      have hnt : ¬ ((i : Int) < (i : Int)) := by omega
      have HWD := hide (HW2.out.trans (hbel.mono HW2.out.size))
      clear hlt hbel CST HAL
      go_wp2_with (go_at_call 12; refine (unhide CL _).mono ?_; rintro e w4 ⟨rfl, hb4⟩; have B4 := hide (HWD.out.trans (hb4.mono HWD.out.size)); clear hb4)
      go_ret
      exact ⟨rfl, B4.out⟩
end Go.Proofs.Ytbcfndhnopmbbaa
