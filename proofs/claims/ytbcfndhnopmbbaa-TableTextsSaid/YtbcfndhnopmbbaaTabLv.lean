/-
  Tables: lives of the law, by contract, from one of example.
-/
import Derived.Test.YtbcfndhnopmbbaaTabGd
import Derived.Test.YtbcfndhnopmbbaaTabAw
import Derived.Test.YtbcfndhnopmbbaaHeldT
namespace Go.Proofs.Ytbcfndhnopmbbaa
open Go.RowKit
set_option linter.unusedVariables false
set_option linter.unusedSimpArgs false
/-- what the tables of the examples come out as -/
def ExampleC : Prop := ∀ W : World, Calls Try.prog 40 #[] W fun e w' => ∃ v t, e = .returned v ∧ TabAt w' w'.heap.size v t ∧ Tb.eT t = Tb.exT ∧ Below W.heap.size W w'
def ks4 (TV ZV : Value) : List (World → Value → Prop) := [gIs (TV), gIs (ZV), gTxt (Tb.sp0 [65, 110]), gStp [(1, [60, 1]), (2, [60, 30]), (2, [60, 31])], gRow 3 [.int .i64 1, .int .i64 2, .int .i64 2], gRow 5 [.int .u8 60, .int .u8 1], gRow 5 [.int .u8 60, .int .u8 30], gRow 5 [.int .u8 60, .int .u8 31], gCls [[60, 1], [60, 30], [60, 31]], gIs (.bool true), gIs (.bool true), gIs (TV), gIs (ZV), gTxt (Tb.sp0 [98, 97, 110]), gStp [(1, [1]), (2, [30])], gRow 3 [.int .i64 1, .int .i64 2], gRow 5 [.int .u8 1], gRow 5 [.int .u8 30], gCls [[1], [30]], gIs (.bool true), gIs (.bool true)]
theorem ks4_stab (TV ZV : Value) : StabL (ks4 TV ZV) := stabL_cons (stab_is _) (stabL_cons (stab_is _) (stabL_cons (stab_txt _) (stabL_cons (stab_stp _) (stabL_cons (stab_row _ _) (stabL_cons (stab_row _ _) (stabL_cons (stab_row _ _) (stabL_cons (stab_row _ _) (stabL_cons (stab_cls _) (stabL_cons (stab_is _) (stabL_cons (stab_is _) (stabL_cons (stab_is _) (stabL_cons (stab_is _) (stabL_cons (stab_txt _) (stabL_cons (stab_stp _) (stabL_cons (stab_row _ _) (stabL_cons (stab_row _ _) (stabL_cons (stab_row _ _) (stabL_cons (stab_cls _) (stabL_cons (stab_is _) (stabL_cons (stab_is _) (stabL_nil)))))))))))))))))))))
def ks5 (TV ZV : Value) : List (World → Value → Prop) := [gIs (TV), gIs (ZV), gTxt (Tb.sp0 [98, 97, 110]), gStp [(1, [14]), (1, [32])], gRow 3 [.int .i64 1, .int .i64 1], gRow 5 [.int .u8 14], gRow 5 [.int .u8 32], gCls [[14], [32]], gIs (.bool true), gIs (.bool true), gIs (TV), gIs (ZV), gTxt (Tb.sp0 [55, 46]), gStp [(1, [61, 48])], gRow 3 [.int .i64 1], gRow 5 [.int .u8 61, .int .u8 48], gCls [[61, 48]], gIs (.bool true), gIs (.bool true)]
theorem ks5_stab (TV ZV : Value) : StabL (ks5 TV ZV) := stabL_cons (stab_is _) (stabL_cons (stab_is _) (stabL_cons (stab_txt _) (stabL_cons (stab_stp _) (stabL_cons (stab_row _ _) (stabL_cons (stab_row _ _) (stabL_cons (stab_row _ _) (stabL_cons (stab_cls _) (stabL_cons (stab_is _) (stabL_cons (stab_is _) (stabL_cons (stab_is _) (stabL_cons (stab_is _) (stabL_cons (stab_txt _) (stabL_cons (stab_stp _) (stabL_cons (stab_row _ _) (stabL_cons (stab_row _ _) (stabL_cons (stab_cls _) (stabL_cons (stab_is _) (stabL_cons (stab_is _) (stabL_nil)))))))))))))))))))
def ks6 (TV YV : Value) : List (World → Value → Prop) := [gIs (TV), gIs (YV), gTxt (Tb.sp0 [55, 97]), gStp [(1, [62, 1])], gRow 3 [.int .i64 1], gRow 5 [.int .u8 62, .int .u8 1], gCls [[62, 1]], gIs (.bool true), gIs (.bool true), gIs (TV), gIs (YV), gTxt (Tb.sp0 [55, 46]), gStp [(1, [33])], gRow 3 [.int .i64 1], gRow 5 [.int .u8 33], gCls [[33]], gIs (.bool true), gIs (.bool true)]
theorem ks6_stab (TV YV : Value) : StabL (ks6 TV YV) := stabL_cons (stab_is _) (stabL_cons (stab_is _) (stabL_cons (stab_txt _) (stabL_cons (stab_stp _) (stabL_cons (stab_row _ _) (stabL_cons (stab_row _ _) (stabL_cons (stab_cls _) (stabL_cons (stab_is _) (stabL_cons (stab_is _) (stabL_cons (stab_is _) (stabL_cons (stab_is _) (stabL_cons (stab_txt _) (stabL_cons (stab_stp _) (stabL_cons (stab_row _ _) (stabL_cons (stab_row _ _) (stabL_cons (stab_cls _) (stabL_cons (stab_is _) (stabL_cons (stab_is _) (stabL_nil))))))))))))))))))
set_option maxHeartbeats 8000000 in
set_option maxRecDepth 100000 in
theorem lives_any (hE : ExampleC) : LivesC := by
  intro w
  have CE := hide (hE w)
  clear hE
  go_enter Try.func12, Try.ntmps12
  go_upto_region 2 with (go_at_call 40; refine (unhide CE).mono ?_; rintro e w1 ⟨v, t, rfl, hta, hte, hb1⟩; have HTA := hide hta; have HTE := hide hte; have B1 := hide hb1; obtain ⟨A0, A1, c0, c1, rfl, hta'⟩ := hta; clear hta' hb1 hte)
  refine name_world fun V hV => ?_
  have VT := hide (show Blk V w1.heap.size 28 #[.slice A0 t.r0.length c0, .slice A1 t.r1.length c1, .slice t.dig.ad t.dig.l.length t.dig.c, .slice t.cap.ad t.cap.l.length t.cap.c, .slice t.num.ad t.num.l.length t.num.c, .slice t.fin.ad t.fin.l.length t.fin.c, .slice t.sw.ad t.sw.l.length t.sw.c] by rw [← hV.out]; exact Blk.new w1 _ _)
  have HVV := hide (show Below w1.heap.size w1 V by rw [← hV.out]; exact below_alloc w1 _)
  have hvs : V.heap.size = w1.heap.size + 1 := by rw [← hV.out]; simp
  clear hV
  go_upto_region 4 with fail
  refine name_world fun B hB => ?_
  have B4 := hide (show Below B.heap.size B B from Below.refl _ _)
  have HV1 := hide (show Below w1.heap.size w1 B by rw [← hB.out]; exact HVV.out.trans ((below_alloc' V _ (by omega)).trans (below_alloc' _ _ (by simp; omega))))
  have BT := hide (show Blk B w1.heap.size 28 #[.slice A0 t.r0.length c0, .slice A1 t.r1.length c1, .slice t.dig.ad t.dig.l.length t.dig.c, .slice t.cap.ad t.cap.l.length t.cap.c, .slice t.num.ad t.num.l.length t.num.c, .slice t.fin.ad t.fin.l.length t.fin.c, .slice t.sw.ad t.sw.l.length t.sw.c] by rw [← hB.out]; exact (VT.out.alloc _).alloc _)
  have BZ := hide (show Blk B V.heap.size 60 #[.int .i64 0, .bool false, .bool false] by rw [← hB.out]; exact (Blk.new V _ _).alloc _)
  have BY := hide (show Blk B (V.heap.size + 1) 60 #[.int .i64 0, .bool true, .bool false] by rw [← hB.out]; exact Blk.new2 V _ _ _)
  clear hB VT HVV
  rw [hvs] at BZ BY
  clear hvs
  obtain ⟨gy, hgy⟩ : ∃ gy, gy = w1.heap.size + 1 + 1 := ⟨_, rfl⟩
  rw [← hgy] at BY ⊢
  obtain ⟨gz, hgz⟩ : ∃ gz, gz = w1.heap.size + 1 := ⟨_, rfl⟩
  rw [← hgz] at BZ ⊢
  obtain ⟨gt, hgt⟩ : ∃ gt, gt = w1.heap.size := ⟨_, rfl⟩
  rw [← hgt] at BT ⊢
  clear hgz hgy hgt
  generalize t.r0.length = n0 at *
  obtain ⟨TV, hTV⟩ : ∃ TV : Value, TV = .agg #[.slice A0 n0 c0, .slice A1 t.r1.length c1, .slice t.dig.ad t.dig.l.length t.dig.c, .slice t.cap.ad t.cap.l.length t.cap.c, .slice t.num.ad t.num.l.length t.num.c, .slice t.fin.ad t.fin.l.length t.fin.c, .slice t.sw.ad t.sw.l.length t.sw.c] := ⟨_, rfl⟩
  have HTV := hide hTV.symm
  rw [← hTV] at HTA
  clear hTV
  generalize t.r1.length = n1 at *
  generalize t.dig.l.length = n2 at *
  generalize t.cap.l.length = n3 at *
  generalize t.num.l.length = n4 at *
  generalize t.fin.l.length = n5 at *
  generalize t.sw.l.length = n6 at *
  obtain ⟨ZV, hZV⟩ : ∃ ZV : Value, ZV = .agg #[.int .i64 0, .bool false, .bool false] := ⟨_, rfl⟩
  obtain ⟨YV, hYV⟩ : ∃ YV : Value, YV = .agg #[.int .i64 0, .bool true, .bool false] := ⟨_, rfl⟩
  have HZV := hide hZV.symm
  have HYV := hide hYV.symm
  have HZS := hide (show ZV = stV Tb.zeroS from hZV)
  have HYS := hide (show YV = stV Tb.numS from hYV)
  clear hZV hYV
  have HTC := hide (fun (W : World) (hb : Below B.heap.size B W) => (show W.cell? ⟨gt, 0, none⟩ = some (.slice A0 n0 c0) ∧ W.cell? ⟨gt, 1, none⟩ = some (.slice A1 n1 c1) ∧ W.cell? ⟨gt, 2, none⟩ = some (.slice t.dig.ad n2 t.dig.c) ∧ W.cell? ⟨gt, 3, none⟩ = some (.slice t.cap.ad n3 t.cap.c) ∧ W.cell? ⟨gt, 4, none⟩ = some (.slice t.num.ad n4 t.num.c) ∧ W.cell? ⟨gt, 5, none⟩ = some (.slice t.fin.ad n5 t.fin.c) ∧ W.cell? ⟨gt, 6, none⟩ = some (.slice t.sw.ad n6 t.sw.c) from by
    have Q := BT.out.below hb BT.out.lt
    exact ⟨Q.cell 0, Q.cell 1, Q.cell 2, Q.cell 3, Q.cell 4, Q.cell 5, Q.cell 6⟩))
  have HZC := hide (fun (W : World) (hb : Below B.heap.size B W) => (show W.cell? ⟨gz, 0, none⟩ = some (.int .i64 0) ∧ W.cell? ⟨gz, 1, none⟩ = some (.bool false) ∧ W.cell? ⟨gz, 2, none⟩ = some (.bool false) from by
    have Q := BZ.out.below hb BZ.out.lt
    exact ⟨Q.cell 0, Q.cell 1, Q.cell 2⟩))
  have HYC := hide (fun (W : World) (hb : Below B.heap.size B W) => (show W.cell? ⟨gy, 0, none⟩ = some (.int .i64 0) ∧ W.cell? ⟨gy, 1, none⟩ = some (.bool true) ∧ W.cell? ⟨gy, 2, none⟩ = some (.bool false) from by
    have Q := BY.out.below hb BY.out.lt
    exact ⟨Q.cell 0, Q.cell 1, Q.cell 2⟩))
  have HVA := hide (show Tb.valid t = 0 by rw [← Tb.valid_eT t, HTE.out]; exact Tb.ex_valid)
  refine wp_region_three 0 21 [some 10, some 11, some 12, some 13, some 14, some 15, some 16, some 17, some 18, some 19, some 20, some 21, some 22, some 23, some 24, some 25, some 26, some 27, some 28, some 29, some 30] (gAll (ks4 TV ZV))
    (fun _ W => Below B.heap.size B W) (by decide) (by kernel_rfl) (by kernel_rfl) (by kernel_rfl) (by rfl) (by decide) (by rfl) (B4.out.drew) ?_ ?_ ?_
  · intro j hj hjm b A x W hC hd hr
    have stay : ∀ W', Below W.heap.size W W' → Below B.heap.size B W' := fun W' hb => hC.trans (hb.mono hC.size)
    have KSS := ks4_stab TV ZV
    have hj' : j = 1 ∨ j = 2 ∨ j = 3 ∨ j = 4 ∨ j = 5 ∨ j = 6 ∨ j = 7 ∨ j = 8 ∨ j = 9 ∨ j = 10 ∨ j = 11 ∨ j = 12 ∨ j = 13 ∨ j = 14 ∨ j = 15 ∨ j = 16 ∨ j = 17 ∨ j = 18 ∨ j = 19 ∨ j = 20 := by omega
    rcases hj' with rfl | rfl | rfl | rfl | rfl | rfl | rfl | rfl | rfl | rfl | rfl | rfl | rfl | rfl | rfl | rfl | rfl | rfl | rfl | rfl
    · have e2 : A.tmps[2]?.getD undef = .pointer (some ⟨gz, 0, none⟩) := hr 2 (by decide)
      refine wpOp_step rfl (fun K' hK => ?_)
      obtain ⟨z0, z1, z2⟩ := HZC.out W hC
      go_simp
      exact hK _ _ ⟨_, rfl, HZV.out, fun _ _ _ h => h, hC⟩
    · refine wpOp_step rfl (fun K' hK => ?_)
      go_simp
      go_at_call 42
      refine (text_lit _ [65, 110] rfl W (by decide)).mono ?_
      rintro e W' ⟨v, rfl, hv, hb⟩
      exact hK _ _ ⟨_, rfl, hv, fun k' _ u h => gAll_below KSS hb k' u h, stay _ hb⟩
    · have d0 : A.tmps[10]?.getD undef = TV := ((hd 0 (by decide)).1 10 rfl).trans (hd 0 (by decide)).2
      have d1 : A.tmps[11]?.getD undef = ZV := ((hd 1 (by decide)).1 11 rfl).trans (hd 1 (by decide)).2
      have d2 : A.tmps[12]?.getD undef = x 2 := (hd 2 (by decide)).1 12 rfl
      have r2 : gTxt (Tb.sp0 [65, 110]) W (x 2) := (hd 2 (by decide)).2
      refine wpOp_step rfl (fun K' hK => ?_)
      go_simp
      go_at_call 27
      refine (steps_ok TV t w1 W HTA.out (HV1.out.trans (hC.mono HV1.out.size)) HTE.out Tb.zeroS _ HZS.out _ (x 2) r2 _ [(1, [60, 1]), (2, [60, 30]), (2, [60, 31])] Tb.ex_One).mono ?_
      rintro e W' ⟨v, rfl, hv, hb⟩
      exact hK _ _ ⟨_, rfl, hv, fun k' _ u h => gAll_below KSS hb k' u h, stay _ hb⟩
    · refine wpOp_step rfl (fun K' hK => ?_)
      go_simp
      exact hK _ _ ⟨_, rfl, ⟨W.heap.size, rfl, Blk.new W _ _⟩, fun k' _ u h => gAll_below KSS (below_alloc W _) k' u h, stay _ (below_alloc W _)⟩
    · refine wpOp_step rfl (fun K' hK => ?_)
      go_simp
      exact hK _ _ ⟨_, rfl, ⟨W.heap.size, rfl, Blk.new W _ _⟩, fun k' _ u h => gAll_below KSS (below_alloc W _) k' u h, stay _ (below_alloc W _)⟩
    · refine wpOp_step rfl (fun K' hK => ?_)
      go_simp
      exact hK _ _ ⟨_, rfl, ⟨W.heap.size, rfl, Blk.new W _ _⟩, fun k' _ u h => gAll_below KSS (below_alloc W _) k' u h, stay _ (below_alloc W _)⟩
    · refine wpOp_step rfl (fun K' hK => ?_)
      go_simp
      exact hK _ _ ⟨_, rfl, ⟨W.heap.size, rfl, Blk.new W _ _⟩, fun k' _ u h => gAll_below KSS (below_alloc W _) k' u h, stay _ (below_alloc W _)⟩
    · obtain ⟨g5, hx5, hb5⟩ : gRow 5 [.int .u8 60, .int .u8 1] W (x 5) := (hd 5 (by decide)).2
      have d5 : A.tmps[15]?.getD undef = .slice (some ⟨g5, 0, none⟩) 2 2 := ((hd 5 (by decide)).1 15 rfl).trans hx5
      obtain ⟨g6, hx6, hb6⟩ : gRow 5 [.int .u8 60, .int .u8 30] W (x 6) := (hd 6 (by decide)).2
      have d6 : A.tmps[16]?.getD undef = .slice (some ⟨g6, 0, none⟩) 2 2 := ((hd 6 (by decide)).1 16 rfl).trans hx6
      obtain ⟨g7, hx7, hb7⟩ : gRow 5 [.int .u8 60, .int .u8 31] W (x 7) := (hd 7 (by decide)).2
      have d7 : A.tmps[17]?.getD undef = .slice (some ⟨g7, 0, none⟩) 2 2 := ((hd 7 (by decide)).1 17 rfl).trans hx7
      refine wpOp_step rfl (fun K' hK => ?_)
      go_simp
      exact hK _ _ ⟨_, rfl, ⟨_, [⟨[60, 1], some ⟨g5, 0, none⟩, 2⟩, ⟨[60, 30], some ⟨g6, 0, none⟩, 2⟩, ⟨[60, 31], some ⟨g7, 0, none⟩, 2⟩], rfl, cls_new W [⟨[60, 1], some ⟨g5, 0, none⟩, 2⟩, ⟨[60, 30], some ⟨g6, 0, none⟩, 2⟩, ⟨[60, 31], some ⟨g7, 0, none⟩, 2⟩] (by
        intro b hb
        simp only [List.mem_cons, List.not_mem_nil, or_false] at hb
        rcases hb with rfl | rfl | rfl
        · exact bs_row W g5 [60, 1] hb5 (by decide)
        · exact bs_row W g6 [60, 30] hb6 (by decide)
        · exact bs_row W g7 [60, 31] hb7 (by decide)), rfl⟩, fun k' _ u h => gAll_below KSS (below_alloc W _) k' u h, stay _ (below_alloc W _)⟩
    · have d3 : A.tmps[13]?.getD undef = x 3 := (hd 3 (by decide)).1 13 rfl
      have r3 : gStp [(1, [60, 1]), (2, [60, 30]), (2, [60, 31])] W (x 3) := (hd 3 (by decide)).2
      have d4 : A.tmps[14]?.getD undef = x 4 := (hd 4 (by decide)).1 14 rfl
      have r4 : gRow 3 [.int .i64 1, .int .i64 2, .int .i64 2] W (x 4) := (hd 4 (by decide)).2
      have d8 : A.tmps[18]?.getD undef = x 8 := (hd 8 (by decide)).1 18 rfl
      have r8 : gCls [[60, 1], [60, 30], [60, 31]] W (x 8) := (hd 8 (by decide)).2
      refine wpOp_step rfl (fun K' hK => ?_)
      go_simp
      go_at_call 41
      refine (are_ok [(1, [60, 1]), (2, [60, 30]), (2, [60, 31])] (x 3) (x 4) (x 8) W r3 r4 r8).mono ?_
      rintro e W' ⟨rfl, hb⟩
      exact hK _ _ ⟨_, rfl, rfl, fun k' _ u h => gAll_below KSS hb k' u h, stay _ hb⟩
    · have d9 : A.tmps[19]?.getD undef = .bool true := ((hd 9 (by decide)).1 19 rfl).trans (hd 9 (by decide)).2
      refine wpOp_step rfl (fun K' hK => ?_)
      go_simp
      exact hK _ _ ⟨_, rfl, rfl, fun _ _ _ h => h, hC⟩
    · have e1 : A.tmps[1]?.getD undef = .pointer (some ⟨gt, 0, none⟩) := hr 1 (by decide)
      have d10 : A.tmps[20]?.getD undef = .bool true := ((hd 10 (by decide)).1 20 rfl).trans (hd 10 (by decide)).2
      refine wpOp_step rfl (fun K' hK => ?_)
      rw [if_pos (wanted_of 10 20 true rfl rfl d10)]
      obtain ⟨t0, t1, t2, t3, t4, t5, t6⟩ := HTC.out W hC
      go_simp
      exact hK _ _ ⟨_, rfl, HTV.out, fun _ _ _ h => h, hC⟩
    · have e2 : A.tmps[2]?.getD undef = .pointer (some ⟨gz, 0, none⟩) := hr 2 (by decide)
      have d10 : A.tmps[20]?.getD undef = .bool true := ((hd 10 (by decide)).1 20 rfl).trans (hd 10 (by decide)).2
      refine wpOp_step rfl (fun K' hK => ?_)
      rw [if_pos (wanted_of 10 20 true rfl rfl d10)]
      obtain ⟨z0, z1, z2⟩ := HZC.out W hC
      go_simp
      exact hK _ _ ⟨_, rfl, HZV.out, fun _ _ _ h => h, hC⟩
    · have d10 : A.tmps[20]?.getD undef = .bool true := ((hd 10 (by decide)).1 20 rfl).trans (hd 10 (by decide)).2
      refine wpOp_step rfl (fun K' hK => ?_)
      rw [if_pos (wanted_of 10 20 true rfl rfl d10)]
      go_simp
      go_at_call 42
      refine (text_lit _ [98, 97, 110] rfl W (by decide)).mono ?_
      rintro e W' ⟨v, rfl, hv, hb⟩
      exact hK _ _ ⟨_, rfl, hv, fun k' _ u h => gAll_below KSS hb k' u h, stay _ hb⟩
    · have d11 : A.tmps[21]?.getD undef = TV := ((hd 11 (by decide)).1 21 rfl).trans (hd 11 (by decide)).2
      have d12 : A.tmps[22]?.getD undef = ZV := ((hd 12 (by decide)).1 22 rfl).trans (hd 12 (by decide)).2
      have d13 : A.tmps[23]?.getD undef = x 13 := (hd 13 (by decide)).1 23 rfl
      have r13 : gTxt (Tb.sp0 [98, 97, 110]) W (x 13) := (hd 13 (by decide)).2
      have d10 : A.tmps[20]?.getD undef = .bool true := ((hd 10 (by decide)).1 20 rfl).trans (hd 10 (by decide)).2
      refine wpOp_step rfl (fun K' hK => ?_)
      rw [if_pos (wanted_of 10 20 true rfl rfl d10)]
      go_simp
      go_at_call 27
      refine (steps_ok TV t w1 W HTA.out (HV1.out.trans (hC.mono HV1.out.size)) HTE.out Tb.zeroS _ HZS.out _ (x 13) r13 _ [(1, [1]), (2, [30])] Tb.ex_Ban1).mono ?_
      rintro e W' ⟨v, rfl, hv, hb⟩
      exact hK _ _ ⟨_, rfl, hv, fun k' _ u h => gAll_below KSS hb k' u h, stay _ hb⟩
    · have d10 : A.tmps[20]?.getD undef = .bool true := ((hd 10 (by decide)).1 20 rfl).trans (hd 10 (by decide)).2
      refine wpOp_step rfl (fun K' hK => ?_)
      rw [if_pos (wanted_of 10 20 true rfl rfl d10)]
      go_simp
      exact hK _ _ ⟨_, rfl, ⟨W.heap.size, rfl, Blk.new W _ _⟩, fun k' _ u h => gAll_below KSS (below_alloc W _) k' u h, stay _ (below_alloc W _)⟩
    · have d10 : A.tmps[20]?.getD undef = .bool true := ((hd 10 (by decide)).1 20 rfl).trans (hd 10 (by decide)).2
      refine wpOp_step rfl (fun K' hK => ?_)
      rw [if_pos (wanted_of 10 20 true rfl rfl d10)]
      go_simp
      exact hK _ _ ⟨_, rfl, ⟨W.heap.size, rfl, Blk.new W _ _⟩, fun k' _ u h => gAll_below KSS (below_alloc W _) k' u h, stay _ (below_alloc W _)⟩
    · have d10 : A.tmps[20]?.getD undef = .bool true := ((hd 10 (by decide)).1 20 rfl).trans (hd 10 (by decide)).2
      refine wpOp_step rfl (fun K' hK => ?_)
      rw [if_pos (wanted_of 10 20 true rfl rfl d10)]
      go_simp
      exact hK _ _ ⟨_, rfl, ⟨W.heap.size, rfl, Blk.new W _ _⟩, fun k' _ u h => gAll_below KSS (below_alloc W _) k' u h, stay _ (below_alloc W _)⟩
    · obtain ⟨g16, hx16, hb16⟩ : gRow 5 [.int .u8 1] W (x 16) := (hd 16 (by decide)).2
      have d16 : A.tmps[26]?.getD undef = .slice (some ⟨g16, 0, none⟩) 1 1 := ((hd 16 (by decide)).1 26 rfl).trans hx16
      obtain ⟨g17, hx17, hb17⟩ : gRow 5 [.int .u8 30] W (x 17) := (hd 17 (by decide)).2
      have d17 : A.tmps[27]?.getD undef = .slice (some ⟨g17, 0, none⟩) 1 1 := ((hd 17 (by decide)).1 27 rfl).trans hx17
      have d10 : A.tmps[20]?.getD undef = .bool true := ((hd 10 (by decide)).1 20 rfl).trans (hd 10 (by decide)).2
      refine wpOp_step rfl (fun K' hK => ?_)
      rw [if_pos (wanted_of 10 20 true rfl rfl d10)]
      go_simp
      exact hK _ _ ⟨_, rfl, ⟨_, [⟨[1], some ⟨g16, 0, none⟩, 1⟩, ⟨[30], some ⟨g17, 0, none⟩, 1⟩], rfl, cls_new W [⟨[1], some ⟨g16, 0, none⟩, 1⟩, ⟨[30], some ⟨g17, 0, none⟩, 1⟩] (by
        intro b hb
        simp only [List.mem_cons, List.not_mem_nil, or_false] at hb
        rcases hb with rfl | rfl
        · exact bs_row W g16 [1] hb16 (by decide)
        · exact bs_row W g17 [30] hb17 (by decide)), rfl⟩, fun k' _ u h => gAll_below KSS (below_alloc W _) k' u h, stay _ (below_alloc W _)⟩
    · have d14 : A.tmps[24]?.getD undef = x 14 := (hd 14 (by decide)).1 24 rfl
      have r14 : gStp [(1, [1]), (2, [30])] W (x 14) := (hd 14 (by decide)).2
      have d15 : A.tmps[25]?.getD undef = x 15 := (hd 15 (by decide)).1 25 rfl
      have r15 : gRow 3 [.int .i64 1, .int .i64 2] W (x 15) := (hd 15 (by decide)).2
      have d18 : A.tmps[28]?.getD undef = x 18 := (hd 18 (by decide)).1 28 rfl
      have r18 : gCls [[1], [30]] W (x 18) := (hd 18 (by decide)).2
      have d10 : A.tmps[20]?.getD undef = .bool true := ((hd 10 (by decide)).1 20 rfl).trans (hd 10 (by decide)).2
      refine wpOp_step rfl (fun K' hK => ?_)
      rw [if_pos (wanted_of 10 20 true rfl rfl d10)]
      go_simp
      go_at_call 41
      refine (are_ok [(1, [1]), (2, [30])] (x 14) (x 15) (x 18) W r14 r15 r18).mono ?_
      rintro e W' ⟨rfl, hb⟩
      exact hK _ _ ⟨_, rfl, rfl, fun k' _ u h => gAll_below KSS hb k' u h, stay _ hb⟩
    · have d10 : A.tmps[20]?.getD undef = .bool true := ((hd 10 (by decide)).1 20 rfl).trans (hd 10 (by decide)).2
      have d19 : A.tmps[29]?.getD undef = .bool true := ((hd 19 (by decide)).1 29 rfl).trans (hd 19 (by decide)).2
      refine wpOp_step rfl (fun K' hK => ?_)
      go_simp
      exact hK _ _ ⟨_, rfl, rfl, fun _ _ _ h => h, hC⟩
  · intro A x W hC hd hr
    have stay : ∀ W', Below W.heap.size W W' → Below B.heap.size B W' := fun W' hb => hC.trans (hb.mono hC.size)
    have KSS := ks4_stab TV ZV
    have e1 : A.tmps[1]?.getD undef = .pointer (some ⟨gt, 0, none⟩) := hr 1 (by decide)
    refine wpOp_step rfl (fun K' hK => ?_)
    obtain ⟨t0, t1, t2, t3, t4, t5, t6⟩ := HTC.out W hC
    go_simp
    exact hK _ _ ⟨_, rfl, HTV.out, fun _ _ _ h => h, hC⟩
  · intro x W hC hR
    have hxp : x 20 = .bool true := hR 20 (by decide)
    refine wpOp_step rfl (fun K' hK => ?_)
    simp only [putL, Act.put, Nat.zero_add, Nat.reduceAdd, List.setIfInBounds_toArray, List.set_cons_succ, List.set_cons_zero]
    rw [hxp]
    generalize x 0 = y4_0
    generalize x 1 = y4_1
    generalize x 2 = y4_2
    generalize x 3 = y4_3
    generalize x 4 = y4_4
    generalize x 5 = y4_5
    generalize x 6 = y4_6
    generalize x 7 = y4_7
    generalize x 8 = y4_8
    generalize x 9 = y4_9
    generalize x 10 = y4_10
    generalize x 11 = y4_11
    generalize x 12 = y4_12
    generalize x 13 = y4_13
    generalize x 14 = y4_14
    generalize x 15 = y4_15
    generalize x 16 = y4_16
    generalize x 17 = y4_17
    generalize x 18 = y4_18
    generalize x 19 = y4_19
    go_simp
    refine hK _ _ ?_
    clear hK K' hxp hR
    have HB4 := hide hC
    clear hC
    go_upto_region 5 with fail
    refine wp_region_three 0 19 [some 31, some 32, some 33, some 34, some 35, some 36, some 37, some 38, some 39, some 40, some 41, some 42, some 43, some 44, some 45, some 46, some 47, some 48, some 49] (gAll (ks5 TV ZV))
      (fun _ W => Below B.heap.size B W) (by decide) (by kernel_rfl) (by kernel_rfl) (by kernel_rfl) (by rfl) (by decide) (by rfl) (HB4.out.drew) ?_ ?_ ?_
    · intro j hj hjm b A x W hC hd hr
      have stay : ∀ W', Below W.heap.size W W' → Below B.heap.size B W' := fun W' hb => hC.trans (hb.mono hC.size)
      have KSS := ks5_stab TV ZV
      have hj' : j = 1 ∨ j = 2 ∨ j = 3 ∨ j = 4 ∨ j = 5 ∨ j = 6 ∨ j = 7 ∨ j = 8 ∨ j = 9 ∨ j = 10 ∨ j = 11 ∨ j = 12 ∨ j = 13 ∨ j = 14 ∨ j = 15 ∨ j = 16 ∨ j = 17 ∨ j = 18 := by omega
      rcases hj' with rfl | rfl | rfl | rfl | rfl | rfl | rfl | rfl | rfl | rfl | rfl | rfl | rfl | rfl | rfl | rfl | rfl | rfl
      · have e2 : A.tmps[2]?.getD undef = .pointer (some ⟨gz, 0, none⟩) := hr 2 (by decide)
        refine wpOp_step rfl (fun K' hK => ?_)
        obtain ⟨z0, z1, z2⟩ := HZC.out W hC
        go_simp
        exact hK _ _ ⟨_, rfl, HZV.out, fun _ _ _ h => h, hC⟩
      · refine wpOp_step rfl (fun K' hK => ?_)
        go_simp
        go_at_call 42
        refine (text_lit _ [98, 97, 110] rfl W (by decide)).mono ?_
        rintro e W' ⟨v, rfl, hv, hb⟩
        exact hK _ _ ⟨_, rfl, hv, fun k' _ u h => gAll_below KSS hb k' u h, stay _ hb⟩
      · have d0 : A.tmps[31]?.getD undef = TV := ((hd 0 (by decide)).1 31 rfl).trans (hd 0 (by decide)).2
        have d1 : A.tmps[32]?.getD undef = ZV := ((hd 1 (by decide)).1 32 rfl).trans (hd 1 (by decide)).2
        have d2 : A.tmps[33]?.getD undef = x 2 := (hd 2 (by decide)).1 33 rfl
        have r2 : gTxt (Tb.sp0 [98, 97, 110]) W (x 2) := (hd 2 (by decide)).2
        refine wpOp_step rfl (fun K' hK => ?_)
        go_simp
        go_at_call 27
        refine (steps_ok TV t w1 W HTA.out (HV1.out.trans (hC.mono HV1.out.size)) HTE.out Tb.zeroS _ HZS.out _ (x 2) r2 _ [(1, [14]), (1, [32])] Tb.ex_Ban2).mono ?_
        rintro e W' ⟨v, rfl, hv, hb⟩
        exact hK _ _ ⟨_, rfl, hv, fun k' _ u h => gAll_below KSS hb k' u h, stay _ hb⟩
      · refine wpOp_step rfl (fun K' hK => ?_)
        go_simp
        exact hK _ _ ⟨_, rfl, ⟨W.heap.size, rfl, Blk.new W _ _⟩, fun k' _ u h => gAll_below KSS (below_alloc W _) k' u h, stay _ (below_alloc W _)⟩
      · refine wpOp_step rfl (fun K' hK => ?_)
        go_simp
        exact hK _ _ ⟨_, rfl, ⟨W.heap.size, rfl, Blk.new W _ _⟩, fun k' _ u h => gAll_below KSS (below_alloc W _) k' u h, stay _ (below_alloc W _)⟩
      · refine wpOp_step rfl (fun K' hK => ?_)
        go_simp
        exact hK _ _ ⟨_, rfl, ⟨W.heap.size, rfl, Blk.new W _ _⟩, fun k' _ u h => gAll_below KSS (below_alloc W _) k' u h, stay _ (below_alloc W _)⟩
      · obtain ⟨g5, hx5, hb5⟩ : gRow 5 [.int .u8 14] W (x 5) := (hd 5 (by decide)).2
        have d5 : A.tmps[36]?.getD undef = .slice (some ⟨g5, 0, none⟩) 1 1 := ((hd 5 (by decide)).1 36 rfl).trans hx5
        obtain ⟨g6, hx6, hb6⟩ : gRow 5 [.int .u8 32] W (x 6) := (hd 6 (by decide)).2
        have d6 : A.tmps[37]?.getD undef = .slice (some ⟨g6, 0, none⟩) 1 1 := ((hd 6 (by decide)).1 37 rfl).trans hx6
        refine wpOp_step rfl (fun K' hK => ?_)
        go_simp
        exact hK _ _ ⟨_, rfl, ⟨_, [⟨[14], some ⟨g5, 0, none⟩, 1⟩, ⟨[32], some ⟨g6, 0, none⟩, 1⟩], rfl, cls_new W [⟨[14], some ⟨g5, 0, none⟩, 1⟩, ⟨[32], some ⟨g6, 0, none⟩, 1⟩] (by
          intro b hb
          simp only [List.mem_cons, List.not_mem_nil, or_false] at hb
          rcases hb with rfl | rfl
          · exact bs_row W g5 [14] hb5 (by decide)
          · exact bs_row W g6 [32] hb6 (by decide)), rfl⟩, fun k' _ u h => gAll_below KSS (below_alloc W _) k' u h, stay _ (below_alloc W _)⟩
      · have d3 : A.tmps[34]?.getD undef = x 3 := (hd 3 (by decide)).1 34 rfl
        have r3 : gStp [(1, [14]), (1, [32])] W (x 3) := (hd 3 (by decide)).2
        have d4 : A.tmps[35]?.getD undef = x 4 := (hd 4 (by decide)).1 35 rfl
        have r4 : gRow 3 [.int .i64 1, .int .i64 1] W (x 4) := (hd 4 (by decide)).2
        have d7 : A.tmps[38]?.getD undef = x 7 := (hd 7 (by decide)).1 38 rfl
        have r7 : gCls [[14], [32]] W (x 7) := (hd 7 (by decide)).2
        refine wpOp_step rfl (fun K' hK => ?_)
        go_simp
        go_at_call 41
        refine (are_ok [(1, [14]), (1, [32])] (x 3) (x 4) (x 7) W r3 r4 r7).mono ?_
        rintro e W' ⟨rfl, hb⟩
        exact hK _ _ ⟨_, rfl, rfl, fun k' _ u h => gAll_below KSS hb k' u h, stay _ hb⟩
      · have d8 : A.tmps[39]?.getD undef = .bool true := ((hd 8 (by decide)).1 39 rfl).trans (hd 8 (by decide)).2
        refine wpOp_step rfl (fun K' hK => ?_)
        go_simp
        exact hK _ _ ⟨_, rfl, rfl, fun _ _ _ h => h, hC⟩
      · have e1 : A.tmps[1]?.getD undef = .pointer (some ⟨gt, 0, none⟩) := hr 1 (by decide)
        have d9 : A.tmps[40]?.getD undef = .bool true := ((hd 9 (by decide)).1 40 rfl).trans (hd 9 (by decide)).2
        refine wpOp_step rfl (fun K' hK => ?_)
        rw [if_pos (wanted_of 9 40 true rfl rfl d9)]
        obtain ⟨t0, t1, t2, t3, t4, t5, t6⟩ := HTC.out W hC
        go_simp
        exact hK _ _ ⟨_, rfl, HTV.out, fun _ _ _ h => h, hC⟩
      · have e2 : A.tmps[2]?.getD undef = .pointer (some ⟨gz, 0, none⟩) := hr 2 (by decide)
        have d9 : A.tmps[40]?.getD undef = .bool true := ((hd 9 (by decide)).1 40 rfl).trans (hd 9 (by decide)).2
        refine wpOp_step rfl (fun K' hK => ?_)
        rw [if_pos (wanted_of 9 40 true rfl rfl d9)]
        obtain ⟨z0, z1, z2⟩ := HZC.out W hC
        go_simp
        exact hK _ _ ⟨_, rfl, HZV.out, fun _ _ _ h => h, hC⟩
      · have d9 : A.tmps[40]?.getD undef = .bool true := ((hd 9 (by decide)).1 40 rfl).trans (hd 9 (by decide)).2
        refine wpOp_step rfl (fun K' hK => ?_)
        rw [if_pos (wanted_of 9 40 true rfl rfl d9)]
        go_simp
        go_at_call 42
        refine (text_lit _ [55, 46] rfl W (by decide)).mono ?_
        rintro e W' ⟨v, rfl, hv, hb⟩
        exact hK _ _ ⟨_, rfl, hv, fun k' _ u h => gAll_below KSS hb k' u h, stay _ hb⟩
      · have d10 : A.tmps[41]?.getD undef = TV := ((hd 10 (by decide)).1 41 rfl).trans (hd 10 (by decide)).2
        have d11 : A.tmps[42]?.getD undef = ZV := ((hd 11 (by decide)).1 42 rfl).trans (hd 11 (by decide)).2
        have d12 : A.tmps[43]?.getD undef = x 12 := (hd 12 (by decide)).1 43 rfl
        have r12 : gTxt (Tb.sp0 [55, 46]) W (x 12) := (hd 12 (by decide)).2
        have d9 : A.tmps[40]?.getD undef = .bool true := ((hd 9 (by decide)).1 40 rfl).trans (hd 9 (by decide)).2
        refine wpOp_step rfl (fun K' hK => ?_)
        rw [if_pos (wanted_of 9 40 true rfl rfl d9)]
        go_simp
        go_at_call 27
        refine (steps_ok TV t w1 W HTA.out (HV1.out.trans (hC.mono HV1.out.size)) HTE.out Tb.zeroS _ HZS.out _ (x 12) r12 _ [(1, [61, 48])] Tb.ex_Seven).mono ?_
        rintro e W' ⟨v, rfl, hv, hb⟩
        exact hK _ _ ⟨_, rfl, hv, fun k' _ u h => gAll_below KSS hb k' u h, stay _ hb⟩
      · have d9 : A.tmps[40]?.getD undef = .bool true := ((hd 9 (by decide)).1 40 rfl).trans (hd 9 (by decide)).2
        refine wpOp_step rfl (fun K' hK => ?_)
        rw [if_pos (wanted_of 9 40 true rfl rfl d9)]
        go_simp
        exact hK _ _ ⟨_, rfl, ⟨W.heap.size, rfl, Blk.new W _ _⟩, fun k' _ u h => gAll_below KSS (below_alloc W _) k' u h, stay _ (below_alloc W _)⟩
      · have d9 : A.tmps[40]?.getD undef = .bool true := ((hd 9 (by decide)).1 40 rfl).trans (hd 9 (by decide)).2
        refine wpOp_step rfl (fun K' hK => ?_)
        rw [if_pos (wanted_of 9 40 true rfl rfl d9)]
        go_simp
        exact hK _ _ ⟨_, rfl, ⟨W.heap.size, rfl, Blk.new W _ _⟩, fun k' _ u h => gAll_below KSS (below_alloc W _) k' u h, stay _ (below_alloc W _)⟩
      · obtain ⟨g15, hx15, hb15⟩ : gRow 5 [.int .u8 61, .int .u8 48] W (x 15) := (hd 15 (by decide)).2
        have d15 : A.tmps[46]?.getD undef = .slice (some ⟨g15, 0, none⟩) 2 2 := ((hd 15 (by decide)).1 46 rfl).trans hx15
        have d9 : A.tmps[40]?.getD undef = .bool true := ((hd 9 (by decide)).1 40 rfl).trans (hd 9 (by decide)).2
        refine wpOp_step rfl (fun K' hK => ?_)
        rw [if_pos (wanted_of 9 40 true rfl rfl d9)]
        go_simp
        exact hK _ _ ⟨_, rfl, ⟨_, [⟨[61, 48], some ⟨g15, 0, none⟩, 2⟩], rfl, cls_new W [⟨[61, 48], some ⟨g15, 0, none⟩, 2⟩] (by
          intro b hb
          simp only [List.mem_cons, List.not_mem_nil, or_false] at hb
          rcases hb with rfl
          · exact bs_row W g15 [61, 48] hb15 (by decide)), rfl⟩, fun k' _ u h => gAll_below KSS (below_alloc W _) k' u h, stay _ (below_alloc W _)⟩
      · have d13 : A.tmps[44]?.getD undef = x 13 := (hd 13 (by decide)).1 44 rfl
        have r13 : gStp [(1, [61, 48])] W (x 13) := (hd 13 (by decide)).2
        have d14 : A.tmps[45]?.getD undef = x 14 := (hd 14 (by decide)).1 45 rfl
        have r14 : gRow 3 [.int .i64 1] W (x 14) := (hd 14 (by decide)).2
        have d16 : A.tmps[47]?.getD undef = x 16 := (hd 16 (by decide)).1 47 rfl
        have r16 : gCls [[61, 48]] W (x 16) := (hd 16 (by decide)).2
        have d9 : A.tmps[40]?.getD undef = .bool true := ((hd 9 (by decide)).1 40 rfl).trans (hd 9 (by decide)).2
        refine wpOp_step rfl (fun K' hK => ?_)
        rw [if_pos (wanted_of 9 40 true rfl rfl d9)]
        go_simp
        go_at_call 41
        refine (are_ok [(1, [61, 48])] (x 13) (x 14) (x 16) W r13 r14 r16).mono ?_
        rintro e W' ⟨rfl, hb⟩
        exact hK _ _ ⟨_, rfl, rfl, fun k' _ u h => gAll_below KSS hb k' u h, stay _ hb⟩
      · have d9 : A.tmps[40]?.getD undef = .bool true := ((hd 9 (by decide)).1 40 rfl).trans (hd 9 (by decide)).2
        have d17 : A.tmps[48]?.getD undef = .bool true := ((hd 17 (by decide)).1 48 rfl).trans (hd 17 (by decide)).2
        refine wpOp_step rfl (fun K' hK => ?_)
        go_simp
        exact hK _ _ ⟨_, rfl, rfl, fun _ _ _ h => h, hC⟩
    · intro A x W hC hd hr
      have stay : ∀ W', Below W.heap.size W W' → Below B.heap.size B W' := fun W' hb => hC.trans (hb.mono hC.size)
      have KSS := ks5_stab TV ZV
      have e1 : A.tmps[1]?.getD undef = .pointer (some ⟨gt, 0, none⟩) := hr 1 (by decide)
      refine wpOp_step rfl (fun K' hK => ?_)
      obtain ⟨t0, t1, t2, t3, t4, t5, t6⟩ := HTC.out W hC
      go_simp
      exact hK _ _ ⟨_, rfl, HTV.out, fun _ _ _ h => h, hC⟩
    · intro x W hC hR
      have hxp : x 18 = .bool true := hR 18 (by decide)
      refine wpOp_step rfl (fun K' hK => ?_)
      simp only [putL, Act.put, Nat.zero_add, Nat.reduceAdd, List.setIfInBounds_toArray, List.set_cons_succ, List.set_cons_zero]
      rw [hxp]
      generalize x 0 = y5_0
      generalize x 1 = y5_1
      generalize x 2 = y5_2
      generalize x 3 = y5_3
      generalize x 4 = y5_4
      generalize x 5 = y5_5
      generalize x 6 = y5_6
      generalize x 7 = y5_7
      generalize x 8 = y5_8
      generalize x 9 = y5_9
      generalize x 10 = y5_10
      generalize x 11 = y5_11
      generalize x 12 = y5_12
      generalize x 13 = y5_13
      generalize x 14 = y5_14
      generalize x 15 = y5_15
      generalize x 16 = y5_16
      generalize x 17 = y5_17
      go_simp
      refine hK _ _ ?_
      clear hK K' hxp hR
      have HB5 := hide hC
      clear hC
      go_upto_region 6 with fail
      refine wp_region_three 0 18 [some 50, some 51, some 52, some 53, some 54, some 55, some 56, some 57, some 58, some 59, some 60, some 61, some 62, some 63, some 64, some 65, some 66, some 67] (gAll (ks6 TV YV))
        (fun _ W => Below B.heap.size B W) (by decide) (by kernel_rfl) (by kernel_rfl) (by kernel_rfl) (by rfl) (by decide) (by rfl) (HB5.out.drew) ?_ ?_ ?_
      · intro j hj hjm b A x W hC hd hr
        have stay : ∀ W', Below W.heap.size W W' → Below B.heap.size B W' := fun W' hb => hC.trans (hb.mono hC.size)
        have KSS := ks6_stab TV YV
        have hj' : j = 1 ∨ j = 2 ∨ j = 3 ∨ j = 4 ∨ j = 5 ∨ j = 6 ∨ j = 7 ∨ j = 8 ∨ j = 9 ∨ j = 10 ∨ j = 11 ∨ j = 12 ∨ j = 13 ∨ j = 14 ∨ j = 15 ∨ j = 16 ∨ j = 17 := by omega
        rcases hj' with rfl | rfl | rfl | rfl | rfl | rfl | rfl | rfl | rfl | rfl | rfl | rfl | rfl | rfl | rfl | rfl | rfl
        · have e3 : A.tmps[3]?.getD undef = .pointer (some ⟨gy, 0, none⟩) := hr 3 (by decide)
          refine wpOp_step rfl (fun K' hK => ?_)
          obtain ⟨z0, z1, z2⟩ := HYC.out W hC
          go_simp
          exact hK _ _ ⟨_, rfl, HYV.out, fun _ _ _ h => h, hC⟩
        · refine wpOp_step rfl (fun K' hK => ?_)
          go_simp
          go_at_call 42
          refine (text_lit _ [55, 97] rfl W (by decide)).mono ?_
          rintro e W' ⟨v, rfl, hv, hb⟩
          exact hK _ _ ⟨_, rfl, hv, fun k' _ u h => gAll_below KSS hb k' u h, stay _ hb⟩
        · have d0 : A.tmps[50]?.getD undef = TV := ((hd 0 (by decide)).1 50 rfl).trans (hd 0 (by decide)).2
          have d1 : A.tmps[51]?.getD undef = YV := ((hd 1 (by decide)).1 51 rfl).trans (hd 1 (by decide)).2
          have d2 : A.tmps[52]?.getD undef = x 2 := (hd 2 (by decide)).1 52 rfl
          have r2 : gTxt (Tb.sp0 [55, 97]) W (x 2) := (hd 2 (by decide)).2
          refine wpOp_step rfl (fun K' hK => ?_)
          go_simp
          go_at_call 27
          refine (steps_ok TV t w1 W HTA.out (HV1.out.trans (hC.mono HV1.out.size)) HTE.out Tb.numS _ HYS.out _ (x 2) r2 _ [(1, [62, 1])] Tb.ex_SevenA).mono ?_
          rintro e W' ⟨v, rfl, hv, hb⟩
          exact hK _ _ ⟨_, rfl, hv, fun k' _ u h => gAll_below KSS hb k' u h, stay _ hb⟩
        · refine wpOp_step rfl (fun K' hK => ?_)
          go_simp
          exact hK _ _ ⟨_, rfl, ⟨W.heap.size, rfl, Blk.new W _ _⟩, fun k' _ u h => gAll_below KSS (below_alloc W _) k' u h, stay _ (below_alloc W _)⟩
        · refine wpOp_step rfl (fun K' hK => ?_)
          go_simp
          exact hK _ _ ⟨_, rfl, ⟨W.heap.size, rfl, Blk.new W _ _⟩, fun k' _ u h => gAll_below KSS (below_alloc W _) k' u h, stay _ (below_alloc W _)⟩
        · obtain ⟨g5, hx5, hb5⟩ : gRow 5 [.int .u8 62, .int .u8 1] W (x 5) := (hd 5 (by decide)).2
          have d5 : A.tmps[55]?.getD undef = .slice (some ⟨g5, 0, none⟩) 2 2 := ((hd 5 (by decide)).1 55 rfl).trans hx5
          refine wpOp_step rfl (fun K' hK => ?_)
          go_simp
          exact hK _ _ ⟨_, rfl, ⟨_, [⟨[62, 1], some ⟨g5, 0, none⟩, 2⟩], rfl, cls_new W [⟨[62, 1], some ⟨g5, 0, none⟩, 2⟩] (by
            intro b hb
            simp only [List.mem_cons, List.not_mem_nil, or_false] at hb
            rcases hb with rfl
            · exact bs_row W g5 [62, 1] hb5 (by decide)), rfl⟩, fun k' _ u h => gAll_below KSS (below_alloc W _) k' u h, stay _ (below_alloc W _)⟩
        · have d3 : A.tmps[53]?.getD undef = x 3 := (hd 3 (by decide)).1 53 rfl
          have r3 : gStp [(1, [62, 1])] W (x 3) := (hd 3 (by decide)).2
          have d4 : A.tmps[54]?.getD undef = x 4 := (hd 4 (by decide)).1 54 rfl
          have r4 : gRow 3 [.int .i64 1] W (x 4) := (hd 4 (by decide)).2
          have d6 : A.tmps[56]?.getD undef = x 6 := (hd 6 (by decide)).1 56 rfl
          have r6 : gCls [[62, 1]] W (x 6) := (hd 6 (by decide)).2
          refine wpOp_step rfl (fun K' hK => ?_)
          go_simp
          go_at_call 41
          refine (are_ok [(1, [62, 1])] (x 3) (x 4) (x 6) W r3 r4 r6).mono ?_
          rintro e W' ⟨rfl, hb⟩
          exact hK _ _ ⟨_, rfl, rfl, fun k' _ u h => gAll_below KSS hb k' u h, stay _ hb⟩
        · have d7 : A.tmps[57]?.getD undef = .bool true := ((hd 7 (by decide)).1 57 rfl).trans (hd 7 (by decide)).2
          refine wpOp_step rfl (fun K' hK => ?_)
          go_simp
          exact hK _ _ ⟨_, rfl, rfl, fun _ _ _ h => h, hC⟩
        · have e1 : A.tmps[1]?.getD undef = .pointer (some ⟨gt, 0, none⟩) := hr 1 (by decide)
          have d8 : A.tmps[58]?.getD undef = .bool true := ((hd 8 (by decide)).1 58 rfl).trans (hd 8 (by decide)).2
          refine wpOp_step rfl (fun K' hK => ?_)
          rw [if_pos (wanted_of 8 58 true rfl rfl d8)]
          obtain ⟨t0, t1, t2, t3, t4, t5, t6⟩ := HTC.out W hC
          go_simp
          exact hK _ _ ⟨_, rfl, HTV.out, fun _ _ _ h => h, hC⟩
        · have e3 : A.tmps[3]?.getD undef = .pointer (some ⟨gy, 0, none⟩) := hr 3 (by decide)
          have d8 : A.tmps[58]?.getD undef = .bool true := ((hd 8 (by decide)).1 58 rfl).trans (hd 8 (by decide)).2
          refine wpOp_step rfl (fun K' hK => ?_)
          rw [if_pos (wanted_of 8 58 true rfl rfl d8)]
          obtain ⟨z0, z1, z2⟩ := HYC.out W hC
          go_simp
          exact hK _ _ ⟨_, rfl, HYV.out, fun _ _ _ h => h, hC⟩
        · have d8 : A.tmps[58]?.getD undef = .bool true := ((hd 8 (by decide)).1 58 rfl).trans (hd 8 (by decide)).2
          refine wpOp_step rfl (fun K' hK => ?_)
          rw [if_pos (wanted_of 8 58 true rfl rfl d8)]
          go_simp
          go_at_call 42
          refine (text_lit _ [55, 46] rfl W (by decide)).mono ?_
          rintro e W' ⟨v, rfl, hv, hb⟩
          exact hK _ _ ⟨_, rfl, hv, fun k' _ u h => gAll_below KSS hb k' u h, stay _ hb⟩
        · have d9 : A.tmps[59]?.getD undef = TV := ((hd 9 (by decide)).1 59 rfl).trans (hd 9 (by decide)).2
          have d10 : A.tmps[60]?.getD undef = YV := ((hd 10 (by decide)).1 60 rfl).trans (hd 10 (by decide)).2
          have d11 : A.tmps[61]?.getD undef = x 11 := (hd 11 (by decide)).1 61 rfl
          have r11 : gTxt (Tb.sp0 [55, 46]) W (x 11) := (hd 11 (by decide)).2
          have d8 : A.tmps[58]?.getD undef = .bool true := ((hd 8 (by decide)).1 58 rfl).trans (hd 8 (by decide)).2
          refine wpOp_step rfl (fun K' hK => ?_)
          rw [if_pos (wanted_of 8 58 true rfl rfl d8)]
          go_simp
          go_at_call 27
          refine (steps_ok TV t w1 W HTA.out (HV1.out.trans (hC.mono HV1.out.size)) HTE.out Tb.numS _ HYS.out _ (x 11) r11 _ [(1, [33])] Tb.ex_SevenDot).mono ?_
          rintro e W' ⟨v, rfl, hv, hb⟩
          exact hK _ _ ⟨_, rfl, hv, fun k' _ u h => gAll_below KSS hb k' u h, stay _ hb⟩
        · have d8 : A.tmps[58]?.getD undef = .bool true := ((hd 8 (by decide)).1 58 rfl).trans (hd 8 (by decide)).2
          refine wpOp_step rfl (fun K' hK => ?_)
          rw [if_pos (wanted_of 8 58 true rfl rfl d8)]
          go_simp
          exact hK _ _ ⟨_, rfl, ⟨W.heap.size, rfl, Blk.new W _ _⟩, fun k' _ u h => gAll_below KSS (below_alloc W _) k' u h, stay _ (below_alloc W _)⟩
        · have d8 : A.tmps[58]?.getD undef = .bool true := ((hd 8 (by decide)).1 58 rfl).trans (hd 8 (by decide)).2
          refine wpOp_step rfl (fun K' hK => ?_)
          rw [if_pos (wanted_of 8 58 true rfl rfl d8)]
          go_simp
          exact hK _ _ ⟨_, rfl, ⟨W.heap.size, rfl, Blk.new W _ _⟩, fun k' _ u h => gAll_below KSS (below_alloc W _) k' u h, stay _ (below_alloc W _)⟩
        · obtain ⟨g14, hx14, hb14⟩ : gRow 5 [.int .u8 33] W (x 14) := (hd 14 (by decide)).2
          have d14 : A.tmps[64]?.getD undef = .slice (some ⟨g14, 0, none⟩) 1 1 := ((hd 14 (by decide)).1 64 rfl).trans hx14
          have d8 : A.tmps[58]?.getD undef = .bool true := ((hd 8 (by decide)).1 58 rfl).trans (hd 8 (by decide)).2
          refine wpOp_step rfl (fun K' hK => ?_)
          rw [if_pos (wanted_of 8 58 true rfl rfl d8)]
          go_simp
          exact hK _ _ ⟨_, rfl, ⟨_, [⟨[33], some ⟨g14, 0, none⟩, 1⟩], rfl, cls_new W [⟨[33], some ⟨g14, 0, none⟩, 1⟩] (by
            intro b hb
            simp only [List.mem_cons, List.not_mem_nil, or_false] at hb
            rcases hb with rfl
            · exact bs_row W g14 [33] hb14 (by decide)), rfl⟩, fun k' _ u h => gAll_below KSS (below_alloc W _) k' u h, stay _ (below_alloc W _)⟩
        · have d12 : A.tmps[62]?.getD undef = x 12 := (hd 12 (by decide)).1 62 rfl
          have r12 : gStp [(1, [33])] W (x 12) := (hd 12 (by decide)).2
          have d13 : A.tmps[63]?.getD undef = x 13 := (hd 13 (by decide)).1 63 rfl
          have r13 : gRow 3 [.int .i64 1] W (x 13) := (hd 13 (by decide)).2
          have d15 : A.tmps[65]?.getD undef = x 15 := (hd 15 (by decide)).1 65 rfl
          have r15 : gCls [[33]] W (x 15) := (hd 15 (by decide)).2
          have d8 : A.tmps[58]?.getD undef = .bool true := ((hd 8 (by decide)).1 58 rfl).trans (hd 8 (by decide)).2
          refine wpOp_step rfl (fun K' hK => ?_)
          rw [if_pos (wanted_of 8 58 true rfl rfl d8)]
          go_simp
          go_at_call 41
          refine (are_ok [(1, [33])] (x 12) (x 13) (x 15) W r12 r13 r15).mono ?_
          rintro e W' ⟨rfl, hb⟩
          exact hK _ _ ⟨_, rfl, rfl, fun k' _ u h => gAll_below KSS hb k' u h, stay _ hb⟩
        · have d8 : A.tmps[58]?.getD undef = .bool true := ((hd 8 (by decide)).1 58 rfl).trans (hd 8 (by decide)).2
          have d16 : A.tmps[66]?.getD undef = .bool true := ((hd 16 (by decide)).1 66 rfl).trans (hd 16 (by decide)).2
          refine wpOp_step rfl (fun K' hK => ?_)
          go_simp
          exact hK _ _ ⟨_, rfl, rfl, fun _ _ _ h => h, hC⟩
      · intro A x W hC hd hr
        have stay : ∀ W', Below W.heap.size W W' → Below B.heap.size B W' := fun W' hb => hC.trans (hb.mono hC.size)
        have KSS := ks6_stab TV YV
        have e1 : A.tmps[1]?.getD undef = .pointer (some ⟨gt, 0, none⟩) := hr 1 (by decide)
        refine wpOp_step rfl (fun K' hK => ?_)
        obtain ⟨t0, t1, t2, t3, t4, t5, t6⟩ := HTC.out W hC
        go_simp
        exact hK _ _ ⟨_, rfl, HTV.out, fun _ _ _ h => h, hC⟩
      · intro x W hC hR
        have hxp : x 17 = .bool true := hR 17 (by decide)
        refine wpOp_step rfl (fun K' hK => ?_)
        simp only [putL, Act.put, Nat.zero_add, Nat.reduceAdd, List.setIfInBounds_toArray, List.set_cons_succ, List.set_cons_zero]
        rw [hxp]
        generalize x 0 = y6_0
        generalize x 1 = y6_1
        generalize x 2 = y6_2
        generalize x 3 = y6_3
        generalize x 4 = y6_4
        generalize x 5 = y6_5
        generalize x 6 = y6_6
        generalize x 7 = y6_7
        generalize x 8 = y6_8
        generalize x 9 = y6_9
        generalize x 10 = y6_10
        generalize x 11 = y6_11
        generalize x 12 = y6_12
        generalize x 13 = y6_13
        generalize x 14 = y6_14
        generalize x 15 = y6_15
        generalize x 16 = y6_16
        go_simp
        refine hK _ _ ?_
        clear hK K' hxp hR
        have HB6 := hide hC
        clear hC
        have hTV := HTV.out
        have hZV := HZV.out
        clear HTV HZV
        subst hTV
        subst hZV
        obtain ⟨t0, t1, t2, t3, t4, t5, t6⟩ := HTC.out W HB6.out
        have CV := hide (show Calls Try.prog 10 #[.agg #[.slice A0 n0 c0, .slice A1 n1 c1, .slice t.dig.ad n2 t.dig.c, .slice t.cap.ad n3 t.cap.c, .slice t.num.ad n4 t.num.c, .slice t.fin.ad n5 t.fin.c, .slice t.sw.ad n6 t.sw.c]] W fun e w' => e = .returned (.int .i64 0) ∧ Below W.heap.size W w' by
          have h := valid_any _ t W ((HTA.out.below (HV1.out.trans (HB6.out.mono HV1.out.size))).more (Nat.le_trans HV1.out.size HB6.out.size))
          rw [HVA.out] at h
          exact h)
        have h00 : ((0 : Int) == 0) = true := rfl
        go_wp2_with (first
          | (go_at_call 10; refine (unhide CV).mono ?_; rintro e w2 ⟨rfl, hb2⟩; have B2 := hide (HB6.out.trans (hb2.mono HB6.out.size)); clear hb2 t0 t1 t2 t3 t4 t5 t6; obtain ⟨t0, t1, t2, t3, t4, t5, t6⟩ := HTC.out w2 B2.out; obtain ⟨z0, z1, z2⟩ := HZC.out w2 B2.out; have B3 := hide (show Below B.heap.size B (w2.alloc (.cells #[.int .i64 1, .int .u8 97] 67)) from B2.out.trans (below_alloc' w2 _ B2.out.size)); have T3 := hide (show gTxt [(1, 97)] (w2.alloc (.cells #[.int .i64 1, .int .u8 97] 67)) (.slice (some ⟨w2.heap.size, 0, none⟩) 1 1) from txt_one w2 (1, 97)))
          | (go_at_call 27; refine (steps_ok _ t w1 _ HTA.out (HV1.out.trans (B3.out.mono HV1.out.size)) HTE.out Tb.zeroS _ HZS.out [(1, 97)] _ T3.out _ [(0, [63])] Tb.ex_Switch).mono ?_; rintro e w4 ⟨v4, rfl, hst, hb4⟩; have B4 := hide (B3.out.trans (hb4.mono B3.out.size)); have CA := hide (are_last v4 w4 hst); clear hb4 hst)
          | (go_at_call 41; refine (unhide CA).mono ?_; rintro e w5 ⟨rfl, hb5⟩; have B5 := hide (B4.out.trans (hb5.mono B4.out.size)); clear hb5))
        go_ret
        exact ⟨rfl, B1.out.trans ((HV1.out.trans (B5.out.mono HV1.out.size)).mono B1.out.size)⟩
end Go.Proofs.Ytbcfndhnopmbbaa
