/-
  The examples of the documentation hold, in every world.
-/
import Derived.Test.YtedgjpoejoepjaaDoorVerify
import Derived.Test.YtedgjpoejoepjaaDoorTab
namespace Go.Proofs.YtedgjpoejoepjaaDoor
open Go.RowKit
set_option linter.unusedVariables false
set_option linter.unusedSimpArgs false

theorem step_quiet_dig {ops : Array Oper} {o : Oper} {a : Act} {C : World → Prop} {K : Act → Prop} {E : Prop} (hw : Region.wanted o (yielded ops a.tmps) = true) (x : Operand) (ho : o.op = .load 23 x)
    (g : Nat) (hx : a.eval x = .pointer (some ⟨g, 0, none⟩)) (d : List UInt8) (hc : ∀ w, C w → Dig w g d) (h : K (a.put o.dst (.agg (BV d).toArray))) :
    if Region.wanted o (yielded ops a.tmps) = true then o.quiet Tryd.prog a C K else E := by
  rw [if_pos hw]
  refine ⟨_, fun w hC => ?_, h⟩
  unfold Oper.quietAt execOp
  simp only [ho, hx, (hc w hC).load, Sem.run_bind, Result.andThen_ok]
  exact ⟨rfl, rfl⟩
theorem exec_neq (d e : List UInt8) (hd : d.length = 16) (he : e.length = 16) (hne : d ≠ e) (o : Oper) (a : Act) (x y : Operand) (r : TypeId) (ho : o.op = .binOp .neq 23 x y r) (hx : a.eval x = .agg (BV d).toArray) (hy : a.eval y = .agg (BV e).toArray) (w : World) :
    (execOp a.eval o).run Tryd.prog w = .ok (.value (.bool true)) w := by
  have hgd := guard16
  have hsame : (Op.equalIn 10000 23 (.agg (BV d).toArray) (.agg (BV e).toArray)).run Tryd.prog w = .ok false w := by
    have := run_same16 d e hd he w
    rwa [show (d == e) = false by simp [hne]] at this
  generalize (BV d).toArray = dd at *
  generalize (BV e).toArray = ee at *
  unfold execOp
  simp only [ho, hx, hy]
  simp only [eqGuard, Go.binOp, Sem.run_bind]
  have h1 : (if (!true) = true then (pure () : Sem Unit)
              else do
                let __do_lift ← program
                let __do_lift_1 ← program
                if (!__do_lift.eqGuardType __do_lift_1.depth 23) = true then pure ()
                  else do
                    let __do_lift ← Op.eqGuardIn Op.maxDepth 23 (Value.agg dd) (Value.agg ee)
                    if __do_lift = true then
                        unsupported
                          (Unsupported.noEntry
                            "binop/eql: two nil values of an interface type with methods, in a part of a struct or an array")
                      else pure ()).run Tryd.prog w = .ok () w := by
    rw [if_neg (by decide)]
    simp only [Sem.run_bind, run_program, Result.andThen_ok, hgd]
    rfl
  rw [h1]
  simp only [Result.andThen_ok]
  have h2 : (Op.equal 23 (Value.agg dd) (Value.agg ee)).run Tryd.prog w = .ok false w := hsame
  rw [h2]
  rfl
theorem step_quiet_neq {ops : Array Oper} {o : Oper} {a : Act} {C : World → Prop} {K : Act → Prop} {E : Prop} (hw : Region.wanted o (yielded ops a.tmps) = true) (x y : Operand) (r : TypeId) (ho : o.op = .binOp .neq 23 x y r)
    (d e : List UInt8) (hx : a.eval x = .agg (BV d).toArray) (hy : a.eval y = .agg (BV e).toArray) (hd : d.length = 16) (he : e.length = 16) (hne : d ≠ e) (h : K (a.put o.dst (.bool true))) :
    if Region.wanted o (yielded ops a.tmps) = true then o.quiet Tryd.prog a C K else E := by
  rw [if_pos hw]
  refine ⟨_, fun w hC => ?_, h⟩
  unfold Oper.quietAt
  rw [exec_neq d e hd he hne o a x y r ho hx hy w]
  exact ⟨rfl, rfl⟩
set_option maxHeartbeats 4000000 in
set_option maxRecDepth 100000 in
theorem sanity_any (w : World) (hK : KLaid w) : Calls Tryd.prog 9 #[] w fun e w' => e = .returned (.bool true) ∧ Below w.heap.size w w' := by
  have HK := hide hK
  have hs32 : Sg.seed5.length = 32 := rfl
  have hpl : (Sg.pub Sg.seed5 1).length = 16 := Sg.node_len _ _ _
  have hsig := Sg.sig_len Sg.seed5 1 1 [109]
  have hel := Wr.enc_le ((1 : Nat) : Int)
  have CSD := hide (fun (W : World) => (show Calls Tryd.prog 20 #[.int .u8 5] W (fun e w' => e = .returned (.string (S Sg.seed5)) ∧ Below W.heap.size W w') from seed_any 5 W))
  have CP := hide (fun (W : World) hK => (show Calls Tryd.prog 12 #[.string (S Sg.seed5), .int .i64 1] W (fun e w' => e = .returned (.tuple #[.agg (BV (Sg.pub Sg.seed5 1)).toArray, .int .i64 0]) ∧ Below W.heap.size W w') from public_ok Sg.seed5 1 W hs32 (by omega) hK))
  have CP0 := hide (fun (W : World) => (show Calls Tryd.prog 12 #[.string (S (Sg.seed5.drop 1)), .int .i64 0] W (fun e w' => e = .returned (.tuple #[.agg (BV Z16).toArray, .int .i64 1]) ∧ Below W.heap.size W w') from public_bad (Sg.seed5.drop 1) 0 W (by decide) (by decide)))
  have CS := hide (fun (W : World) hK => (show Calls Tryd.prog 14 #[.string (S Sg.seed5), .int .i64 1, .int .i64 1, .string { data := #[109] }] W (fun e w' => e = .returned (.tuple #[.string (S (Sg.sig Sg.seed5 1 1 [109])), .int .i64 0]) ∧ Below W.heap.size W w') from sign_ok Sg.seed5 [109] 1 1 W hs32 (by omega) (by decide) (by decide) hK))
  have CS2 := hide (fun (W : World) => (show Calls Tryd.prog 14 #[.string (S Sg.seed5), .int .i64 1, .int .i64 2, .string { data := #[109] }] W (fun e w' => e = .returned (.tuple #[.string (S []), .int .i64 27]) ∧ Below W.heap.size W w') from sign_spent Sg.seed5 [109] 1 2 W hs32 (by omega) (by decide)))
  have hv1 : Sg.ver (Sg.pub Sg.seed5 1) 1 [109] (Sg.sig Sg.seed5 1 1 [109]) = (1, 0) := Sg.ver_sig Sg.seed5 1 1 [109] (by omega) (by decide) (by decide)
  have CV := hide (fun (W : World) hK => (show Calls Tryd.prog 18 #[.agg (BV (Sg.pub Sg.seed5 1)).toArray, .int .i64 1, .string { data := #[109] }, .string (S (Sg.sig Sg.seed5 1 1 [109]))] W (fun e w' => e = .returned (.tuple #[.int .i64 1, .int .i64 0]) ∧ Below W.heap.size W w') from by
    have := verify_any (Sg.pub Sg.seed5 1) [109] (Sg.sig Sg.seed5 1 1 [109]) 1 W hpl (by omega) hK
    rw [hv1] at this
    exact this))
  have CV2 := hide (fun (W : World) hK => (show Calls Tryd.prog 18 #[.agg (BV (Sg.pub Sg.seed5 1)).toArray, .int .i64 1, .string { data := #[110] }, .string (S (Sg.sig Sg.seed5 1 1 [109]))] W (fun e w' => e = .returned (.tuple #[.int .i64 0, .int .i64 10]) ∧ Below W.heap.size W w') from by
    have := verify_any (Sg.pub Sg.seed5 1) [110] (Sg.sig Sg.seed5 1 1 [109]) 1 W hpl (by omega) hK
    rw [Sg.ver_wrong] at this
    exact this))
  have CD := hide (fun (W : World) => digits_any Z16 W rfl)
  have CG1 := hide (fun (W : World) hK => (show Calls Tryd.prog 16 #[.agg (BV (Sg.pub Sg.seed5 1)).toArray, .int .i64 1, .string { data := #[109] }] W (fun e w' => e = .returned (.agg (BV (Sg.digestP (Sg.pub Sg.seed5 1) 1 [109])).toArray) ∧ Below W.heap.size W w') from digest_any (Sg.pub Sg.seed5 1) [109] 1 W hpl (by unfold Wr.inI; omega) (by decide) hK))
  have CG0 := hide (fun (W : World) hK => (show Calls Tryd.prog 16 #[.agg (BV (Sg.pub Sg.seed5 1)).toArray, .int .i64 0, .string { data := #[109] }] W (fun e w' => e = .returned (.agg (BV (Sg.digestP (Sg.pub Sg.seed5 1) 0 [109])).toArray) ∧ Below W.heap.size W w') from digest_any (Sg.pub Sg.seed5 1) [109] 0 W hpl (by unfold Wr.inI; omega) (by decide) hK))
  have hne : Sg.digestP (Sg.pub Sg.seed5 1) 1 [109] ≠ Sg.digestP (Sg.pub Sg.seed5 1) 0 [109] := by rw [Sg.pub_is]; exact Sg.other_ne
  have hg1 : (Sg.digestP (Sg.pub Sg.seed5 1) 1 [109]).length = 16 := Sg.ofB_len _ _
  have hg0 : (Sg.digestP (Sg.pub Sg.seed5 1) 0 [109]).length = 16 := Sg.ofB_len _ _
  have HNE := hide hne
  have hd0 : Sg.dig Z16 0 = 0 := by decide +kernel
  have hd64 : Sg.dig Z16 64 = 3 := by decide +kernel
  have hd67 : Sg.dig Z16 67 = 0 := by decide +kernel
  have hcells : ∀ (W : World) g t, Blk W g t (IV (Sg.digits Z16)).toArray → W.cell? ⟨g, 0, none⟩ = some (.int .i64 0) ∧ W.cell? ⟨g, 64, none⟩ = some (.int .i64 3) ∧ W.cell? ⟨g, 67, none⟩ = some (.int .i64 0) := fun W g t h => by
    refine ⟨?_, ?_, ?_⟩
    · rw [h.cell]; exact IV_get _ _ _ (by rw [Sg.digits_get Z16 0 (by omega), hd0]; rfl)
    · rw [h.cell]; exact IV_get _ _ _ (by rw [Sg.digits_get Z16 64 (by omega), hd64]; rfl)
    · rw [h.cell]; exact IV_get _ _ _ (by rw [Sg.digits_get Z16 67 (by omega), hd67]; rfl)
  have HCE := hide hcells
  have hext : (S Sg.seed5).extract 1 32 = S (Sg.seed5.drop 1) := S_drop Sg.seed5 1
  have hsz5 : (S Sg.seed5).size = 32 := rfl
  generalize Sg.digestP (Sg.pub Sg.seed5 1) 1 [109] = G1 at *
  generalize Sg.digestP (Sg.pub Sg.seed5 1) 0 [109] = G0 at *
  generalize Sg.sig Sg.seed5 1 1 [109] = SIG at *
  generalize Sg.pub Sg.seed5 1 = P at *
  generalize Sg.seed5.drop 1 = SD1 at *
  generalize Sg.seed5 = SD at *
  generalize Sg.digits Z16 = DZ at *
  have HG1 := hide hg1
  have HG0 := hide hg0
  have hz16 : Z16.length = 16 := rfl
  have hzs := zero16
  clear hK hsig hel hv1 hne hg1 hg0 hd0 hd64 hd67 hcells hs32
  go_enter Tryd.func9, Tryd.ntmps9
  go_upto_region 3 with (first
    | (go_at_call 20; refine (CSD.out w).mono ?_; rintro e w1 ⟨rfl, hb1⟩; have B1 := hide hb1; clear hb1)
    | (go_at_call 12; refine (unhide CP w1 (HK.out.below B1.out (Nat.le_refl _))).mono ?_; rintro e w2 ⟨rfl, hb2⟩; have B2 := hide (B1.out.trans (hb2.mono B1.out.size)); clear hb2)
    | ((with_reducible refine wpList_store_dig rfl (.tmp 2) (.tmp 19) rfl w2.heap.size Z16 P rfl rfl (Dig.new w2 Z16 rfl) hpl ?_); intro V hV))
  have D2 := hide ((Dig.new w2 Z16 rfl).put hpl hV)
  have HV := hide (B2.out.trans (Below.mono (below_row (below_alloc w2 _) (Nat.le_refl _) hV) B2.out.size))
  have hl2 := D2.out.2.lt
  have hws := B2.out.size
  clear hV
  go_upto_region 4 with (go_at_call 14; refine (unhide CS V (HK.out.below HV.out (Nat.le_refl _))).mono ?_; rintro e x1 ⟨rfl, hb1⟩; have X1 := hide hb1; clear hb1)
  have D3 := hide (D2.out.below X1.out hl2)
  have hl3 := D3.out.2.lt
  have H1 := hide (HV.out.trans (X1.out.mono HV.out.size))
  go_upto_region 5 with (first
    | (with_reducible refine wpList_load_dig rfl (.tmp 2) rfl w2.heap.size rfl P D3.out ?_)
    | (go_at_call 18; refine (unhide CV x1 (HK.out.below H1.out (Nat.le_refl _))).mono ?_; rintro e x2 ⟨rfl, hb2⟩; have X2 := hide hb2; clear hb2))
  have D4 := hide (D3.out.below X2.out hl3)
  have hl4 := D4.out.2.lt
  have H2 := hide (H1.out.trans (X2.out.mono H1.out.size))
  go_upto_region 6 with (first
    | (with_reducible refine wpList_load_dig rfl (.tmp 2) rfl w2.heap.size rfl P D4.out ?_)
    | (go_at_call 18; refine (unhide CV2 x2 (HK.out.below H2.out (Nat.le_refl _))).mono ?_; rintro e x3 ⟨rfl, hb3⟩; have X3 := hide hb3; clear hb3))
  have D5 := hide (D4.out.below X3.out hl4)
  have hl5 := D5.out.2.lt
  have H3 := hide (H2.out.trans (X3.out.mono H2.out.size))
  go_upto_region 7 with (go_at_call 14; refine (unhide CS2 x3).mono ?_; rintro e x4 ⟨rfl, hb4⟩; have X4 := hide hb4; clear hb4)
  have D6 := hide (D5.out.below X4.out hl5)
  have hl6 := D6.out.2.lt
  have H4 := hide (H3.out.trans (X4.out.mono H3.out.size))
  clear D2 D3 D4 D5 CS CV CV2 CS2
  go_upto_region 8 with (first
    | (go_at_call 12; refine (unhide CP0 x4).mono ?_; rintro e x5 ⟨rfl, hb5⟩; have X5 := hide hb5; clear hb5)
    | ((with_reducible refine wpList_store_dig rfl (.tmp 12) (.tmp 47) rfl x5.heap.size Z16 Z16 rfl rfl (Dig.new x5 Z16 hz16) hz16 ?_); intro Y hY))
  have XY := hide (X5.out.trans (Below.mono (below_row (below_alloc x5 _) (Nat.le_refl _) hY) X5.out.size))
  have D7 := hide (D6.out.below XY.out hl6)
  have hl7 := D7.out.2.lt
  have H5 := hide (H4.out.trans (XY.out.mono H4.out.size))
  clear hY D6
  go_upto_region 9 with (first
    | (with_reducible refine wpList_build_dig rfl rfl (some 49) rfl ?_)
    | (go_at_call 10; refine (CD.out Y).mono ?_; rintro e x6 ⟨rfl, hdg, hb6⟩; have X6 := hide hb6; have GD := hide hdg; clear hb6 hdg))
  have D8 := hide (D7.out.below X6.out hl7)
  have hl8 := D8.out.2.lt
  have H6 := hide (H5.out.trans (X6.out.mono H5.out.size))
  have hgd6 := GD.out.lt
  clear D7
  go_upto_region 11 with fail
  obtain ⟨gd, hgd'⟩ : ∃ gd, Y.heap.size + 1 = gd := ⟨_, rfl⟩
  have GD2 := hide (show Blk x6 gd 43 (IV DZ).toArray from hgd' ▸ GD.out)
  rw [hgd']
  clear hgd' GD hgd6
  have W0 := Below.refl x6.heap.size x6
  have hgd6 := GD2.out.lt
  have HKV := hide (fun (W' : World) (hb : Below x6.heap.size x6 W') => HK.out.below (H6.out.trans (hb.mono H6.out.size)) (Nat.le_refl _))
  have HCC := hide (fun (W' : World) (hb : Below x6.heap.size x6 W') => HCE.out W' gd _ (GD2.out.below hb hgd6))
  have HDD := hide (fun (W' : World) (hb : Below x6.heap.size x6 W') => D8.out.below hb hl8)
  refine wp_region_below (by kernel_rfl) (by kernel_rfl) ?_
  repeat (refine wpQuiet_step (fun K hK => ?_); first
    | (refine step_quiet_dig ?_ (.tmp 2) rfl w2.heap.size rfl P (unhide HDD) ?_; (rfl); refine hK _ ?_; clear hK K)
    | (refine step_quiet_neq ?_ (.tmp 100) (.tmp 102) 23 rfl G1 G0 rfl rfl HG1.out HG0.out HNE.out ?_; (rfl); refine hK _ ?_; clear hK K)
    | (go_simp; first
      | (refine hK _ ?_; clear hK K)
      | (refine ⟨_, fun wq hq => rfl, hK _ ?_⟩; clear hK K)
      | (refine ⟨.int .i64 0, fun wq hq => ?_, ?_⟩; (rw [(unhide HCC wq hq).1]; exact ⟨rfl, rfl⟩); refine hK _ ?_; clear hK K)
      | (refine ⟨.int .i64 3, fun wq hq => ?_, ?_⟩; (rw [(unhide HCC wq hq).2.1]; exact ⟨rfl, rfl⟩); refine hK _ ?_; clear hK K)
      | (refine ⟨.int .i64 0, fun wq hq => ?_, ?_⟩; (rw [(unhide HCC wq hq).2.2]; exact ⟨rfl, rfl⟩); refine hK _ ?_; clear hK K)
      | ((with_reducible refine ⟨.agg (BV G1).toArray, fun wq hq => (unhide CG1 wq (unhide HKV _ hq)).mono fun e w' h => And.intro h.1 (hq.trans (h.2.mono hq.size)), ?_⟩); refine hK _ ?_; clear hK K)
      | ((with_reducible refine ⟨.agg (BV G0).toArray, fun wq hq => (unhide CG0 wq (unhide HKV _ hq)).mono fun e w' h => And.intro h.1 (hq.trans (h.2.mono hq.size)), ?_⟩); refine hK _ ?_; clear hK K)))
  refine wpQuiet_nil ?_
  intro w' hw'
  go_wp2
  go_ret
  exact ⟨rfl, H6.out.trans (hw'.mono H6.out.size)⟩
end Go.Proofs.YtedgjpoejoepjaaDoor
