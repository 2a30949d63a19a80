/-
  SignMakesAsSpecified, walked.
-/
import Derived.Test.YtedgjpoejoepjaaDoorRefSign
import Derived.Test.YtedgjpoejoepjaaDoorSane
namespace Go.Proofs.YtedgjpoejoepjaaDoor
open Go.RowKit
set_option linter.unusedVariables false
set_option linter.unusedSimpArgs false

theorem publicR_any (s : List UInt8) (h : Int) (w : World) (hs : s.length ≤ 281474976710656) (hK : KLaid w) :
    Calls Tryd.prog 12 #[.string (S s), .int .i64 h] w fun e w' => e = .returned (.tuple #[.agg (BV (Sg.pubR s h).1).toArray, .int .i64 (Sg.pubR s h).2]) ∧ Below w.heap.size w w' := by
  by_cases hf : s.length = 32 ∧ 0 ≤ h ∧ h ≤ 6
  · have HR : Sg.pubR s h = (Sg.pub s h.toNat, 0) := by unfold Sg.pubR; rw [if_pos hf]
    rw [HR]
    have := public_ok s h.toNat w hf.1 (by omega) hK
    rwa [show ((h.toNat : Nat) : Int) = h by omega] at this
  · have HR : Sg.pubR s h = (Z16, 1) := by unfold Sg.pubR; rw [if_neg hf]
    rw [HR]
    exact public_bad s h w hs hf
theorem signR_any (s m : List UInt8) (h i : Int) (w : World) (hs : s.length ≤ 281474976710656) (hm : m.length ≤ 1048576) (hK : KLaid w) :
    Calls Tryd.prog 14 #[.string (S s), .int .i64 h, .int .i64 i, .string (S m)] w fun e w' => e = .returned (.tuple #[.string (S (Sg.sigR s h i m).1), .int .i64 (Sg.sigR s h i m).2]) ∧ Below w.heap.size w w' := by
  by_cases hf : s.length = 32 ∧ 0 ≤ h ∧ h ≤ 6
  · obtain ⟨n, rfl⟩ : ∃ n : Nat, h = n := ⟨h.toNat, by omega⟩
    by_cases hi : 0 ≤ i ∧ i < ((2 ^ n : Nat) : Int)
    · obtain ⟨k, rfl⟩ : ∃ k : Nat, i = k := ⟨i.toNat, by omega⟩
      have HR : Sg.sigR s (n : Int) (k : Int) m = (Sg.sig s n k m, 0) := by unfold Sg.sigR; rw [if_neg (not_not_intro hf), Int.toNat_natCast, if_neg (not_not_intro hi), if_neg (by omega)]; rfl
      rw [HR]
      exact sign_ok s m n k w hf.1 (by omega) (by omega) hm hK
    · have HR : Sg.sigR s (n : Int) i m = ([], 27) := by unfold Sg.sigR; rw [if_neg (not_not_intro hf), Int.toNat_natCast, if_pos hi]
      rw [HR]
      exact sign_spent s m n i w hf.1 (by omega) hi
  · have HR : Sg.sigR s h i m = ([], 1) := by unfold Sg.sigR; rw [if_pos hf]
    rw [HR]
    exact sign_arg s m h i w hs hf
theorem refSignR_any (s m : List UInt8) (h i : Int) (w : World) (hm : m.length ≤ 1048576) (hK : RKLaid w) :
    Calls Tryd.prog 15 #[.string (S s), .int .i64 h, .int .i64 i, .string (S m)] w fun e w' => e = .returned (.tuple #[.string (S (Sg.sigR s h i m).1), .int .i64 (Sg.sigR s h i m).2]) ∧ Below w.heap.size w w' := by
  by_cases hf : s.length = 32 ∧ 0 ≤ h ∧ h ≤ 6
  · obtain ⟨n, rfl⟩ : ∃ n : Nat, h = n := ⟨h.toNat, by omega⟩
    by_cases hi : 0 ≤ i ∧ i < ((2 ^ n : Nat) : Int)
    · obtain ⟨k, rfl⟩ : ∃ k : Nat, i = k := ⟨i.toNat, by omega⟩
      have HR : Sg.sigR s (n : Int) (k : Int) m = (Sg.sig s n k m, 0) := by unfold Sg.sigR; rw [if_neg (not_not_intro hf), Int.toNat_natCast, if_neg (not_not_intro hi), if_neg (by omega)]; rfl
      rw [HR]
      exact refSign_ok s m n k w hf.1 (by omega) (by omega) hm hK
    · have HR : Sg.sigR s (n : Int) i m = ([], 27) := by unfold Sg.sigR; rw [if_neg (not_not_intro hf), Int.toNat_natCast, if_pos hi]
      rw [HR]
      exact refSign_spent s m n i w hf.1 (by omega) hi
  · have HR : Sg.sigR s h i m = ([], 1) := by unfold Sg.sigR; rw [if_pos hf]
    rw [HR]
    exact refSign_arg s m h i w hf

theorem exec_eql (d : List UInt8) (hd : d.length = 16) (o : Oper) (a : Act) (x y : Operand) (r : TypeId) (ho : o.op = .binOp .eql 23 x y r) (hx : a.eval x = .agg (BV d).toArray) (hy : a.eval y = .agg (BV d).toArray) (w : World) :
    (execOp a.eval o).run Tryd.prog w = .ok (.value (.bool true)) w := by
  have hgd := guard16
  have hsame : (Op.equalIn 10000 23 (.agg (BV d).toArray) (.agg (BV d).toArray)).run Tryd.prog w = .ok true w := by
    have := run_same16 d d hd hd w
    rwa [beq_self_eq_true] at this
  generalize (BV d).toArray = dd at *
  unfold execOp
  simp only [ho, hx, hy]
  simp only [eqGuard, Go.binOp, Sem.run_bind]
  have h1 : (if (!true) = true then (pure () : Sem Unit)
              else do
                let __do_lift ← program
                let __do_lift_1 ← program
                if (!__do_lift.eqGuardType __do_lift_1.depth 23) = true then pure ()
                  else do
                    let __do_lift ← Op.eqGuardIn Op.maxDepth 23 (Value.agg dd) (Value.agg dd)
                    if __do_lift = true then
                        unsupported
                          (Unsupported.noEntry
                            "binop/eql: two nil values of an interface type with methods, in a part of a struct or an array")
                      else pure ()).run Tryd.prog w = .ok () w := by
    rw [if_neg (by decide)]
    simp only [Sem.run_bind, run_program, Result.andThen_ok, hgd]
    rfl
  rw [h1]
  simp only [Result.andThen_ok]
  have h2 : (Op.equal 23 (Value.agg dd) (Value.agg dd)).run Tryd.prog w = .ok true w := hsame
  rw [h2]
  rfl
theorem step_quiet_eql {ops : Array Oper} {o : Oper} {a : Act} {C : World → Prop} {K : Act → Prop} {E : Prop} (hw : Region.wanted o (yielded ops a.tmps) = true) (x y : Operand) (r : TypeId) (ho : o.op = .binOp .eql 23 x y r)
    (d : List UInt8) (hx : a.eval x = .agg (BV d).toArray) (hy : a.eval y = .agg (BV d).toArray) (hd : d.length = 16) (h : K (a.put o.dst (.bool true))) :
    if Region.wanted o (yielded ops a.tmps) = true then o.quiet Tryd.prog a C K else E := by
  rw [if_pos hw]
  refine ⟨_, fun w hC => ?_, h⟩
  unfold Oper.quietAt
  rw [exec_eql d hd o a x y r ho hx hy w]
  exact ⟨rfl, rfl⟩

set_option maxHeartbeats 4000000 in
set_option maxRecDepth 100000 in
theorem makes_short (s m : List UInt8) (n0 n1 : Int) (w : World) (hK : KLaid w) (hb : 200 < s.length ∨ (s.length ≤ 200 ∧ 200 < m.length) ∨ (s.length ≤ 200 ∧ m.length ≤ 200 ∧ 2 < n0 ∧ n0 ≤ 6)) :
    Calls Tryd.prog 4 #[.string (S s), .agg #[.int .i64 n0, .int .i64 n1], .string (S m)] w fun e w' => e = .returned (.bool true) ∧ Below w.heap.size w w' := by
  have CSA := hide (fun (W : World) hK => sanity_any W hK)
  have HK := hide hK
  rcases hb with h1 | ⟨h1, h2⟩ | ⟨h1, h2, h3, h4⟩
  · have g1 : (200 : Int) < (((S s).size : Nat) : Int) := by rw [S_size]; omega
    clear h1
    go_enter Tryd.func4, Tryd.ntmps4
    go_upto_region 1 with fail
    refine name_world fun V hV => ?_
    have HV := hide (show Below w.heap.size w V by rw [← hV.out]; exact below_alloc w _)
    clear hV
    go_wp2_with (go_at_call 9; refine (unhide CSA V (HK.out.below HV.out (Nat.le_refl _))).mono ?_; rintro e w1 ⟨rfl, hb1⟩; have B1 := hide (HV.out.trans (hb1.mono HV.out.size)); clear hb1)
    go_ret
    exact ⟨rfl, B1.out⟩
  · have g1 : ¬ (200 : Int) < (((S s).size : Nat) : Int) := by rw [S_size]; omega
    have g2 : (200 : Int) < (((S m).size : Nat) : Int) := by rw [S_size]; omega
    clear h1 h2
    go_enter Tryd.func4, Tryd.ntmps4
    go_upto_region 1 with fail
    refine name_world fun V hV => ?_
    have HV := hide (show Below w.heap.size w V by rw [← hV.out]; exact below_alloc w _)
    clear hV
    go_wp2_with (go_at_call 9; refine (unhide CSA V (HK.out.below HV.out (Nat.le_refl _))).mono ?_; rintro e w1 ⟨rfl, hb1⟩; have B1 := hide (HV.out.trans (hb1.mono HV.out.size)); clear hb1)
    go_ret
    exact ⟨rfl, B1.out⟩
  · have g1 : ¬ (200 : Int) < (((S s).size : Nat) : Int) := by rw [S_size]; omega
    have g2 : ¬ (200 : Int) < (((S m).size : Nat) : Int) := by rw [S_size]; omega
    clear h1 h2
    go_enter Tryd.func4, Tryd.ntmps4
    go_upto_region 1 with fail
    refine name_world fun V hV => ?_
    have HV := hide (show Below w.heap.size w V by rw [← hV.out]; exact below_alloc w _)
    have HN := hide (show Blk V w.heap.size 28 #[.int .i64 n0, .int .i64 n1] by rw [← hV.out]; exact Blk.new w _ _)
    clear hV
    go_upto_region 2 with (go_at_call 9; refine (unhide CSA V (HK.out.below HV.out (Nat.le_refl _))).mono ?_; rintro e w1 ⟨rfl, hb1⟩; have B1 := hide (HV.out.trans (hb1.mono HV.out.size)); have HN1 := hide (HN.out.below hb1 HN.out.lt); clear hb1)
    have hc0 : w1.cell? ⟨w.heap.size, 0, none⟩ = some (.int .i64 n0) := HN1.out.cell 0
    go_wp2
    go_ret
    exact ⟨rfl, B1.out⟩

set_option maxHeartbeats 4000000 in
set_option maxRecDepth 100000 in
theorem makes_long (s m : List UInt8) (n0 n1 : Int) (w : World) (hi1 : Wr.inI n1) (hK : KLaid w) (hR : RKLaid w) (hs : s.length ≤ 200) (hm : m.length ≤ 200) (hn : ¬ 2 < n0 ∨ (2 < n0 ∧ ¬ n0 ≤ 6)) :
    Calls Tryd.prog 4 #[.string (S s), .agg #[.int .i64 n0, .int .i64 n1], .string (S m)] w fun e w' => e = .returned (.bool true) ∧ Below w.heap.size w w' := by
  have CSA := hide (fun (W : World) hK => sanity_any W hK)
  have HK := hide hK
  have HRK := hide hR
  have g1 : ¬ (200 : Int) < (((S s).size : Nat) : Int) := by rw [S_size]; omega
  have g2 : ¬ (200 : Int) < (((S m).size : Nat) : Int) := by rw [S_size]; omega
  have hpl : (Sg.pubR s n0).1.length = 16 := Sg.pubR_len s n0
  have CP := hide (fun (W : World) hK => publicR_any s n0 W (by omega) hK)
  have CRP := hide (fun (W : World) hK => refPublic_any s n0 W hK)
  have CS := hide (fun (W : World) hK => signR_any s m n0 n1 W (by omega) (by omega) hK)
  have CRS := hide (fun (W : World) hK => refSignR_any s m n0 n1 W (by omega) hK)
  have CD := hide (fun (W : World) hK => digest_any (Sg.pubR s n0).1 m n1 W hpl hi1 (by omega) hK)
  have CRD := hide (fun (W : World) hK => refDigest_any (Sg.pubR s n0).1 m n1 W hpl hi1 (by omega) hK)
  have hg1 : (Sg.digestP (Sg.pubR s n0).1 n1 m).length = 16 := Sg.ofB_len _ _
  generalize Sg.digestP (Sg.pubR s n0).1 n1 m = G1 at *
  generalize (Sg.pubR s n0).1 = P at *
  generalize (Sg.pubR s n0).2 = r1 at *
  generalize (Sg.sigR s n0 n1 m).1 = SG at *
  generalize (Sg.sigR s n0 n1 m).2 = r2 at *
  have HG1 := hide hg1
  have hzs := zero16
  have hee : (r1 == r1) = true := by simp
  have hff : (r2 == r2) = true := by simp
  clear hK hR hs hm hi1 hg1
  rcases hn with hn2 | ⟨hn2, hn6⟩
  all_goals
    go_enter Tryd.func4, Tryd.ntmps4
    go_upto_region 1 with fail
    refine name_world fun V hV => ?_
    have HV := hide (show Below w.heap.size w V by rw [← hV.out]; exact below_alloc w _)
    have HN := hide (show Blk V w.heap.size 28 #[.int .i64 n0, .int .i64 n1] by rw [← hV.out]; exact Blk.new w _ _)
    clear hV
    go_upto_region 2 with (go_at_call 9; refine (unhide CSA V (HK.out.below HV.out (Nat.le_refl _))).mono ?_; rintro e w1 ⟨rfl, hb1⟩; have B1 := hide (HV.out.trans (hb1.mono HV.out.size)); have HN1 := hide (HN.out.below hb1 HN.out.lt); clear hb1)
    have hc0 : w1.cell? ⟨w.heap.size, 0, none⟩ = some (.int .i64 n0) := HN1.out.cell 0
    go_upto_region 5 with (first
      | (go_at_call 12; refine (unhide CP w1 (HK.out.below B1.out (Nat.le_refl _))).mono ?_; rintro e w2 ⟨rfl, hb2⟩; have B2 := hide (B1.out.trans (hb2.mono B1.out.size)); have HN2 := hide (HN1.out.below hb2 HN1.out.lt); clear hb2)
      | ((with_reducible refine wpList_store_dig rfl (.tmp 8) (.tmp 41) rfl w2.heap.size Z16 P rfl rfl (Dig.new w2 Z16 rfl) hpl ?_); intro U hU))
    have D2 := hide ((Dig.new w2 Z16 rfl).put hpl hU)
    have hbu := Below.mono (below_row (below_alloc w2 _) (Nat.le_refl _) hU) (Nat.le_refl w2.heap.size)
    have HU := hide (B2.out.trans (hbu.mono B2.out.size))
    have HN3 := hide (HN2.out.below hbu HN2.out.lt)
    have hl2 := D2.out.2.lt
    clear hU hbu hc0
    have hc0 : U.cell? ⟨w.heap.size, 0, none⟩ = some (.int .i64 n0) := HN3.out.cell 0
    go_upto_region 6 with (first
      | (go_at_call 13; refine (unhide CRP U (HRK.out.below HU.out (Nat.le_refl _))).mono ?_; rintro e w3 ⟨rfl, hb3⟩; have B3 := hide (HU.out.trans (hb3.mono HU.out.size)); have HN4 := hide (HN3.out.below hb3 HN3.out.lt); have D3 := hide (D2.out.below hb3 hl2); clear hb3)
      | ((with_reducible refine wpList_store_dig rfl (.tmp 10) (.tmp 48) rfl w3.heap.size Z16 P rfl rfl (Dig.new w3 Z16 rfl) hpl ?_); intro Y hY))
    have E2 := hide ((Dig.new w3 Z16 rfl).put hpl hY)
    have hby := Below.mono (below_row (below_alloc w3 _) (Nat.le_refl _) hY) (Nat.le_refl w3.heap.size)
    have HY := hide (B3.out.trans (hby.mono B3.out.size))
    have HN5 := hide (HN4.out.below hby HN4.out.lt)
    have D4 := hide (D3.out.below hby D3.out.2.lt)
    have hl3 := E2.out.2.lt
    have hl4 := D4.out.2.lt
    clear hY hby hc0 HN HN1 HN2 HN3 HN4 D2 D3
    have hc0 : Y.cell? ⟨w.heap.size, 0, none⟩ = some (.int .i64 n0) := HN5.out.cell 0
    have hc1 : Y.cell? ⟨w.heap.size, 1, none⟩ = some (.int .i64 n1) := HN5.out.cell 1
    go_upto_region 7 with (first
      | (go_at_call 14; refine (unhide CS Y (HK.out.below HY.out (Nat.le_refl _))).mono ?_; rintro e x1 ⟨rfl, hb4⟩; have X1 := hide hb4; clear hb4))
    have HN6 := hide (HN5.out.below X1.out HN5.out.lt)
    clear hc0 hc1
    have hc0 : x1.cell? ⟨w.heap.size, 0, none⟩ = some (.int .i64 n0) := HN6.out.cell 0
    have hc1 : x1.cell? ⟨w.heap.size, 1, none⟩ = some (.int .i64 n1) := HN6.out.cell 1
    have H1 := hide (HY.out.trans (X1.out.mono HY.out.size))
    go_upto_region 8 with (first
      | (go_at_call 15; refine (unhide CRS x1 (HRK.out.below H1.out (Nat.le_refl _))).mono ?_; rintro e x2 ⟨rfl, hb5⟩; have X2 := hide (X1.out.trans (hb5.mono X1.out.size)); clear hb5))
    have HN7 := hide (HN5.out.below X2.out HN5.out.lt)
    have H2 := hide (HY.out.trans (X2.out.mono HY.out.size))
    have D5 := hide (D4.out.below X2.out hl4)
    have E5 := hide (E2.out.below X2.out hl3)
    have hl5 := D5.out.2.lt
    have hl6 := E5.out.2.lt
    have hl7 := HN7.out.lt
    clear hc0 hc1 HN5 HN6 D4 E2
    have W0 := Below.refl x2.heap.size x2
    have HKV := hide (fun (W' : World) (hb : Below x2.heap.size x2 W') => HK.out.below (H2.out.trans (hb.mono H2.out.size)) (Nat.le_refl _))
    have HRV := hide (fun (W' : World) (hb : Below x2.heap.size x2 W') => HRK.out.below (H2.out.trans (hb.mono H2.out.size)) (Nat.le_refl _))
    have HCC := hide (fun (W' : World) (hb : Below x2.heap.size x2 W') => (show W'.cell? ⟨w.heap.size, 1, none⟩ = some (.int .i64 n1) from (HN7.out.below hb hl7).cell 1))
    have HDD := hide (fun (W' : World) (hb : Below x2.heap.size x2 W') => D5.out.below hb hl5)
    have HEE := hide (fun (W' : World) (hb : Below x2.heap.size x2 W') => E5.out.below hb hl6)
    refine wp_region_below (by kernel_rfl) (by kernel_rfl) ?_
    repeat (refine wpQuiet_step (fun K hK => ?_); first
      | (refine step_quiet_dig ?_ (.tmp 8) rfl w2.heap.size rfl P (unhide HDD) ?_; (rfl); refine hK _ ?_; clear hK K)
      | (refine step_quiet_dig ?_ (.tmp 10) rfl w3.heap.size rfl P (unhide HEE) ?_; (rfl); refine hK _ ?_; clear hK K)
      | (refine step_quiet_eql ?_ (.tmp 72) (.tmp 73) 23 rfl P rfl rfl hpl ?_; (rfl); refine hK _ ?_; clear hK K)
      | (refine step_quiet_eql ?_ (.tmp 96) (.tmp 101) 23 rfl G1 rfl rfl HG1.out ?_; (rfl); refine hK _ ?_; clear hK K)
      | (go_simp; first
        | (refine hK _ ?_; clear hK K)
        | (refine ⟨_, fun wq hq => rfl, hK _ ?_⟩; clear hK K)
        | (refine ⟨.int .i64 n1, fun wq hq => ?_, ?_⟩; (rw [(unhide HCC wq hq)]; exact ⟨rfl, rfl⟩); refine hK _ ?_; clear hK K)
        | ((with_reducible refine ⟨.agg (BV G1).toArray, fun wq hq => (unhide CD wq (unhide HKV _ hq)).mono fun e w' h => And.intro h.1 (hq.trans (h.2.mono hq.size)), ?_⟩); refine hK _ ?_; clear hK K)
        | ((with_reducible refine ⟨.agg (BV G1).toArray, fun wq hq => (unhide CRD wq (unhide HRV _ hq)).mono fun e w' h => And.intro h.1 (hq.trans (h.2.mono hq.size)), ?_⟩); refine hK _ ?_; clear hK K)))
    refine wpQuiet_nil ?_
    intro w' hw'
    go_wp2
    go_ret
    exact ⟨rfl, H2.out.trans (hw'.mono H2.out.size)⟩
theorem makes_walk (s m : List UInt8) (n0 n1 : Int) (w : World) (hi1 : Wr.inI n1) (hK : KLaid w) (hR : RKLaid w) :
    Calls Tryd.prog 4 #[.string (S s), .agg #[.int .i64 n0, .int .i64 n1], .string (S m)] w fun e w' => e = .returned (.bool true) ∧ Below w.heap.size w w' := by
  by_cases h1 : s.length ≤ 200
  · by_cases h2 : m.length ≤ 200
    · by_cases h3 : 2 < n0 ∧ n0 ≤ 6
      · exact makes_short s m n0 n1 w hK (.inr (.inr ⟨h1, h2, h3⟩))
      · exact makes_long s m n0 n1 w hi1 hK hR h1 h2 (by omega)
    · exact makes_short s m n0 n1 w hK (.inr (.inl ⟨h1, by omega⟩))
  · exact makes_short s m n0 n1 w hK (.inl (by omega))
end Go.Proofs.YtedgjpoejoepjaaDoor
