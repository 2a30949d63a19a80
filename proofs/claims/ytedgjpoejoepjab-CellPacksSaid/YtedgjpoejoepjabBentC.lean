/-
  Cells: Pack of the reference of what is no raster; Pack and the reference's answer the same; bent, by contract.
-/
import Derived.Test.YtedgjpoejoepjabRefUnpack
namespace Go.Proofs.Ytedgjpoejoepjab
open Go.RowKit
set_option linter.unusedVariables false
set_option linter.unusedSimpArgs false

set_option maxHeartbeats 1000000 in
set_option maxRecDepth 100000 in
theorem refPack_bad (A : Option Addr) (n c : Nat) (W H : Int) (w : World) (hn : n ≤ 1099511627776) (hb : Ce.proper W H n = false) :
    Calls Try.prog 27 #[.agg #[.int .i64 W, .int .i64 H, .slice A n c]] w fun e w' => e = .returned (.tuple #[.slice none 0 0, .int .i64 1]) ∧ Below w.heap.size w w' := by
  have CP := hide (fun W' => proper_any A n c W H W' hn)
  rw [hb] at CP
  clear hb
  go_enter Try.func27, Try.ntmps27
  go_upto_region 1 with fail
  refine name_world fun V hV => ?_
  have HBX := hide (show Blk V w.heap.size 42 #[.int .i64 W, .int .i64 H, .slice A n c] by rw [← hV.out]; exact Blk.new w _ _)
  have HV := hide (show Below w.heap.size w V by rw [← hV.out]; exact below_alloc w _)
  have hgx := HBX.out.lt
  clear hV
  have hc0 : V.cell? ⟨w.heap.size, 0, none⟩ = some (.int .i64 W) := HBX.out.cell 0
  have hc1 : V.cell? ⟨w.heap.size, 1, none⟩ = some (.int .i64 H) := HBX.out.cell 1
  have hc2 : V.cell? ⟨w.heap.size, 2, none⟩ = some (.slice A n c) := HBX.out.cell 2
  go_wp2_with (go_at_call 47; refine (CP.out _).mono ?_; rintro e w1 ⟨rfl, hb1⟩; have HB1 := hide (HV.out.trans (hb1.mono (Nat.le_of_lt hgx))); clear hb1)
  go_ret2
  exact ⟨rfl, HB1.out⟩
/-- something of a raster's type, in memory -/
def RastAny (w : World) (v : Value) : Prop := ∃ (W H : Int) (A : Option Addr) (n c : Nat) (bits : List Bool), v = .agg #[.int .i64 W, .int .i64 H, .slice A n c] ∧ Reads w w.heap.size 1 A n (bits.map Value.bool) ∧ n ≤ 1000
theorem RastAny.below {w w' : World} {v : Value} (h : RastAny w v) (hb : Below w.heap.size w w') : RastAny w' v := by
  obtain ⟨W, H, A, n, c, bits, h1, h2, h3⟩ := h
  exact ⟨W, H, A, n, c, bits, h1, (h2.below hb).more hb.size, h3⟩
theorem RastAny.nil (w : World) : RastAny w (.agg #[.int .i64 0, .int .i64 0, .slice none 0 0]) := ⟨0, 0, none, 0, 0, [], rfl, Reads.none_, by omega⟩
/-- Pack and the reference's Pack answer the same -/
theorem packs_same (v : Value) (w : World) (h : RastAny w v) : ∃ (ls : List (List UInt8)) (err : Int), ls.length ≤ 1048576 ∧ (∀ l ∈ ls, l.length ≤ 1048576) ∧
    (∀ W, Below w.heap.size w W → Calls Try.prog 26 #[v] W fun e w' => ∃ A c, e = .returned (.tuple #[.slice A ls.length c, .int .i64 err]) ∧ Pg w' w'.heap.size A ls.length ls ∧ Below W.heap.size W w') ∧
    (∀ W, Below w.heap.size w W → Calls Try.prog 27 #[v] W fun e w' => ∃ A c, e = .returned (.tuple #[.slice A ls.length c, .int .i64 err]) ∧ Pg w' w'.heap.size A ls.length ls ∧ Below W.heap.size W w') := by
  obtain ⟨W, H, A, n, c, bits, rfl, hr, hn⟩ := h
  cases hp : Ce.proper W H n with
  | false =>
    refine ⟨[], 1, by simp, by simp, fun X hb => ?_, fun X hb => ?_⟩
    · refine (pack_bad A n c W H X (by omega) hp).mono ?_
      rintro e w' ⟨rfl, hb'⟩
      exact ⟨none, 0, rfl, Pg.nil _ _, hb'⟩
    · refine (refPack_bad A n c W H X (by omega) hp).mono ?_
      rintro e w' ⟨rfl, hb'⟩
      exact ⟨none, 0, rfl, Pg.nil _ _, hb'⟩
  | true =>
    unfold Ce.proper Ce.can at hp
    rw [Bool.and_eq_true] at hp
    obtain ⟨⟨h1, h2, h3, h4, h5⟩, h6⟩ := And.intro (of_decide_eq_true hp.1) (of_decide_eq_true hp.2)
    obtain ⟨W', rfl⟩ : ∃ W' : Nat, W = (W' : Int) := ⟨W.toNat, by omega⟩
    obtain ⟨H', rfl⟩ : ∃ H' : Nat, H = (H' : Int) := ⟨H.toNat, by omega⟩
    have hnn : n = W' * H' := by
      rw [← Int.natCast_mul] at h6
      omega
    have hlen : (Ce.pack W' H' bits).length = (H' + 2) / 3 := by simp [Ce.pack]
    refine ⟨Ce.pack W' H' bits, 0, by rw [hlen]; omega, fun l hl => ?_, fun X hb => ?_, fun X hb => ?_⟩
    · unfold Ce.pack at hl
      obtain ⟨i, _, rfl⟩ := List.mem_map.1 hl
      rw [Ce.rowTo_len]
      omega
    · refine (pack_any A n c W' H' bits X ((hr.below hb).more hb.size) hnn (by omega) (by omega) (by omega)).mono ?_
      rintro e w' ⟨gp, rfl, hpg, hb'⟩
      rw [hlen]
      exact ⟨_, _, rfl, hpg, hb'⟩
    · refine (refPack_any A n c W' H' bits X ((hr.below hb).more hb.size) hnn (by omega) (by omega) (by omega)).mono ?_
      rintro e w' ⟨A', c', rfl, _, hpg, hb'⟩
      rw [hlen]
      exact ⟨_, _, rfl, hpg, hb'⟩
theorem own_emptyB (w : World) : (w.alloc (.cells #[] 4)).ownsRow w.heap.size 4 1 (.slice (some ⟨w.heap.size, 0, none⟩) 0 0) 0 [] :=
  ⟨rfl, .inr ⟨w.heap.size, 0, #[], rfl, Nat.le_refl _, heap_alloc_new w _, Nat.le_refl _, by unfold maxLen; omega, rfl, rfl⟩⟩
set_option maxHeartbeats 4000000 in
set_option maxRecDepth 100000 in
theorem bent_any (A : Option Addr) (n c : Nat) (W H how by_ : Int) (bits : List Bool) (w : World) (hr : Reads w w.heap.size 1 A n (bits.map Value.bool)) (hn : n ≤ 900) (hh : Wr.inI how) :
    Calls Try.prog 25 #[.agg #[.int .i64 W, .int .i64 H, .slice A n c], .int .i64 how, .int .i64 by_] w fun e w' => ∃ v, e = .returned v ∧ RastAny w' v ∧ Below w.heap.size w w' := by
  obtain ⟨i0, hi, hz0, hz1, hz2⟩ := info_parts boolInfo
  have HI := hide hi
  have HZ0 := hide hz0
  have HZ1 := hide hz1
  have HZ2 := hide hz2
  have CA := hide (fun W' => (show Calls Try.prog 29 #[.int .i64 how, .int .i64 5] W' fun e w' => e = .returned (.int .i64 ((Ce.around how 5 : Nat) : Int)) ∧ W' = w' from around_any how 5 W' hh (by omega) (by omega)))
  have hq := Ce.around_lt how 5 (by omega)
  generalize Ce.around how 5 = q at *
  have HR := hide hr
  clear hr hi hz0 hz1 hz2 hh
  go_enter Try.func25, Try.ntmps25
  go_upto_region 1 with fail
  refine name_world fun V hV => ?_
  have HBX := hide (show Blk V w.heap.size 42 #[.int .i64 W, .int .i64 H, .slice A n c] by rw [← hV.out]; exact (Blk.new w _ _).alloc _)
  have HBR := hide (show Blk V (w.heap.size + 1) 42 #[.int .i64 0, .int .i64 0, .slice none 0 0] by
    rw [← hV.out]
    have := Blk.new (w.alloc (.cells #[.int .i64 W, .int .i64 H, .slice A n c] 42)) 42 #[.int .i64 0, .int .i64 0, .slice none 0 0]
    rwa [show (w.alloc (.cells #[.int .i64 W, .int .i64 H, .slice A n c] 42)).heap.size = w.heap.size + 1 by simp] at this)
  have HV := hide (show Below w.heap.size w V by rw [← hV.out]; exact (below_alloc w _).alloc (by simp) _)
  have hgx := HBX.out.lt
  have hgr := HBR.out.lt
  clear hV
  have hc0 : V.cell? ⟨w.heap.size, 0, none⟩ = some (.int .i64 W) := HBX.out.cell 0
  have hc1 : V.cell? ⟨w.heap.size, 1, none⟩ = some (.int .i64 H) := HBX.out.cell 1
  have hc2 : V.cell? ⟨w.heap.size, 2, none⟩ = some (.slice A n c) := HBX.out.cell 2
  have hf0 := HBX.out.frozen 0
  have hf1 := HBX.out.frozen 1
  have hf2 := HBX.out.frozen 2
  generalize hg : w.heap.size = g at *
  obtain rfl | rfl | rfl | rfl | rfl : q = 0 ∨ q = 1 ∨ q = 2 ∨ q = 3 ∨ q = 4 := by omega
  · rw [show ((0 : Nat) : Int) = 0 from rfl] at CA
    go_upto_region 10 with (go_at_call 29; refine (unhide CA _).mono ?_; rintro e w1 ⟨rfl, rfl⟩)
    refine name_world fun Y hY => ?_
    have HY0 := hide (show Blk Y g 42 #[.int .i64 by_, .int .i64 H, .slice A n c] by rw [← hY.out]; exact HBX.out.set_ 0 _)
    have HYR := hide (show Blk Y (g + 1) 42 #[.int .i64 0, .int .i64 0, .slice none 0 0] by rw [← hY.out]; exact HBR.out.far (p := ⟨g, 0, none⟩) (by show g + 1 ≠ g; omega) _)
    have HYB := hide (show Below g w Y by rw [← hY.out]; exact HV.out.setCell (p := ⟨g, 0, none⟩) (Nat.le_refl _) _)
    clear hY hc0 hc1 hc2 hf0 hf1 hf2
    have hc0 : Y.cell? ⟨g, 0, none⟩ = some (.int .i64 by_) := HY0.out.cell 0
    have hc1 : Y.cell? ⟨g, 1, none⟩ = some (.int .i64 H) := HY0.out.cell 1
    have hc2 : Y.cell? ⟨g, 2, none⟩ = some (.slice A n c) := HY0.out.cell 2
    go_wp2_with (with_reducible refine wpList_store_rast rfl (.tmp 6) (.tmp 30) rfl (g + 1) _ _ _ (.int .i64 by_) (.int .i64 H) (.slice A n c) rfl rfl HYR.out (by simp [Value.oneCell']) ?_; intro Z hZ)
    have HZB := hide (below_row HYB.out (Nat.le_succ g) hZ)
    exact bodyPost_ret (v := .agg #[.int .i64 by_, .int .i64 H, .slice A n c]) (results_cell0 Try.results25 _ _ ⟨g + 1, 0, none⟩ _ rfl (load_rast (rast_put HYR.out hZ))) rfl ⟨_, rfl, ⟨_, _, A, n, c, bits, rfl, ((HR.out.below HZB.out).more (by have := HZB.out.size; omega)), by omega⟩, by rw [hg]; exact HZB.out⟩
  · rw [show ((1 : Nat) : Int) = 1 from rfl] at CA
    go_upto_region 10 with (go_at_call 29; refine (unhide CA _).mono ?_; rintro e w1 ⟨rfl, rfl⟩)
    refine name_world fun Y hY => ?_
    have HY0 := hide (show Blk Y g 42 #[.int .i64 W, .int .i64 by_, .slice A n c] by rw [← hY.out]; exact HBX.out.set_ 1 _)
    have HYR := hide (show Blk Y (g + 1) 42 #[.int .i64 0, .int .i64 0, .slice none 0 0] by rw [← hY.out]; exact HBR.out.far (p := ⟨g, 1, none⟩) (by show g + 1 ≠ g; omega) _)
    have HYB := hide (show Below g w Y by rw [← hY.out]; exact HV.out.setCell (p := ⟨g, 1, none⟩) (Nat.le_refl _) _)
    clear hY hc0 hc1 hc2 hf0 hf1 hf2
    have hc0 : Y.cell? ⟨g, 0, none⟩ = some (.int .i64 W) := HY0.out.cell 0
    have hc1 : Y.cell? ⟨g, 1, none⟩ = some (.int .i64 by_) := HY0.out.cell 1
    have hc2 : Y.cell? ⟨g, 2, none⟩ = some (.slice A n c) := HY0.out.cell 2
    go_wp2_with (with_reducible refine wpList_store_rast rfl (.tmp 6) (.tmp 30) rfl (g + 1) _ _ _ (.int .i64 W) (.int .i64 by_) (.slice A n c) rfl rfl HYR.out (by simp [Value.oneCell']) ?_; intro Z hZ)
    have HZB := hide (below_row HYB.out (Nat.le_succ g) hZ)
    exact bodyPost_ret (v := .agg #[.int .i64 W, .int .i64 by_, .slice A n c]) (results_cell0 Try.results25 _ _ ⟨g + 1, 0, none⟩ _ rfl (load_rast (rast_put HYR.out hZ))) rfl ⟨_, rfl, ⟨_, _, A, n, c, bits, rfl, ((HR.out.below HZB.out).more (by have := HZB.out.size; omega)), by omega⟩, by rw [hg]; exact HZB.out⟩
  · rw [show ((2 : Nat) : Int) = 2 from rfl] at CA
    have HVA := hide (show Below g w (V.alloc (.cells #[] 4)) from HV.out.alloc (by omega) _)
    have hca : (V.alloc (.cells #[] 4)).cell? ⟨g, 2, none⟩ = some (.slice A n c) := (HBX.out.alloc _).cell 2
    have H1 := hide (show ∀ u ∈ bits.map Value.bool, u.oneCell' = true from fun u hu => by
      obtain ⟨b, _, rfl⟩ := List.mem_map.1 hu
      rfl)
    go_upto_region 10 with (first
      | (go_at_call 29; refine (unhide CA _).mono ?_; rintro e w1 ⟨rfl, rfl⟩)
      | (at_builtin; refine wpList_append_any _ rfl (.tmp 19) (.tmp 21) 40 rfl V.heap.size 4 i0 (.bool false) 1 1 Try.underlying40 HI.out HZ0.out HZ1.out HZ2.out rfl (by omega) _ 0 [] rfl (own_emptyB V) _ A n c (bits.map Value.bool) rfl (HR.out.below HVA.out) H1.out (by unfold maxLen; omega) (by omega) (by simp) ?_; intro v2 w2 hown2 hgrow2 hat2; have HO2 := hide hown2; have HB2 := hide ((below_alloc V _).trans (below_grown hgrow2 (own_emptyB V) (by simp))); have hs2 := HB2.out.size; clear hown2 hgrow2 hat2)
      | (at_builtin; refine wpList_append_any _ rfl (.tmp 22) (.tmp 24) 40 rfl V.heap.size 4 i0 (.bool false) 1 1 Try.underlying40 HI.out HZ0.out HZ1.out HZ2.out rfl (by omega) _ (0 + n) _ rfl (HO2.out.alloc _) _ (some ⟨w2.heap.size, 0, none⟩) 1 1 [.bool true] rfl (reads_new w2 _ _) (by simp [Value.oneCell']) (by unfold maxLen; omega) (by omega) (by simp; omega) ?_; intro v4 w4 hown4 hgrow4 hat4; have HO4 := hide hown4; have HB4 := hide (HB2.out.trans ((below_alloc' w2 _ hs2).trans (below_grown hgrow4 (HO2.out.alloc _) (by simp; omega)))); have HX4 := hide (HBX.out.below HB4.out hgx); have HR4 := hide (HBR.out.below HB4.out hgr); have hf4 := HX4.out.frozen 2; have hw4 : w4.cell? ⟨g, 2, none⟩ = some (.slice A n c) := HX4.out.cell 2; obtain ⟨A4, c4, rfl, _, _⟩ := own_slice hown4; clear hown4 hgrow4 hat4)
      | (at_builtin; refine wpList_append_any _ rfl (.tmp 22) (.tmp 23) 40 rfl V.heap.size 4 i0 (.bool false) 1 1 Try.underlying40 HI.out HZ0.out HZ1.out HZ2.out rfl (by omega) _ (0 + n) _ rfl (HO2.out.alloc _) _ (some ⟨w2.heap.size, 0, none⟩) 1 1 [.bool true] rfl (reads_new w2 _ _) (by simp [Value.oneCell']) (by unfold maxLen; omega) (by omega) (by simp; omega) ?_; intro v4 w4 hown4 hgrow4 hat4; have HO4 := hide hown4; have HB4 := hide (HB2.out.trans ((below_alloc' w2 _ hs2).trans (below_grown hgrow4 (HO2.out.alloc _) (by simp; omega)))); have HX4 := hide (HBX.out.below HB4.out hgx); have HR4 := hide (HBR.out.below HB4.out hgr); have hf4 := HX4.out.frozen 2; have hw4 : w4.cell? ⟨g, 2, none⟩ = some (.slice A n c) := HX4.out.cell 2; obtain ⟨A4, c4, rfl, _, _⟩ := own_slice hown4; clear hown4 hgrow4 hat4))
    refine name_world fun Y hY => ?_
    have HY0 := hide (show Blk Y g 42 #[.int .i64 W, .int .i64 H, .slice A4 (n + 1) c4] by rw [← hY.out]; exact HX4.out.set_ 2 _)
    have HYR := hide (show Blk Y (g + 1) 42 #[.int .i64 0, .int .i64 0, .slice none 0 0] by rw [← hY.out]; exact HR4.out.far (p := ⟨g, 2, none⟩) (by show g + 1 ≠ g; omega) _)
    have HYB := hide (show Below g w Y by rw [← hY.out]; exact (HV.out.trans (HB4.out.mono (Nat.le_of_lt hgx))).setCell (p := ⟨g, 2, none⟩) (Nat.le_refl _) _)
    have HYO := hide (show Y.ownsRow V.heap.size 4 1 (.slice A4 (n + 1) c4) (n + 1) (([] ++ bits.map Value.bool) ++ [Value.bool true]) by rw [← hY.out]; have h := own_setFar HO4.out (p := ⟨g, 2, none⟩) hgx (.slice A4 (n + 1) c4); simp only [Nat.zero_add] at h; exact h)
    clear hY hc0 hc1 hc2 hf0 hf1 hf2 hf4 hw4 hca
    have hc0 : Y.cell? ⟨g, 0, none⟩ = some (.int .i64 W) := HY0.out.cell 0
    have hc1 : Y.cell? ⟨g, 1, none⟩ = some (.int .i64 H) := HY0.out.cell 1
    have hc2 : Y.cell? ⟨g, 2, none⟩ = some (.slice A4 (n + 1) c4) := HY0.out.cell 2
    go_wp2_with (with_reducible refine wpList_store_rast rfl (.tmp 6) (.tmp 30) rfl (g + 1) _ _ _ (.int .i64 W) (.int .i64 H) (.slice A4 (n + 1) c4) rfl rfl HYR.out (by simp [Value.oneCell']) ?_; intro Z hZ)
    have HZB := hide (below_row HYB.out (Nat.le_succ g) hZ)
    have HZO := own_rowFar HYO.out hgr hZ
    exact bodyPost_ret (v := .agg #[.int .i64 W, .int .i64 H, .slice A4 (n + 1) c4]) (results_cell0 Try.results25 _ _ ⟨g + 1, 0, none⟩ _ rfl (load_rast (rast_put HYR.out hZ))) rfl ⟨_, rfl, ⟨_, _, A4, n + 1, c4, bits ++ [true], rfl, by
      have h := Reads.of_own HZO
      rw [List.nil_append] at h
      rw [List.map_append]
      exact h, by omega⟩, by rw [hg]; exact HZB.out⟩
  · rw [show ((3 : Nat) : Int) = 3 from rfl] at CA
    go_wp2_with (first
      | (go_at_call 29; refine (unhide CA _).mono ?_; rintro e w1 ⟨rfl, rfl⟩)
      | (with_reducible refine wpList_store_rast rfl (.tmp 6) (.tmp 29) rfl (g + 1) _ _ _ (.int .i64 0) (.int .i64 by_) (.slice none 0 0) rfl rfl HBR.out (by simp [Value.oneCell']) ?_; intro Z hZ))
    have HZB := hide (below_row HV.out (Nat.le_succ g) hZ)
    exact bodyPost_ret (v := .agg #[.int .i64 0, .int .i64 by_, .slice none 0 0]) (results_cell0 Try.results25 _ _ ⟨g + 1, 0, none⟩ _ rfl (load_rast (rast_put HBR.out hZ))) rfl ⟨_, rfl, ⟨_, _, none, 0, 0, [], rfl, Reads.none_, by omega⟩, by rw [hg]; exact HZB.out⟩
  · rw [show ((4 : Nat) : Int) = 4 from rfl] at CA
    go_wp2_with (first
      | (go_at_call 29; refine (unhide CA _).mono ?_; rintro e w1 ⟨rfl, rfl⟩)
      | (with_reducible refine wpList_store_rast rfl (.tmp 6) (.tmp 30) rfl (g + 1) _ _ _ (.int .i64 W) (.int .i64 H) (.slice A n c) rfl rfl HBR.out (by simp [Value.oneCell']) ?_; intro Z hZ))
    have HZB := hide (below_row HV.out (Nat.le_succ g) hZ)
    exact bodyPost_ret (v := .agg #[.int .i64 W, .int .i64 H, .slice A n c]) (results_cell0 Try.results25 _ _ ⟨g + 1, 0, none⟩ _ rfl (load_rast (rast_put HBR.out hZ))) rfl ⟨_, rfl, ⟨_, _, A, n, c, bits, rfl, ((HR.out.below HZB.out).more (by have := HZB.out.size; omega)), by omega⟩, by rw [hg]; exact HZB.out⟩
end Go.Proofs.Ytedgjpoejoepjab
