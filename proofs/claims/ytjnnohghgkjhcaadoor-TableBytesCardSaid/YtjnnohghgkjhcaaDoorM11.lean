/-
  Tables as bytes: getRule, by contract.
-/
import Derived.Test.YtjnnohghgkjhcaaDoorM6
import Derived.Test.YtjnnohghgkjhcaaDoorM10
import Derived.Test.YtjnnohghgkjhcaaDoorM7
namespace Go.Proofs.YtjnnohghgkjhcaaDoor
open Go.RowKit
set_option linter.unusedVariables false
set_option linter.unusedSimpArgs false
namespace Wr
theorem decR_err1 {l : List UInt8} (h : (decB l).2.2 ≠ 0) : decR l = (([], 0, []), 0, (decB l).2.2) := by simp [decR, thenD, h]
theorem decR_err2 {l : List UInt8} (h : (decB l).2.2 = 0) (h2 : (decI (l.drop (decB l).2.1)).2.2 ≠ 0) : decR l = (([], 0, []), 0, (decI (l.drop (decB l).2.1)).2.2) := by simp only [decR, thenD, h, ne_eq, not_true_eq_false, if_false, h2, not_false_eq_true, if_true]
theorem decR_err3 {l : List UInt8} (h : (decB l).2.2 = 0) (h2 : (decI (l.drop (decB l).2.1)).2.2 = 0) (h3 : (decB ((l.drop (decB l).2.1).drop (decI (l.drop (decB l).2.1)).2.1)).2.2 ≠ 0) : decR l = (([], 0, []), 0, (decB ((l.drop (decB l).2.1).drop (decI (l.drop (decB l).2.1)).2.1)).2.2) := by simp only [decR, thenD, h, h2, ne_eq, not_true_eq_false, if_false, h3, not_false_eq_true, if_true]
theorem decR_ok {l : List UInt8} (h : (decB l).2.2 = 0) (h2 : (decI (l.drop (decB l).2.1)).2.2 = 0) (h3 : (decB ((l.drop (decB l).2.1).drop (decI (l.drop (decB l).2.1)).2.1)).2.2 = 0) :
  decR l = (((decB l).1, (decI (l.drop (decB l).2.1)).1, (decB ((l.drop (decB l).2.1).drop (decI (l.drop (decB l).2.1)).2.1)).1), (decB l).2.1 + ((decI (l.drop (decB l).2.1)).2.1 + (decB ((l.drop (decB l).2.1).drop (decI (l.drop (decB l).2.1)).2.1)).2.1), 0) := by simp only [decR, thenD, h, h2, h3, ne_eq, not_true_eq_false, if_false]
end Wr
theorem conv_bytesY (s : List UInt8) (W : World) : ∃ c w', (convert 9 23 (.string (S s))).run Tryd.prog W = .ok (.slice (some ⟨W.heap.size, 0, none⟩) s.length c) w' ∧ s.length ≤ c ∧ Reads w' w'.heap.size 1 (some ⟨W.heap.size, 0, none⟩) s.length (BV s) ∧ Below W.heap.size W w' ∧ w'.heap.size = W.heap.size + 1 := by
 have hs : (S s).size = s.length := by rfl
 have h := run_bytes_of_string W 9 23 5 (S s) Tryd.underlying9 Tryd.underlying23 Tryd.underlying5
 rw [hs] at h
 refine ⟨_, _, h, grownCap_ge _ _ _ _, ⟨by rw [BV_len, Nat.mul_one], fun _ => ⟨_, rfl, by simp, fun j u hj => ?_⟩⟩, ⟨rfl, rfl, rfl, by simp, fun k hk => Below.heap_alloc W.drew _ k hk⟩, by simp⟩
 rw [show ((⟨W.heap.size, 0, none⟩ : Addr).add j) = ⟨W.heap.size, j, none⟩ by simp [Addr.add]; intro h; omega]
 have hjl : j < s.length := by
  rcases Nat.lt_or_ge j s.length with h | h
  ·exact h
  ·rw [List.getElem?_eq_none (by rw [BV_len]; exact h)] at hj; cases hj
 refine (cell_of_row _ W.heap.size j _ 5 _ (show (World.alloc W.drew _).heap[W.heap.size]? = some _ from Array.getElem?_push_size)).trans ?_
 rw [bytesRow_at (S s) _ j (by simpa [S] using hjl)]
 rw [BV_get s j hjl] at hj
 simpa [S] using hj
def RuleX (w : World) (B : Nat) (v : Value) (r : Wr.Ru) : Prop := ∃ (ad : Option Addr) (c : Nat), v = .agg #[.string (S r.1), .int .i64 r.2.1, .slice ad r.2.2.length c] ∧ BsX w w.heap.size ⟨r.2.2, ad, c⟩ ∧ ∀ a, ad = some a → B ≤ a.block
theorem RuleX.zero (w : World) (B : Nat) : RuleX w B (.agg #[.string (S []), .int .i64 0, .slice none 0 0]) ([], 0, []) := ⟨none, 0, rfl, ⟨⟨rfl, fun h => absurd h (by simp)⟩, Nat.le_refl _⟩, fun a h => by cases h⟩
theorem BsX.grownZ {w w' : World} {b : Tb.Bs} {row : Option Nat} (h : BsX w w.heap.size b) (hg : w.grownBy w' row) (ho : 0 < b.l.length → ∀ a, b.ad = some a → some a.block ≠ row) : BsX w' w'.heap.size b := ⟨h.1.grownZ hg ho, h.2⟩
theorem stored_grown (V : World) (g : Nat) (a b c : Value) : V.grownBy (((V.setCell ⟨g, 0, none⟩ a).setCell ⟨g, 1, none⟩ b).setCell ⟨g, 2, none⟩ c) (some g) :=
 only_setCell (p := ⟨g, 2, none⟩) (only_setCell (p := ⟨g, 1, none⟩) (only_setCell (p := ⟨g, 0, none⟩) (World.grownBy.refl V (some g)) (.inl rfl) a) (.inl rfl) b) (.inl rfl) c
theorem results_cell3 {P : Program} {fn : Func} {p a b : Tmp} {ty : TypeId} (h : fn.results = #[.cell p ty, .tmp a, .tmp b]) (tmps : Array Value) (w : World) (ad : Addr) (v : Value)
  (hp : tmps.getD p undef = .pointer (some ad)) (hl : (loadVar ty ad).run P w = .ok v w) : (results fn tmps).run P w = .ok (.tuple #[v, tmps.getD a undef, tmps.getD b undef]) w := by
 have hp' : tmps[p]?.getD undef = .pointer (some ad) := by simpa using hp
 simp [results, h, hp', asAddr, hl]
theorem rule_stored {V : World} {g : Nat} {o0 o1 o2 : Value} (h : Blk V g 45 #[o0, o1, o2]) (a b c : Value) :
  (loadVar 45 ⟨g, 0, none⟩).run Tryd.prog (((V.setCell ⟨g, 0, none⟩ a).setCell ⟨g, 1, none⟩ b).setCell ⟨g, 2, none⟩ c) = .ok (.agg #[a, b, c]) (((V.setCell ⟨g, 0, none⟩ a).setCell ⟨g, 1, none⟩ b).setCell ⟨g, 2, none⟩ c) := by
 have h3 := ((h.set_ 0 a).set_ 1 b).set_ 2 c
 exact run_loadVar_row _ _ _ _ _ _ _ h3 Tryd.underlying45 rfl ruleInfo
theorem below_stored {V w : World} {B g : Nat} (h : Below B w V) (hg : B ≤ g) (a b c : Value) : Below B w (((V.setCell ⟨g, 0, none⟩ a).setCell ⟨g, 1, none⟩ b).setCell ⟨g, 2, none⟩ c) :=
 ((h.setCell (p := ⟨g, 0, none⟩) hg a).setCell (p := ⟨g, 1, none⟩) hg b).setCell (p := ⟨g, 2, none⟩) hg c
set_option maxHeartbeats 4000000 in
set_option maxRecDepth 100000 in
theorem getRule_any (A : Option Addr) (n c : Nat) (l : List UInt8) (w : World) (hr : Reads w w.heap.size 1 A n (BV l)) (hm : n ≤ 17592186044416) (hnc : n ≤ c) :
  Calls Tryd.prog 56 #[.slice A n c] w fun e w' => ∃ v, e = .returned (.tuple #[v, .int .i64 ((Wr.decR l).2.1 : Nat), .int .i64 (Wr.decR l).2.2]) ∧ RuleX w' w.heap.size v (Wr.decR l).1 ∧ Below w.heap.size w w' := by
 have hn : n = l.length := by have := hr.1; simp [BV] at this; omega
 have C1 := hide (fun (W : World) (hb : Below w.heap.size w W) => getBytes_any A n c l W ((hr.below hb).more hb.size) (by unfold maxLen; omega) hnc)
 have hu1 := Wr.decB_used l
 have H0 := hide (fun (h : l = []) => (show (Wr.decB l).2.2 = 3 from by rw [h]; rfl))
 have D1 := hide (@Wr.decR_err1 l)
 have D2 := hide (@Wr.decR_err2 l)
 have D3 := hide (@Wr.decR_err3 l)
 have D4 := hide (@Wr.decR_ok l)
 have HRD := hide hr
 have HN := hide hn
 obtain ⟨x1, hx1⟩ : ∃ x1, x1 = (Wr.decB l).1 := ⟨_, rfl⟩
 obtain ⟨u1, hu1'⟩ : ∃ u1, u1 = (Wr.decB l).2.1 := ⟨_, rfl⟩
 obtain ⟨e1, he1⟩ : ∃ e1, e1 = (Wr.decB l).2.2 := ⟨_, rfl⟩
 rw [← hx1, ← hu1', ← he1] at C1
 rw [← hu1'] at hu1
 rw [← he1] at D1 H0
 rw [← hu1', ← he1] at D2 D3
 rw [← hx1, ← hu1', ← he1] at D4
 clear hx1 hu1' he1 hr hn
 by_cases h1 : e1 ≠ 0
 ·have HD := hide (D1.out h1)
  have hb1 : (e1 != 0) = true := by rw [bne_iff_ne]; exact h1
  clear h1 D1 D2 D3 D4
  go_enter Tryd.func56, Tryd.ntmps56
  go_upto_region 1 with fail
  refine name_world fun V hV => ?_
  have VB := hide (show Blk V w.heap.size 45 #[.string { data := #[] }, .int .i64 0, .slice none 0 0] by rw [← hV.out]; exact Blk.new w _ _)
  have HV := hide (show Below w.heap.size w V by rw [← hV.out]; exact below_alloc w _)
  clear hV
  have B1 := hide (unhide C1 V HV.out)
  have k0 : V.cell? ⟨w.heap.size, 0, none⟩ = some (.string { data := #[] }) := VB.out.cell 0
  have k1 : V.cell? ⟨w.heap.size, 1, none⟩ = some (.int .i64 0) := VB.out.cell 1
  have k2 : V.cell? ⟨w.heap.size, 2, none⟩ = some (.slice none 0 0) := VB.out.cell 2
  have z0 := VB.out.frozen 0
  have z1 := VB.out.frozen 1
  have z2 := VB.out.frozen 2
  go_wp2_with (first | (go_at_call 58; (with_reducible refine (unhide B1).mono ?_); rintro e w1 ⟨rfl, rfl⟩))
  have hload := rule_stored VB.out (.string { data := #[] }) (.int .i64 0) (.slice none 0 0)
  rw [HD.out]
  exact bodyPost_ret (v := .tuple #[.agg #[.string { data := #[] }, .int .i64 0, .slice none 0 0], .int .i64 0, .int .i64 e1]) (results_cell3 Tryd.results56 _ _ ⟨w.heap.size, 0, none⟩ _ rfl hload) rfl ⟨_, rfl, RuleX.zero _ _, below_stored HV.out (Nat.le_refl _) _ _ _⟩
 ·obtain rfl : e1 = 0 := by simpa using h1
  have hn1 : 1 ≤ n := by
   rcases Nat.eq_zero_or_pos n with h | h
   ·exact absurd (H0.out (by have := HN.out; exact List.length_eq_zero_iff.1 (by omega))) (by simp)
   ·exact h
  obtain ⟨ad, hA, _, _⟩ := HRD.out.2 (by omega)
  subst hA
  have hul : u1 ≤ n := by have := HN.out; omega
  have hcut := reads_rest HRD.out u1 hul
  have C2 := hide (fun (W : World) (hb : Below w.heap.size w W) => getInt_any (some (ad.add u1)) (n - u1) (c - u1) (l.drop u1) W ((hcut.below hb).more hb.size) (by unfold maxLen; omega) (by omega))
  have C2E := hide (fun (W : World) (hb : Below w.heap.size w W) => getInt_any (some ad) 0 0 [] W (reads_zero _ _ _) (by unfold maxLen; omega) (by omega))
  clear h1 D1
  have D2 := hide (D2.out rfl)
  have D3 := hide (D3.out rfl)
  have D4 := hide (D4.out rfl)
  have hu2 := Wr.decI_used (l.drop u1)
  rw [List.length_drop] at hu2
  have HCUT := hide hcut
  clear hcut
  by_cases hcu : c = u1
  ·obtain rfl : n = c := by omega
   have hd : l.drop n = [] := List.drop_eq_nil_of_le (by have := HN.out; omega)
   subst hcu
   rw [hd] at D2
   have hI : Wr.decI [] = (0, 0, 3) := rfl
   rw [hI] at D2 C2E
   have HD := hide (D2.out (by decide))
   clear D2 D3 D4 C2 hd hI HCUT hu2
   go_enter Tryd.func56, Tryd.ntmps56
   go_upto_region 1 with fail
   refine name_world fun V hV => ?_
   have VB := hide (show Blk V w.heap.size 45 #[.string { data := #[] }, .int .i64 0, .slice none 0 0] by rw [← hV.out]; exact Blk.new w _ _)
   have HV := hide (show Below w.heap.size w V by rw [← hV.out]; exact below_alloc w _)
   clear hV
   have B1 := hide (unhide C1 V HV.out)
   have B2 := hide (unhide C2E V HV.out)
   have k0 : V.cell? ⟨w.heap.size, 0, none⟩ = some (.string { data := #[] }) := VB.out.cell 0
   have k1 : V.cell? ⟨w.heap.size, 1, none⟩ = some (.int .i64 0) := VB.out.cell 1
   have k2 : V.cell? ⟨w.heap.size, 2, none⟩ = some (.slice none 0 0) := VB.out.cell 2
   have z0 := VB.out.frozen 0
   have z1 := VB.out.frozen 1
   have z2 := VB.out.frozen 2
   go_wp2_with (first | (go_at_call 58; (with_reducible refine (unhide B1).mono ?_); rintro e w1 ⟨rfl, rfl⟩) | (go_at_call 55; (with_reducible refine (unhide B2).mono ?_); rintro e w2 ⟨rfl, rfl⟩))
   have hload := rule_stored VB.out (.string { data := #[] }) (.int .i64 0) (.slice none 0 0)
   rw [HD.out]
   exact bodyPost_ret (v := .tuple #[.agg #[.string { data := #[] }, .int .i64 0, .slice none 0 0], .int .i64 0, .int .i64 3]) (results_cell3 Tryd.results56 _ _ ⟨w.heap.size, 0, none⟩ _ rfl hload) rfl ⟨_, rfl, RuleX.zero _ _, below_stored HV.out (Nat.le_refl _) _ _ _⟩
  ·obtain ⟨x2, hx2⟩ : ∃ x2, x2 = (Wr.decI (l.drop u1)).1 := ⟨_, rfl⟩
   obtain ⟨u2, hu2'⟩ : ∃ u2, u2 = (Wr.decI (l.drop u1)).2.1 := ⟨_, rfl⟩
   obtain ⟨e2, he2⟩ : ∃ e2, e2 = (Wr.decI (l.drop u1)).2.2 := ⟨_, rfl⟩
   rw [← hx2, ← hu2', ← he2] at C2
   rw [← hu2'] at hu2
   rw [← he2] at D2
   rw [← hu2', ← he2] at D3
   rw [← hx2, ← hu2', ← he2] at D4
   have HX2 := hide (show e2 = 0 → Wr.inI x2 from fun h => by
    have h' : (Wr.decI (l.drop u1)).2.2 = 0 := by rw [← he2]; exact h
    rw [hx2]
    exact (Wr.enc_dec (l := l.drop u1) (n := (Wr.decI (l.drop u1)).1) (u := (Wr.decI (l.drop u1)).2.1) (by rw [← h'])).1)
   clear hx2 hu2' he2 C2E
   by_cases h2 : e2 ≠ 0
   ·have HD := hide (D2.out h2)
    have hb2 : (e2 != 0) = true := by rw [bne_iff_ne]; exact h2
    clear h2 D2 D3 D4
    go_enter Tryd.func56, Tryd.ntmps56
    go_upto_region 1 with fail
    refine name_world fun V hV => ?_
    have VB := hide (show Blk V w.heap.size 45 #[.string { data := #[] }, .int .i64 0, .slice none 0 0] by rw [← hV.out]; exact Blk.new w _ _)
    have HV := hide (show Below w.heap.size w V by rw [← hV.out]; exact below_alloc w _)
    clear hV
    have B1 := hide (unhide C1 V HV.out)
    have B2 := hide (unhide C2 V HV.out)
    have k0 : V.cell? ⟨w.heap.size, 0, none⟩ = some (.string { data := #[] }) := VB.out.cell 0
    have k1 : V.cell? ⟨w.heap.size, 1, none⟩ = some (.int .i64 0) := VB.out.cell 1
    have k2 : V.cell? ⟨w.heap.size, 2, none⟩ = some (.slice none 0 0) := VB.out.cell 2
    have z0 := VB.out.frozen 0
    have z1 := VB.out.frozen 1
    have z2 := VB.out.frozen 2
    go_wp2_with (first | (go_at_call 58; (with_reducible refine (unhide B1).mono ?_); rintro e w1 ⟨rfl, rfl⟩) | (go_at_call 55; (with_reducible refine (unhide B2).mono ?_); rintro e w2 ⟨rfl, rfl⟩))
    have hload := rule_stored VB.out (.string { data := #[] }) (.int .i64 0) (.slice none 0 0)
    rw [HD.out]
    exact bodyPost_ret (v := .tuple #[.agg #[.string { data := #[] }, .int .i64 0, .slice none 0 0], .int .i64 0, .int .i64 e2]) (results_cell3 Tryd.results56 _ _ ⟨w.heap.size, 0, none⟩ _ rfl hload) rfl ⟨_, rfl, RuleX.zero _ _, below_stored HV.out (Nat.le_refl _) _ _ _⟩
   ·obtain rfl : e2 = 0 := by simpa using h2
    have D3 := hide (D3.out rfl)
    have D4 := hide (D4.out rfl)
    clear h2 D2
    have hln := HN.out
    have hcut2 : Reads w w.heap.size 1 (some (ad.add (u1 + u2))) (n - (u1 + u2)) (BV ((l.drop u1).drop u2)) := by
     rw [List.drop_drop]; exact reads_rest HRD.out (u1 + u2) (by omega)
    have C3 := hide (fun (W : World) (hb : Below w.heap.size w W) => getBytes_any (some (ad.add (u1 + u2))) (n - (u1 + u2)) (c - (u1 + u2)) ((l.drop u1).drop u2) W ((hcut2.below hb).more hb.size) (by unfold maxLen; omega) (by omega))
    have C3E := hide (fun (W : World) (hb : Below w.heap.size w W) => getBytes_any (some ad) 0 0 [] W (reads_zero _ _ _) (by unfold maxLen; omega) (by omega))
    have hu3 := Wr.decB_used ((l.drop u1).drop u2)
    rw [List.length_drop, List.length_drop] at hu3
    have hul2 : u1 + u2 ≤ n := by have := HN.out; omega
    clear hcut2 hln
    by_cases hcu2 : c = u1 + u2
    ·obtain rfl : n = c := by omega
     have hd : (l.drop u1).drop u2 = [] := by rw [List.drop_drop]; exact List.drop_eq_nil_of_le (by have := HN.out; omega)
     rw [hd] at D3
     have hI : Wr.decB [] = ([], 0, 3) := rfl
     rw [hI] at D3 C3E
     have HD := hide (D3.out (by decide))
     subst hcu2
     simp only [Nat.add_sub_cancel_left] at C2
     clear D3 D4 C3 hd hI HCUT hu3
     go_enter Tryd.func56, Tryd.ntmps56
     go_upto_region 1 with fail
     refine name_world fun V hV => ?_
     have VB := hide (show Blk V w.heap.size 45 #[.string { data := #[] }, .int .i64 0, .slice none 0 0] by rw [← hV.out]; exact Blk.new w _ _)
     have HV := hide (show Below w.heap.size w V by rw [← hV.out]; exact below_alloc w _)
     clear hV
     have B1 := hide (unhide C1 V HV.out)
     have B2 := hide (unhide C2 V HV.out)
     have B3 := hide (unhide C3E V HV.out)
     have k0 : V.cell? ⟨w.heap.size, 0, none⟩ = some (.string { data := #[] }) := VB.out.cell 0
     have k1 : V.cell? ⟨w.heap.size, 1, none⟩ = some (.int .i64 0) := VB.out.cell 1
     have k2 : V.cell? ⟨w.heap.size, 2, none⟩ = some (.slice none 0 0) := VB.out.cell 2
     have z0 := VB.out.frozen 0
     have z1 := VB.out.frozen 1
     have z2 := VB.out.frozen 2
     go_wp2_with (first | (go_at_call 58; (with_reducible refine (unhide B1).mono ?_); rintro e w1 ⟨rfl, rfl⟩) | (go_at_call 55; (with_reducible refine (unhide B2).mono ?_); rintro e w2 ⟨rfl, rfl⟩) | (go_at_call 58; (with_reducible refine (unhide B3).mono ?_); rintro e w3 ⟨rfl, rfl⟩))
     have hload := rule_stored VB.out (.string { data := #[] }) (.int .i64 0) (.slice none 0 0)
     rw [HD.out]
     exact bodyPost_ret (v := .tuple #[.agg #[.string { data := #[] }, .int .i64 0, .slice none 0 0], .int .i64 0, .int .i64 3]) (results_cell3 Tryd.results56 _ _ ⟨w.heap.size, 0, none⟩ _ rfl hload) rfl ⟨_, rfl, RuleX.zero _ _, below_stored HV.out (Nat.le_refl _) _ _ _⟩
    ·obtain ⟨x3, hx3⟩ : ∃ x3, x3 = (Wr.decB ((l.drop u1).drop u2)).1 := ⟨_, rfl⟩
     obtain ⟨u3, hu3'⟩ : ∃ u3, u3 = (Wr.decB ((l.drop u1).drop u2)).2.1 := ⟨_, rfl⟩
     obtain ⟨e3, he3⟩ : ∃ e3, e3 = (Wr.decB ((l.drop u1).drop u2)).2.2 := ⟨_, rfl⟩
     rw [← hx3, ← hu3', ← he3] at C3
     rw [← hu3'] at hu3
     rw [← he3] at D3
     rw [← hx3, ← hu3', ← he3] at D4
     clear hx3 hu3' he3 C3E HCUT
     by_cases h3 : e3 ≠ 0
     ·have HD := hide (D3.out h3)
      have hb3 : (e3 != 0) = true := by rw [bne_iff_ne]; exact h3
      clear h3 D3 D4
      go_enter Tryd.func56, Tryd.ntmps56
      go_upto_region 1 with fail
      refine name_world fun V hV => ?_
      have VB := hide (show Blk V w.heap.size 45 #[.string { data := #[] }, .int .i64 0, .slice none 0 0] by rw [← hV.out]; exact Blk.new w _ _)
      have HV := hide (show Below w.heap.size w V by rw [← hV.out]; exact below_alloc w _)
      clear hV
      have B1 := hide (unhide C1 V HV.out)
      have B2 := hide (unhide C2 V HV.out)
      have B3 := hide (unhide C3 V HV.out)
      have k0 : V.cell? ⟨w.heap.size, 0, none⟩ = some (.string { data := #[] }) := VB.out.cell 0
      have k1 : V.cell? ⟨w.heap.size, 1, none⟩ = some (.int .i64 0) := VB.out.cell 1
      have k2 : V.cell? ⟨w.heap.size, 2, none⟩ = some (.slice none 0 0) := VB.out.cell 2
      have z0 := VB.out.frozen 0
      have z1 := VB.out.frozen 1
      have z2 := VB.out.frozen 2
      go_wp2_with (first | (go_at_call 58; (with_reducible refine (unhide B1).mono ?_); rintro e w1 ⟨rfl, rfl⟩) | (go_at_call 55; (with_reducible refine (unhide B2).mono ?_); rintro e w2 ⟨rfl, rfl⟩) | (go_at_call 58; (with_reducible refine (unhide B3).mono ?_); rintro e w3 ⟨rfl, rfl⟩))
      have hload := rule_stored VB.out (.string { data := #[] }) (.int .i64 0) (.slice none 0 0)
      rw [HD.out]
      exact bodyPost_ret (v := .tuple #[.agg #[.string { data := #[] }, .int .i64 0, .slice none 0 0], .int .i64 0, .int .i64 e3]) (results_cell3 Tryd.results56 _ _ ⟨w.heap.size, 0, none⟩ _ rfl hload) rfl ⟨_, rfl, RuleX.zero _ _, below_stored HV.out (Nat.le_refl _) _ _ _⟩
     ·obtain rfl : e3 = 0 := by simpa using h3
      have HD := hide (D4.out rfl)
      clear h3 D3 D4
      have hsum : u1 + u2 + u3 ≤ n := by have := HN.out; omega
      go_enter Tryd.func56, Tryd.ntmps56
      go_upto_region 1 with fail
      refine name_world fun V hV => ?_
      have VB := hide (show Blk V w.heap.size 45 #[.string { data := #[] }, .int .i64 0, .slice none 0 0] by rw [← hV.out]; exact Blk.new w _ _)
      have HV := hide (show Below w.heap.size w V by rw [← hV.out]; exact below_alloc w _)
      clear hV
      have B1 := hide (unhide C1 V HV.out)
      have B2 := hide (unhide C2 V HV.out)
      have B3 := hide (unhide C3 V HV.out)
      obtain ⟨c5, w5, hconv, hc5, hrd5, hb5, hs5⟩ := conv_bytesY x3 V
      have HR5 := hide hrd5
      have HC5 := hide hc5
      have VB5 := hide (VB.out.below hb5 VB.out.lt)
      have HV5 := hide (HV.out.trans (hb5.mono HV.out.size))
      have k0 : w5.cell? ⟨w.heap.size, 0, none⟩ = some (.string { data := #[] }) := VB5.out.cell 0
      have k1 : w5.cell? ⟨w.heap.size, 1, none⟩ = some (.int .i64 0) := VB5.out.cell 1
      have k2 : w5.cell? ⟨w.heap.size, 2, none⟩ = some (.slice none 0 0) := VB5.out.cell 2
      have z0 := VB5.out.frozen 0
      have z1 := VB5.out.frozen 1
      have z2 := VB5.out.frozen 2
      have hvw := VB.out.lt
      have HVW := hide hvw
      obtain ⟨gc, hgc⟩ : ∃ gc, gc = V.heap.size := ⟨_, rfl⟩
      rw [← hgc] at hconv HR5 HVW
      obtain ⟨l3, hl3⟩ : ∃ l3, l3 = x3.length := ⟨_, rfl⟩
      have HL3 := hide hl3
      rw [← hl3] at hconv
      clear hc5 hrd5 hb5 hs5 hgc hvw hl3
      go_wp2_with (first | (go_at_call 58; (with_reducible refine (unhide B1).mono ?_); rintro e w1 ⟨rfl, rfl⟩) | (go_at_call 55; (with_reducible refine (unhide B2).mono ?_); rintro e w2 ⟨rfl, rfl⟩) | (go_at_call 58; (with_reducible refine (unhide B3).mono ?_); rintro e w3 ⟨rfl, rfl⟩))
      have hload := rule_stored VB5.out (.string (S x1)) (.int .i64 x2) (.slice (some ⟨gc, 0, none⟩) l3 c5)
      rw [HD.out]
      have hint : ((u1 : Int) + (u2 : Int) + (u3 : Int)) = (((u1 + (u2 + u3) : Nat)) : Int) := by omega
      refine bodyPost_ret (v := .tuple #[.agg #[.string (S x1), .int .i64 x2, .slice (some ⟨gc, 0, none⟩) l3 c5], .int .i64 ((u1 : Int) + (u2 : Int) + (u3 : Int)), .int .i64 0]) (results_cell3 Tryd.results56 _ _ ⟨w.heap.size, 0, none⟩ _ rfl hload) rfl ⟨_, ?_, ⟨some ⟨gc, 0, none⟩, c5, rfl, ?_, ?_⟩, below_stored HV5.out (Nat.le_refl _) _ _ _⟩
      ·rw [← hint, HL3.out]
      ·have hne := HVW.out
       refine BsX.grownZ (w := w5) ⟨HR5.out, HC5.out⟩ (row := some w.heap.size) (stored_grown _ _ _ _ _) (fun _ a ha he => ?_)
       injection ha with ha
       subst ha
       injection he with he
       have he2 : gc = w.heap.size := he
       omega
      ·intro a ha
       injection ha with ha
       subst ha
       have := HVW.out
       show w.heap.size ≤ gc
       omega
def OwnX (w : World) (b : Nat) (v : Value) (rs : List Tb.Rl) : Prop :=
 w.ownsRow b 45 3 v rs.length (RC rs) ∧ ∀ r ∈ rs, BsX w w.heap.size r.cells ∧ Wr.inI r.wh ∧ (0 < r.cells.l.length → ∀ a, r.cells.ad = some a → some a.block ≠ v.ownBlock ∧ b ≤ a.block)
theorem OwnX.nil (w : World) (b : Nat) : OwnX w b (.slice none 0 0) [] := ⟨own_nil _ _ _ _, fun r hr => by cases hr⟩
theorem OwnX.below {w w' : World} {b : Nat} {v : Value} {rs : List Tb.Rl} (h : OwnX w b v rs) (hb : Below w.heap.size w w') : OwnX w' b v rs :=
 ⟨own_below h.1 hb, fun r hr => ⟨((h.2 r hr).1.below hb).more hb.size, (h.2 r hr).2⟩⟩
theorem BsX.lt {w : World} {b : Tb.Bs} (h : BsX w w.heap.size b) (hn : 0 < b.l.length) (a : Addr) (ha : b.ad = some a) : a.block < w.heap.size := by
 obtain ⟨a', ha', hb, _⟩ := h.1.2 hn
 rw [ha] at ha'
 injection ha' with ha'
 subst ha'
 exact hb
theorem OwnX.snoc {W W' : World} {b : Nat} {v v' : Value} {rs : List Tb.Rl} (ho : OwnX W b v rs) (r : Tb.Rl) (hr : BsX W W.heap.size r.cells ∧ Wr.inI r.wh ∧ (0 < r.cells.l.length → ∀ a, r.cells.ad = some a → some a.block ≠ v.ownBlock ∧ b ≤ a.block))
  (hown : W'.ownsRow b 45 3 v' (rs.length + 1) (RC rs ++ RC [r])) (hg : W.grownBy W' v.ownBlock) (hat : v'.ownBlock = v.ownBlock ∨ v'.ownBlock = some W.heap.size) : OwnX W' b v' (rs ++ [r]) := by
 refine ⟨by rw [RC_append, List.length_append]; exact hown, fun x hx => ?_⟩
 have hq : BsX W W.heap.size x.cells ∧ Wr.inI x.wh ∧ (0 < x.cells.l.length → ∀ a, x.cells.ad = some a → some a.block ≠ v.ownBlock ∧ b ≤ a.block) := by
  rcases List.mem_append.1 hx with h | h
  ·exact ho.2 x h
  ·rw [List.mem_singleton] at h; subst h; exact hr
 refine ⟨hq.1.grownZ hg (fun hn a ha => (hq.2.2 hn a ha).1), hq.2.1, fun hn a ha => ⟨?_, (hq.2.2 hn a ha).2⟩⟩
 rcases hat with h | h
 ·rw [h]; exact (hq.2.2 hn a ha).1
 ·rw [h]
  intro he
  injection he with he
  have := hq.1.lt hn a ha
  omega
def LangX (w : World) (B : Nat) (v : Value) (R : List Wr.Ru) : Prop := ∃ rs, OwnX w B v rs ∧ rs.map ru = R
theorem LangX.nil (w : World) (B : Nat) : LangX w B (.slice none 0 0) [] := ⟨[], OwnX.nil _ _, rfl⟩
theorem RC_of (r : Tb.Rl) : RC [r] = [.string (S r.text), .int .i64 r.wh, .slice r.cells.ad r.cells.l.length r.cells.c] := rfl
theorem decR_used (l : List UInt8) (h : (Wr.decR l).2.2 = 0) : 3 ≤ (Wr.decR l).2.1 ∧ (Wr.decR l).2.1 ≤ l.length ∧ Wr.inI (Wr.decR l).1.2.1 := by
 obtain ⟨h1, h2, h3⟩ := Wr.codecRule.canon l h
 have h4 := Wr.codecRule.least _ h1
 rw [← h3, List.length_take] at h4
 exact ⟨by omega, h2, h1.2.1⟩
theorem ruleInfo3'' : (Tryd.prog.info? 45).map (fun i => (i.zero, i.size, i.bytes)) = some (some (.agg #[.string { data := #[] }, .int .i64 0, .slice none 0 0]), 3, 48) := by kernel_rfl
theorem reads_rule1 (W : World) (a b c : Value) : Reads (W.alloc (.cells #[a, b, c] 45)) (W.alloc (.cells #[a, b, c] 45)).heap.size 3 (some ⟨W.heap.size, 0, none⟩) 1 [a, b, c] :=
 ⟨rfl, fun _ => ⟨_, rfl, by simp, fun j u hj => by
  have : ((⟨W.heap.size, 0, none⟩ : Addr).add j) = ⟨W.heap.size, j, none⟩ := by simp [Addr.add]; intro h; omega
  rw [this, Blk.cell (Blk.new W 45 #[a, b, c]), ← hj]
  simp⟩⟩
set_option maxHeartbeats 4000000 in
set_option maxRecDepth 100000 in
theorem getRules_any (A : Option Addr) (n c : Nat) (l : List UInt8) (w : World) (hr : Reads w w.heap.size 1 A n (BV l)) (hm : n ≤ 1099511627776) (hnc : n ≤ c) :
  Calls Tryd.prog 33 #[.slice A n c] w fun e w' => ∃ v, e = .returned (.tuple #[v, .int .i64 ((Wr.decN Wr.decR l).2.1 : Nat), .int .i64 (Wr.decN Wr.decR l).2.2]) ∧ LangX w' w.heap.size v (Wr.decN Wr.decR l).1 ∧ Below w.heap.size w w' := by
 have hn : n = l.length := by have := hr.1; simp [BV] at this; omega
 have C1 := hide (getInt_any A n c l w hr (by unfold maxLen; omega) hnc)
 have HRES := hide (show Wr.decN Wr.decR l = if (Wr.decI l).2.2 ≠ 0 then ([], 0, (Wr.decI l).2.2) else if (Wr.decI l).1 < 0 then ([], 0, 2) else Wr.comb [] (Wr.decI l).2.1 (Wr.decLoop Wr.decR (Wr.decI l).1.toNat (l.drop (Wr.decI l).2.1)) from rfl)
 have hu := Wr.decI_used l
 have H0 := hide (fun (h : l = []) => (show (Wr.decI l).2.2 = 3 from by rw [h]; rfl))
 obtain ⟨RES, hRES⟩ : ∃ RES, RES = Wr.decN Wr.decR l := ⟨_, rfl⟩
 rw [← hRES] at HRES ⊢
 obtain ⟨z, hz⟩ : ∃ z, z = (Wr.decI l).1 := ⟨_, rfl⟩
 obtain ⟨u, hu'⟩ : ∃ u, u = (Wr.decI l).2.1 := ⟨_, rfl⟩
 obtain ⟨e1, he1⟩ : ∃ e1, e1 = (Wr.decI l).2.2 := ⟨_, rfl⟩
 have HZI := hide (show e1 = 0 → Wr.inI z from fun h => by
  rw [he1] at h
  rw [hz]
  exact (Wr.enc_dec (l := l) (n := (Wr.decI l).1) (u := (Wr.decI l).2.1) (by rw [← h])).1)
 rw [← hz, ← hu', ← he1] at C1 HRES
 rw [← hu'] at hu
 rw [← he1] at H0
 have HRD := hide hr
 have HN := hide hn
 have HW := hide (Below.refl w.heap.size w)
 clear hRES hz hu' he1 hr hn
 by_cases h1 : e1 ≠ 0
 ·have hb1 : (e1 != 0) = true := by rw [bne_iff_ne]; exact h1
  have HD := hide (show RES = ([], 0, e1) from by rw [HRES.out, if_pos h1])
  clear h1 HRES
  go_enter Tryd.func33, Tryd.ntmps33
  go_wp2_with (go_at_call 55; (with_reducible refine (unhide C1).mono ?_); rintro e w1 ⟨rfl, rfl⟩)
  rw [HD.out]
  exact bodyPost_ret (v := .tuple #[.slice none 0 0, .int .i64 0, .int .i64 e1]) (by simp [results, Tryd.results33, go_sem]) rfl ⟨_, rfl, LangX.nil _ _, HW.out⟩
 ·obtain rfl : e1 = 0 := by simpa using h1
  by_cases h2 : z < 0
  ·have HD := hide (show RES = ([], 0, 2) from by rw [HRES.out, if_neg h1, if_pos h2])
   clear h1 HRES
   go_enter Tryd.func33, Tryd.ntmps33
   go_wp2_with (go_at_call 55; (with_reducible refine (unhide C1).mono ?_); rintro e w1 ⟨rfl, rfl⟩)
   rw [HD.out]
   exact bodyPost_ret (v := .tuple #[.slice none 0 0, .int .i64 0, .int .i64 2]) (by simp [results, Tryd.results33, go_sem]) rfl ⟨_, rfl, LangX.nil _ _, HW.out⟩
  ·have hn1 : 1 ≤ n := by
    rcases Nat.eq_zero_or_pos n with h | h
    ·exact absurd (H0.out (by have := HN.out; exact List.length_eq_zero_iff.1 (by omega))) (by simp)
    ·exact h
   obtain ⟨ad, hA, _, _⟩ := HRD.out.2 (by omega)
   subst hA
   have hul : u ≤ n := by have := HN.out; omega
   obtain ⟨m, rfl⟩ : ∃ m : Nat, z = (m : Int) := ⟨z.toNat, by omega⟩
   have HD := hide (show Wr.comb [] u (Wr.decLoop Wr.decR m (l.drop u)) = RES from by rw [HRES.out, if_neg h1, if_neg h2]; rfl)
   have hmi : (m : Int) ≤ 9223372036854775807 := (HZI.out rfl).2
   obtain ⟨i0, hi, hz0, hz1, hz2⟩ := info_parts ruleInfo3''
   have HI := hide hi
   have HZ0 := hide hz0
   have HZ1 := hide hz1
   have HZ2 := hide hz2
   have HX0 := hide (OwnX.nil w w.heap.size)
   clear h1 h2 HRES hi hz0 hz1 hz2
   go_enter Tryd.func33, Tryd.ntmps33
   go_wp2_with (go_at_call 55; (with_reducible refine (unhide C1).mono ?_); rintro e w1 ⟨rfl, rfl⟩)
   go_loopw [8, 6, 24] (fun s8 s6 s wr => ∃ (i us : Nat) (rs : List Tb.Rl) (y8 : Value), i ≤ m ∧ s = .int .i64 (i : Int) ∧ s6 = .int .i64 (us : Int) ∧ y8 = s8 ∧ us ≤ n ∧ rs.length ≤ us ∧ Hid (OwnX wr w.heap.size y8 rs ∧ Wr.comb (rs.map ru) us (Wr.decLoop Wr.decR (m - i) (l.drop us)) = RES) ∧ Below w.heap.size w wr) (fun _ _ s _ => m - (intOf s).toNat)
   case atStart => exact ⟨0, u, [], .slice none 0 0, by omega, rfl, rfl, rfl, hul, by simp, ⟨HX0.out, HD.out⟩, HW.out⟩
   case round =>
    obtain ⟨i, us, rs, y8, hi, rfl, rfl, rfl, hus, hrl, HO, hbel⟩ := hrel
    obtain ⟨wd, rfl⟩ : ∃ wd, wd = wr := ⟨wr, rfl⟩
    have HB := hide hbel
    have hds := hbel.size
    have hi0 : (0 : Int) ≤ (i : Int) := by omega
    by_cases hlt : (i : Int) < (m : Int)
    ·have HE := hide (Wr.comb_err Wr.decR (rs.map ru) us (m - i - 1) (l.drop us))
     have HK := hide (Wr.comb_ok Wr.decR (rs.map ru) us (m - i - 1) (l.drop us))
     have hst := HO.out.2
     rw [show m - i = m - i - 1 + 1 by omega] at hst
     rw [hst] at HE HK
     have HLT := hide (show i + 1 ≤ m by omega)
     have HMI := hide (show m - i - 1 = m - (i + 1) by omega)
     clear hst
     by_cases hcu : c = us
     ·obtain rfl : n = c := by omega
      subst hcu
      have hd : l.drop n = [] := List.drop_eq_nil_of_le (by have := HN.out; omega)
      rw [hd] at HE
      have hI : Wr.decR [] = (([], 0, []), 0, 3) := rfl
      rw [hI] at HE
      have HD2 := hide (HE.out (by decide))
      have C2 := hide (getRule_any (some ad) 0 0 [] wd (reads_zero _ _ _) (by omega) (by omega))
      rw [hI] at C2
      clear hd hI HE HK HO hbel
      go_wp2_with (go_at_call 56; (with_reducible refine (unhide C2).mono ?_); rintro e w2 ⟨v2, rfl, ⟨ad2, c2, rfl, hbs2, hfr2⟩, hb2⟩; have HBS2 := hide hbs2; have HFR2 := hide hfr2; have HB2 := hide hb2; clear hbs2 hfr2 hb2)
      rw [HD2.out]
      exact bodyPost_ret (v := .tuple #[.slice none 0 0, .int .i64 0, .int .i64 3]) (by simp [results, Tryd.results33, go_sem]) rfl ⟨_, rfl, LangX.nil _ _, (HB.out.trans (HB2.out.mono hds)).alloc (Nat.le_trans hds HB2.out.size) _⟩
     ·have hcut := reads_rest HRD.out us hus
      have C2 := hide (getRule_any (some (ad.add us)) (n - us) (c - us) (l.drop us) wd ((hcut.below hbel).more hds) (by omega) (by omega))
      have HUS := hide (decR_used (l.drop us))
      obtain ⟨R2, hR2⟩ : ∃ R2, R2 = Wr.decR (l.drop us) := ⟨_, rfl⟩
      rw [← hR2] at C2 HUS HE HK
      obtain ⟨⟨x0, x1, x2⟩, ur, er⟩ := R2
      simp only at C2 HUS HE HK
      have HLD := hide (show (l.drop us).length = n - us from by rw [List.length_drop]; have := HN.out; omega)
      clear hR2 hcut
      by_cases her : er ≠ 0
      ·have hber : (er != 0) = true := by rw [bne_iff_ne]; exact her
       have HD2 := hide (HE.out her)
       clear HE HK HO hbel her HUS
       go_wp2_with (go_at_call 56; (with_reducible refine (unhide C2).mono ?_); rintro e w2 ⟨v2, rfl, ⟨ad2, c2, rfl, hbs2, hfr2⟩, hb2⟩; have HBS2 := hide hbs2; have HFR2 := hide hfr2; have HB2 := hide hb2; clear hbs2 hfr2 hb2)
       rw [HD2.out]
       exact bodyPost_ret (v := .tuple #[.slice none 0 0, .int .i64 0, .int .i64 er]) (by simp [results, Tryd.results33, go_sem]) rfl ⟨_, rfl, LangX.nil _ _, (HB.out.trans (HB2.out.mono hds)).alloc (Nat.le_trans hds HB2.out.size) _⟩
      ·obtain rfl : er = 0 := by simpa using her
       have HNX := hide (HK.out rfl)
       obtain ⟨hu3, hu4, hin⟩ := HUS.out rfl
       have hul2 : us + ur ≤ n := by have := HLD.out; omega
       have HIN := hide hin
       have HOO := hide HO.out.1
       obtain ⟨l2, hl2⟩ : ∃ l2, l2 = x2.length := ⟨_, rfl⟩
       have HL2 := hide hl2
       have C3 := hide (show Calls Tryd.prog 56 #[.slice (some (ad.add us)) (n - us) (c - us)] wd fun e w' => ∃ (ad2 : Option Addr) (c2 : Nat), e = .returned (.tuple #[.agg #[.string (S x0), .int .i64 x1, .slice ad2 l2 c2], .int .i64 (ur : Nat), .int .i64 0]) ∧ BsX w' w'.heap.size ⟨x2, ad2, c2⟩ ∧ (∀ a, ad2 = some a → wd.heap.size ≤ a.block) ∧ Below wd.heap.size wd w' from
        (unhide C2).mono fun e w' ⟨v, he, ⟨ad2, c2, hv, hb, hf⟩, hbel⟩ => ⟨ad2, c2, by rw [he, hv, hl2], hb, hf, hbel⟩)
       clear HE HK HO hbel her HUS hin hl2 C2
       go_upto_region 10 with (go_at_call 56; (with_reducible refine (unhide C3).mono ?_); rintro e w2 ⟨ad2, c2, rfl, hbs2, hfr2, hb2⟩; have HBS2 := hide hbs2; have HFR2 := hide hfr2; have HB2 := hide hb2; clear hbs2 hfr2 hb2)
       refine name_world fun Y hY => ?_
       have YB := hide (show Blk Y w2.heap.size 45 #[.string (S x0), .int .i64 x1, .slice ad2 l2 c2] by rw [← hY.out]; exact Blk.new w2 _ _)
       have HYB := hide (show Below w2.heap.size w2 Y by rw [← hY.out]; exact below_alloc w2 _)
       have HBY := hide ((HB.out.trans (HB2.out.mono hds)).trans (HYB.out.mono (Nat.le_trans hds HB2.out.size)))
       clear hY
       have k0 : Y.cell? ⟨w2.heap.size, 0, none⟩ = some (.string (S x0)) := YB.out.cell 0
       have k1 : Y.cell? ⟨w2.heap.size, 1, none⟩ = some (.int .i64 x1) := YB.out.cell 1
       have k2 : Y.cell? ⟨w2.heap.size, 2, none⟩ = some (.slice ad2 l2 c2) := YB.out.cell 2
       have HOY := hide ((HOO.out.below HB2.out).below HYB.out)
       have hys := HBY.out.size
       have HBSY := hide (show BsX Y Y.heap.size ⟨x2, ad2, c2⟩ from (HBS2.out.below HYB.out).more HYB.out.size)
       have HNE := hide (show ∀ a, ad2 = some a → some a.block ≠ y8.ownBlock ∧ w.heap.size ≤ a.block from fun a ha => by
        have h1 := HFR2.out a ha
        refine ⟨fun he => ?_, by omega⟩
        have h2 := (HOO.out.1.lt a.block he.symm).2
        omega)
       clear C3
       have hlb : us + ur ≤ 1099511627776 := by omega
       have hrl3 : rs.length ≤ 1099511627776 := by omega
       have HAL := hide (below_alloc Y (.cells #[.string (S x0), .int .i64 x1, .slice ad2 l2 c2] 45))
       go_wp2_with (at_builtin; refine wpList_append_any _ rfl (.tmp 37) (.tmp 39) 24 rfl w.heap.size 45 i0 (.agg #[.string { data := #[] }, .int .i64 0, .slice none 0 0]) 3 48 Tryd.underlying24 HI.out HZ0.out HZ1.out HZ2.out rfl (by omega) y8 rs.length (RC rs) rfl (own_below HOY.out.1 HAL.out) _ (some ⟨Y.heap.size, 0, none⟩) 1 1 [.string (S x0), .int .i64 x1, .slice ad2 l2 c2] rfl (reads_rule1 Y _ _ _) (by simp [Value.oneCell']) (by unfold maxLen; omega) (by omega) (by simp; omega) ?_; intro v4 w4 hown4 hgrow4 hat4; have HO4 := hide hown4; have HG4 := hide hgrow4; have HA4 := hide hat4; clear hown4 hgrow4 hat4)
       have HOA := hide (HOY.out.below HAL.out)
       have HSN := hide (show OwnX w4 w.heap.size v4 (rs ++ [⟨x0, x1, ⟨x2, ad2, c2⟩⟩]) from HOA.out.snoc ⟨x0, x1, ⟨x2, ad2, c2⟩⟩ ⟨(HBSY.out.below HAL.out).more HAL.out.size, HIN.out, fun _ a ha => HNE.out a ha⟩ (by rw [RC_of]; have h := HO4.out; rw [HL2.out] at h; exact h) HG4.out HA4.out)
       have HBF := hide (show Below w.heap.size w w4 from (HBY.out.trans (HAL.out.mono hys)).trans (below_grown HG4.out HOA.out.1 (by simp; omega)))
       refine ⟨⟨i + 1, us + ur, rs ++ [⟨x0, x1, ⟨x2, ad2, c2⟩⟩], v4, HLT.out, by go_num, by go_num, rfl, hul2, by rw [List.length_append, List.length_singleton]; omega, ⟨HSN.out, ?_⟩, HBF.out⟩, by have := HLT.out; simp only [intOf]; omega⟩
       have h := HNX.out
       rw [List.drop_drop, HMI.out] at h
       rw [List.map_append]
       exact h.symm
    ·obtain rfl : i = m := by omega
     have hend := HO.out.2
     rw [Nat.sub_self, Wr.comb_end] at hend
     have HOO := hide HO.out.1
     have HEND := hide hend
     clear hend HO hbel
     go_wp2
     rw [← HEND.out]
     exact bodyPost_ret (v := .tuple #[y8, .int .i64 (us : Int), .int .i64 0]) (by simp [results, Tryd.results33, go_sem]) rfl ⟨_, rfl, ⟨rs, HOO.out, rfl⟩, HB.out⟩
namespace Wr
theorem decT_err0 {l : List UInt8} (h : (decN decR l).2.2 ≠ 0) : decT l = ((([], []), []), 0, (decN decR l).2.2) := by simp only [decT, thenD, h, ne_eq, not_false_eq_true, if_true]
theorem decT_err1 {l : List UInt8} (h : (decN decR l).2.2 = 0) (h2 : (decN decR (l.drop (decN decR l).2.1)).2.2 ≠ 0) : decT l = ((([], []), []), 0, (decN decR (l.drop (decN decR l).2.1)).2.2) := by simp only [decT, thenD, h, h2, ne_eq, not_true_eq_false, if_false, not_false_eq_true, if_true]
theorem decT_err2 {l : List UInt8} {R0 R1 : List Ru} {u0 u1 : Nat} (h : decN decR l = (R0, u0, 0)) (h2 : decN decR (l.drop u0) = (R1, u1, 0)) (h3 : (dec5 (l.drop (u0 + u1))).2.2 ≠ 0) : decT l = ((([], []), []), 0, (dec5 (l.drop (u0 + u1))).2.2) := by simp only [decT, thenD, h, h2, ne_eq, not_true_eq_false, if_false, h3, not_false_eq_true, if_true]
theorem decT_ok {l : List UInt8} {R0 R1 : List Ru} {u0 u1 : Nat} (h : decN decR l = (R0, u0, 0)) (h2 : decN decR (l.drop u0) = (R1, u1, 0)) (h3 : (dec5 (l.drop (u0 + u1))).2.2 = 0) : decT l = (((R0, R1), (dec5 (l.drop (u0 + u1))).1), u0 + u1 + (dec5 (l.drop (u0 + u1))).2.1, 0) := by simp only [decT, thenD, h, h2, ne_eq, not_true_eq_false, if_false, h3]
end Wr
theorem LangX.below {w w' : World} {B : Nat} {v : Value} {R : List Wr.Ru} (h : LangX w B v R) (hb : Below w.heap.size w w') : LangX w' B v R := by
 obtain ⟨rs, h1, h2⟩ := h
 exact ⟨rs, h1.below hb, h2⟩
theorem LangX.grownOff {w w' : World} {b g : Nat} {v : Value} {R : List Wr.Ru} (h : LangX w b v R) (hg : w.grownBy w' (some g)) (hgb : g < b) : LangX w' b v R := by
 obtain ⟨rs, ⟨h1, h2⟩, h3⟩ := h
 refine ⟨rs, ⟨own_grownOff h1 hg (fun k hk e => ?_), fun r hr => ⟨(h2 r hr).1.grownZ hg (fun hn a ha hc => ?_), (h2 r hr).2⟩⟩, h3⟩
 ·have := (h1.lt k e).1
  injection hk with hk
  omega
 ·have := ((h2 r hr).2.2 hn a ha).2
  injection hc with hc
  omega
theorem LangX.lower {w : World} {b b' : Nat} {v : Value} {R : List Wr.Ru} (h : LangX w b v R) (hb : b' ≤ b) : LangX w b' v R := by
 obtain ⟨rs, ⟨h1, h2⟩, h3⟩ := h
 exact ⟨rs, ⟨own_lower h1 hb, fun r hr => ⟨(h2 r hr).1, (h2 r hr).2.1, fun hn a ha => ⟨((h2 r hr).2.2 hn a ha).1, Nat.le_trans hb ((h2 r hr).2.2 hn a ha).2⟩⟩⟩, h3⟩
theorem LangX.slice {w : World} {b : Nat} {v : Value} {R : List Wr.Ru} (h : LangX w b v R) : ∃ A n c, v = .slice A n c := by
 obtain ⟨rs, ⟨h1, _⟩, _⟩ := h
 obtain ⟨A, c, rfl, _⟩ := own_slice h1
 exact ⟨_, _, _, rfl⟩
theorem LangX.set {w2 : World} {b g i : Nat} {v : Value} {R : List Wr.Ru} (h : LangX w2 b v R) (hgb : g < b) (x : Value) : LangX (w2.setCell ⟨g, i, none⟩ x) b v R :=
 h.grownOff (only_setCell (p := ⟨g, i, none⟩) (World.grownBy.refl w2 (some g)) (.inl rfl) x) hgb
theorem five_of {α : Type} {xs : List α} (h : xs.length = 5) : ∃ y0 y1 y2 y3 y4, xs = [y0, y1, y2, y3, y4] := by
 match xs, h with
 | [a, b, c, d, e], _ => exact ⟨a, b, c, d, e, rfl⟩
theorem own_five {w : World} {b e : Nat} {v : Value} {xs : List Value} (h : w.ownsRow b e 1 v 5 xs) : ∃ g c, v = .slice (some ⟨g, 0, none⟩) 5 c ∧ ∀ (j : Nat) (u : Value), xs[j]? = some u → w.cell? ⟨g, j, none⟩ = some u := by
 obtain ⟨A, c, rfl, _, _⟩ := own_slice h
 have hr := Reads.of_own h
 rcases h.2 with ⟨h0, _⟩ | ⟨g, cap, cur, hv, _⟩
 ·cases h0
 ·injection hv with hv _ hv2
  subst hv
  refine ⟨g, c, rfl, fun j u hu => ?_⟩
  obtain ⟨a, ha, _, hc⟩ := hr.2 (by omega)
  injection ha with ha
  subst ha
  have := hc j u hu
  rwa [show ((⟨g, 0, none⟩ : Addr).add j) = ⟨g, j, none⟩ by simp [Addr.add]; intro h; omega] at this
theorem tab_set {V : World} {g : Nat} {o0 o1 o2 o3 o4 o5 o6 : Value} (h : Blk V g 29 #[o0, o1, o2, o3, o4, o5, o6]) (a0 a1 a2 a3 a4 a5 a6 : Value) : Blk (((((((V.setCell ⟨g, 0, none⟩ a0).setCell ⟨g, 1, none⟩ a1).setCell ⟨g, 2, none⟩ a2).setCell ⟨g, 3, none⟩ a3).setCell ⟨g, 4, none⟩ a4).setCell ⟨g, 5, none⟩ a5).setCell ⟨g, 6, none⟩ a6) g 29 #[a0, a1, a2, a3, a4, a5, a6] := by
 have h0 := h.set_ 0 a0
 generalize V.setCell ⟨g, 0, none⟩ a0 = W0 at *
 have h1 := Blk.set_ (show Blk W0 g 29 #[a0, o1, o2, o3, o4, o5, o6] from h0) 1 a1
 generalize W0.setCell ⟨g, 1, none⟩ a1 = W1 at *
 have h2 := Blk.set_ (show Blk W1 g 29 #[a0, a1, o2, o3, o4, o5, o6] from h1) 2 a2
 generalize W1.setCell ⟨g, 2, none⟩ a2 = W2 at *
 have h3 := Blk.set_ (show Blk W2 g 29 #[a0, a1, a2, o3, o4, o5, o6] from h2) 3 a3
 generalize W2.setCell ⟨g, 3, none⟩ a3 = W3 at *
 have h4 := Blk.set_ (show Blk W3 g 29 #[a0, a1, a2, a3, o4, o5, o6] from h3) 4 a4
 generalize W3.setCell ⟨g, 4, none⟩ a4 = W4 at *
 have h5 := Blk.set_ (show Blk W4 g 29 #[a0, a1, a2, a3, a4, o5, o6] from h4) 5 a5
 generalize W4.setCell ⟨g, 5, none⟩ a5 = W5 at *
 exact Blk.set_ (show Blk W5 g 29 #[a0, a1, a2, a3, a4, a5, o6] from h5) 6 a6
theorem tab_stored {V : World} {g : Nat} {o0 o1 o2 o3 o4 o5 o6 : Value} (h : Blk V g 29 #[o0, o1, o2, o3, o4, o5, o6]) (a0 a1 a2 a3 a4 a5 a6 : Value) :
  (loadVar 29 ⟨g, 0, none⟩).run Tryd.prog (((((((V.setCell ⟨g, 0, none⟩ a0).setCell ⟨g, 1, none⟩ a1).setCell ⟨g, 2, none⟩ a2).setCell ⟨g, 3, none⟩ a3).setCell ⟨g, 4, none⟩ a4).setCell ⟨g, 5, none⟩ a5).setCell ⟨g, 6, none⟩ a6) = .ok (.agg #[a0, a1, a2, a3, a4, a5, a6]) (((((((V.setCell ⟨g, 0, none⟩ a0).setCell ⟨g, 1, none⟩ a1).setCell ⟨g, 2, none⟩ a2).setCell ⟨g, 3, none⟩ a3).setCell ⟨g, 4, none⟩ a4).setCell ⟨g, 5, none⟩ a5).setCell ⟨g, 6, none⟩ a6) := by
 have h7 := tab_set h a0 a1 a2 a3 a4 a5 a6
 generalize (((((((V.setCell ⟨g, 0, none⟩ a0).setCell ⟨g, 1, none⟩ a1).setCell ⟨g, 2, none⟩ a2).setCell ⟨g, 3, none⟩ a3).setCell ⟨g, 4, none⟩ a4).setCell ⟨g, 5, none⟩ a5).setCell ⟨g, 6, none⟩ a6) = W at *
 exact run_loadVar_row _ _ _ _ _ _ _ h7 Tryd.underlying29 rfl tablesInfo
theorem nil7 {w : World} {g : Nat} (h : Blk w g 29 #[.slice none 0 0, .slice none 0 0, .slice none 0 0, .slice none 0 0, .slice none 0 0, .slice none 0 0, .slice none 0 0]) : w.cell? ⟨g, 0, none⟩ = some (.slice none 0 0) ∧ w.cell? ⟨g, 1, none⟩ = some (.slice none 0 0) ∧ w.cell? ⟨g, 2, none⟩ = some (.slice none 0 0) ∧ w.cell? ⟨g, 3, none⟩ = some (.slice none 0 0) ∧ w.cell? ⟨g, 4, none⟩ = some (.slice none 0 0) ∧ w.cell? ⟨g, 5, none⟩ = some (.slice none 0 0) ∧ w.cell? ⟨g, 6, none⟩ = some (.slice none 0 0) ∧ w.frozen? ⟨g, 0, none⟩ = false ∧ w.frozen? ⟨g, 1, none⟩ = false ∧ w.frozen? ⟨g, 2, none⟩ = false ∧ w.frozen? ⟨g, 3, none⟩ = false ∧ w.frozen? ⟨g, 4, none⟩ = false ∧ w.frozen? ⟨g, 5, none⟩ = false ∧ w.frozen? ⟨g, 6, none⟩ = false :=
 ⟨h.cell 0, h.cell 1, h.cell 2, h.cell 3, h.cell 4, h.cell 5, h.cell 6, h.frozen 0, h.frozen 1, h.frozen 2, h.frozen 3, h.frozen 4, h.frozen 5, h.frozen 6⟩
theorem tab_below {V w : World} {B g : Nat} (h : Below B w V) (hg : B ≤ g) (a0 a1 a2 a3 a4 a5 a6 : Value) : Below B w (((((((V.setCell ⟨g, 0, none⟩ a0).setCell ⟨g, 1, none⟩ a1).setCell ⟨g, 2, none⟩ a2).setCell ⟨g, 3, none⟩ a3).setCell ⟨g, 4, none⟩ a4).setCell ⟨g, 5, none⟩ a5).setCell ⟨g, 6, none⟩ a6) :=
 ((((((h.setCell (p := ⟨g, 0, none⟩) hg a0).setCell (p := ⟨g, 1, none⟩) hg a1).setCell (p := ⟨g, 2, none⟩) hg a2).setCell (p := ⟨g, 3, none⟩) hg a3).setCell (p := ⟨g, 4, none⟩) hg a4).setCell (p := ⟨g, 5, none⟩) hg a5).setCell (p := ⟨g, 6, none⟩) hg a6
theorem tab_grown (V : World) (g : Nat) (a0 a1 a2 a3 a4 a5 a6 : Value) : V.grownBy (((((((V.setCell ⟨g, 0, none⟩ a0).setCell ⟨g, 1, none⟩ a1).setCell ⟨g, 2, none⟩ a2).setCell ⟨g, 3, none⟩ a3).setCell ⟨g, 4, none⟩ a4).setCell ⟨g, 5, none⟩ a5).setCell ⟨g, 6, none⟩ a6) (some g) :=
 only_setCell (p := ⟨g, 6, none⟩) (only_setCell (p := ⟨g, 5, none⟩) (only_setCell (p := ⟨g, 4, none⟩) (only_setCell (p := ⟨g, 3, none⟩) (only_setCell (p := ⟨g, 2, none⟩) (only_setCell (p := ⟨g, 1, none⟩) (only_setCell (p := ⟨g, 0, none⟩) (World.grownBy.refl V (some g)) (.inl rfl) a0) (.inl rfl) a1) (.inl rfl) a2) (.inl rfl) a3) (.inl rfl) a4) (.inl rfl) a5) (.inl rfl) a6
def decSt (l : List UInt8) (i us : Nat) (R0 R1 : List Wr.Ru) : Prop :=
 (i = 0 ∧ us = 0 ∧ R0 = [] ∧ R1 = []) ∨ (i = 1 ∧ Wr.decN Wr.decR l = (R0, us, 0) ∧ R1 = []) ∨ (i = 2 ∧ ∃ u0 u1, Wr.decN Wr.decR l = (R0, u0, 0) ∧ Wr.decN Wr.decR (l.drop u0) = (R1, u1, 0) ∧ us = u0 + u1)
theorem decSt_err {l : List UInt8} {i us : Nat} {R0 R1 : List Wr.Ru} (h : decSt l i us R0 R1) (hi : i < 2) (he : (Wr.decN Wr.decR (l.drop us)).2.2 ≠ 0) : Wr.decT l = ((([], []), []), 0, (Wr.decN Wr.decR (l.drop us)).2.2) := by
 rcases h with ⟨rfl, rfl, _⟩ | ⟨rfl, h, _⟩ | ⟨rfl, _⟩
 ·exact Wr.decT_err0 he
 ·have h1 : (Wr.decN Wr.decR l).2.2 = 0 := by rw [h]
  have h2 : (Wr.decN Wr.decR l).2.1 = us := by rw [h]
  have := Wr.decT_err1 h1 (by rw [h2]; exact he)
  rw [h2] at this
  exact this
 ·omega
theorem decN_used (l : List UInt8) : (Wr.decN Wr.decR l).2.1 ≤ l.length := by
 by_cases h : (Wr.decN Wr.decR l).2.2 = 0
 ·exact ((Wr.codecN Wr.codecRule).canon l h).2.1
 ·have h2 : Wr.decN Wr.decR l = Wr.decN Wr.decR l := rfl
  unfold Wr.decN at h ⊢
  by_cases h1 : (Wr.decI l).2.2 ≠ 0
  ·rw [if_pos h1]; exact Nat.zero_le _
  ·rw [if_neg h1] at h ⊢
   by_cases h3 : (Wr.decI l).1 < 0
   ·rw [if_pos h3]; exact Nat.zero_le _
   ·rw [if_neg h3] at h ⊢
    unfold Wr.comb at h ⊢
    by_cases h4 : (Wr.decLoop Wr.decR (Wr.decI l).1.toNat (l.drop (Wr.decI l).2.1)).2.2 ≠ 0
    ·rw [if_pos h4]; exact Nat.zero_le _
    ·rw [if_neg h4] at h; exact absurd rfl h
theorem OwnX.set {w2 : World} {b g i : Nat} {v : Value} {rs : List Tb.Rl} (h : OwnX w2 b v rs) (hgb : g < b) (x : Value) : OwnX (w2.setCell ⟨g, i, none⟩ x) b v rs := by
 have hg := only_setCell (p := ⟨g, i, none⟩) (World.grownBy.refl w2 (some g)) (.inl rfl) x
 refine ⟨own_grownOff h.1 hg (fun k hk e => ?_), fun r hr => ⟨(h.2 r hr).1.grownZ hg (fun hn a ha hc => ?_), (h.2 r hr).2⟩⟩
 ·have := (h.1.lt k e).1
  injection hk with hk
  omega
 ·have := ((h.2 r hr).2.2 hn a ha).2
  injection hc with hc
  omega
def LangU (w : World) (b u : Nat) (v : Value) (R : List Wr.Ru) : Prop := ∃ rs, OwnX w b v rs ∧ rs.map ru = R ∧ (∀ g, v.ownBlock = some g → g < u) ∧ ∀ r ∈ rs, 0 < r.cells.l.length → ∀ a, r.cells.ad = some a → a.block < u
theorem LangX.up {w : World} {b : Nat} {v : Value} {R : List Wr.Ru} (h : LangX w b v R) : LangU w b w.heap.size v R := by
 obtain ⟨rs, h1, h2⟩ := h
 exact ⟨rs, h1, h2, fun g hg => (h1.1.lt g hg).2, fun r hr hn a ha => (h1.2 r hr).1.lt hn a ha⟩
theorem LangU.x {w : World} {b u : Nat} {v : Value} {R : List Wr.Ru} (h : LangU w b u v R) : LangX w b v R := by
 obtain ⟨rs, h1, h2, _⟩ := h
 exact ⟨rs, h1, h2⟩
theorem LangU.below {w w' : World} {b u : Nat} {v : Value} {R : List Wr.Ru} (h : LangU w b u v R) (hb : Below w.heap.size w w') : LangU w' b u v R := by
 obtain ⟨rs, h1, h2⟩ := h
 exact ⟨rs, h1.below hb, h2⟩
theorem LangU.set {w2 : World} {b u g i : Nat} {v : Value} {R : List Wr.Ru} (h : LangU w2 b u v R) (hgb : g < b) (x : Value) : LangU (w2.setCell ⟨g, i, none⟩ x) b u v R := by
 obtain ⟨rs, h1, h2⟩ := h
 exact ⟨rs, h1.set hgb x, h2⟩
theorem LangU.over {w w' : World} {b u : Nat} {v : Value} {R : List Wr.Ru} {row : Option Nat} (h : LangU w b u v R) (hg : w.grownBy w' row) (hr : ∀ g, row = some g → u ≤ g) : LangU w' b u v R := by
 obtain ⟨rs, h1, h2, h3, h4⟩ := h
 refine ⟨rs, ⟨own_grownOff h1.1 hg (fun k hk e => ?_), fun r hm => ⟨(h1.2 r hm).1.grownZ hg (fun hn a ha hc => ?_), (h1.2 r hm).2⟩⟩, h2, h3, h4⟩
 ·have := h3 k e
  have := hr k hk
  omega
 ·have := h4 r hm hn a ha
  have := hr _ hc.symm
  omega
theorem OwnX.x {w w' : World} {b c g : Nat} {A : Option Addr} {rs : List Tb.Rl} (h : OwnX w b (.slice A rs.length c) rs) (hg : w.grownBy w' (some g)) (hgb : g < b) : RulesX w' w'.heap.size A rs := by
 have h2 := own_grownOff h.1 hg (fun k hk e => by
  have := (h.1.lt k e).1
  injection hk with hk
  omega)
 refine ⟨Reads.of_own h2, fun r hr => ⟨(h.2 r hr).1.grownZ hg (fun hn a ha hc => ?_), (h.2 r hr).2.1⟩⟩
 have := ((h.2 r hr).2.2 hn a ha).2
 injection hc with hc
 omega
theorem own_cells5 {w : World} {b e c gs : Nat} {xs : List Value} (h : w.ownsRow b e 1 (.slice (some ⟨gs, 0, none⟩) 5 c) 5 xs) : ∀ (j : Nat) (u : Value), xs[j]? = some u → w.cell? ⟨gs, j, none⟩ = some u := by
 obtain ⟨g, c', hv, hc⟩ := own_five h
 injection hv with hv
 injection hv with hv
 injection hv with hv
 subst hv
 exact hc
theorem wp_region_all {P : Program} {ops : Array Oper} {Q : Exit → Act → World → Prop} {id : Nat} {a : Act} {w : World} (ds : List (Option Tmp)) (R : Nat → Value → World → Prop) (C : World → Prop) (hm : P.follows .mixedOrders = true) (hb : backward_ ops = true)
  (hds : ops.toList.map (·.dst) = ds) (hsa : slotsApart ds = true) (hsz : (ds.all fun d => match d with | some t => decide (t < a.tmps.size) | none => true) = true) (hC : C w.drew)
  (hstep : ∀ i, i < ops.size → ∀ (A : Act) (x : Nat → Value) W, C W → (∀ j ∈ depsOf ops i, found ds A j (x j) ∧ R j (x j) W) → (∀ t, (ds.all fun d => !(d == some t)) = true → A.tmps[t]?.getD undef = a.tmps[t]?.getD undef) →
   wpOp P ops Q i (fun b W' => ∃ v, b = A.put (ds.getD i none) v ∧ R i v W' ∧ (∀ j, j ≠ i → ∀ u, R j u W → R j u W') ∧ C W') A W)
  (hfin : ∀ x W, C W → (∀ i, i < ops.size → R i (x i) W) → Q .normal (putL ds 0 x a) W) : (Code.region id ops true).wp P Q a w := by
 have hlen : ds.length = ops.size := by rw [← hds]; simp
 have hB : ∀ i, i < ops.size → ∀ j ∈ depsOf ops i, j < i := by
  have hb := hb
  unfold backward_ at hb
  simp only [List.all_eq_true, List.mem_range, decide_eq_true_eq] at hb
  exact hb
 refine wp_region_good ds R C hm hb hds hsa hC (fun i hi x W hC hd => ?_) hfin
 refine hstep i hi _ x W hC (fun j hj => ⟨fun t ht => ?_, hd j hj⟩) fun t ht => ?_
 ·have h1 := getD_putL ds 0 x a j t hsa ht (by
   rw [List.all_eq_true] at hsz
   have := hsz (some t) (List.mem_of_getElem? ht)
   simpa using this)
  rwa [Nat.zero_add] at h1
 ·refine getD_putL_other t ds 0 x a fun d hd he => ?_
  rw [List.all_eq_true] at ht
  have := ht d hd
  rw [he] at this
  simp at this
def gBy (g : Nat) (y : List UInt8) : World → Value → Prop := fun W v => ∃ b c, v = .slice (some ⟨b, 0, none⟩) y.length c ∧ g < b ∧ BsX W W.heap.size ⟨y, some ⟨b, 0, none⟩, c⟩
def gSt (g k : Nat) (y : List UInt8) : World → Value → Prop := fun W _ => ∃ cs u, Blk W g 29 cs ∧ cs[k]? = some u ∧ gBy g y W u
theorem gBy_grown {W W' : World} {g : Nat} {y : List UInt8} {v : Value} (h : gBy g y W v) (hg : W.grownBy W' (some g)) : gBy g y W' v := by
 obtain ⟨b, c, h1, h2, h3⟩ := h
 exact ⟨b, c, h1, h2, h3.grownZ hg (fun _ a ha he => by injection ha with ha; subst ha; injection he with he; have h4 : b = g := he; omega)⟩
theorem gBy_below {W W' : World} {g : Nat} {y : List UInt8} {v : Value} (h : gBy g y W v) (hb : Below W.heap.size W W') : gBy g y W' v := by
 obtain ⟨b, c, h1, h2, h3⟩ := h
 exact ⟨b, c, h1, h2, (h3.below hb).more hb.size⟩
theorem gSt_below {W W' : World} {g k : Nat} {y : List UInt8} {v : Value} (h : gSt g k y W v) (hb : Below W.heap.size W W') : gSt g k y W' v := by
 obtain ⟨cs, u, h0, h1, h2⟩ := h
 exact ⟨cs, u, h0.below hb h0.lt, h1, gBy_below h2 hb⟩
theorem gSt_set {W : World} {g k j : Nat} {y : List UInt8} {v : Value} (h : gSt g k y W v) (hjk : j ≠ k) (x : Value) : gSt g k y (W.setCell ⟨g, j, none⟩ x) v := by
 obtain ⟨cs, u, h0, h1, h2⟩ := h
 refine ⟨cs.setIfInBounds j x, u, h0.set_ j x, ?_, gBy_grown h2 (only_setCell (p := ⟨g, j, none⟩) (World.grownBy.refl W (some g)) (.inl rfl) x)⟩
 rw [Array.getElem?_setIfInBounds_ne hjk]
 exact h1
theorem gSt_new {W : World} {g k : Nat} {y : List UInt8} {cs : Array Value} (h : Blk W g 29 cs) (hk : k < cs.size) {x : Value} (hx : gBy g y W x) (v : Value) : gSt g k y (W.setCell ⟨g, k, none⟩ x) v :=
 ⟨cs.setIfInBounds k x, x, h.set_ k x, by rw [Array.getElem?_setIfInBounds_self_of_lt hk], gBy_grown hx (only_setCell (p := ⟨g, k, none⟩) (World.grownBy.refl W (some g)) (.inl rfl) x)⟩
theorem gSt_cell {W : World} {g k : Nat} {y : List UInt8} {cs : Array Value} {v a : Value} (h : gSt g k y W v) (hb : Blk W g 29 cs) (ha : cs[k]? = some a) : gBy g y W a := by
 obtain ⟨cs', u, h0, h1, h2⟩ := h
 unfold Blk at h0 hb
 rw [h0] at hb
 injection hb with hb
 injection hb with hb
 subst hb
 rw [h1] at ha
 injection ha with ha
 subst ha
 exact h2
theorem own_five_at {w : World} {b e g c : Nat} {xs : List Value} (h : w.ownsRow b e 1 (.slice (some ⟨g, 0, none⟩) 5 c) 5 xs) : ∀ (j : Nat) (u : Value), xs[j]? = some u → w.cell? ⟨g, j, none⟩ = some u := by
 obtain ⟨g', c', hv, hc⟩ := own_five h
 injection hv with hv
 injection hv with hv
 injection hv with hv
 subst hv
 exact hc
def ks18 (g gs c2 : Nat) (y1 y2 y3 y4 : List UInt8) : List (World → Value → Prop) := [gIs (.slice (some ⟨gs, 0, none⟩) 5 c2), gIs (.pointer (some ⟨gs, 1, none⟩)), gIs (.string (S y1)), gBy g y1, gIs (.slice (some ⟨gs, 0, none⟩) 5 c2), gIs (.pointer (some ⟨gs, 2, none⟩)), gIs (.string (S y2)), gBy g y2, gIs (.slice (some ⟨gs, 0, none⟩) 5 c2), gIs (.pointer (some ⟨gs, 3, none⟩)), gIs (.string (S y3)), gBy g y3, gIs (.slice (some ⟨gs, 0, none⟩) 5 c2), gIs (.pointer (some ⟨gs, 4, none⟩)), gIs (.string (S y4)), gBy g y4, gIs (.pointer (some ⟨g, 3, none⟩)), gSt g 3 y1, gIs (.pointer (some ⟨g, 4, none⟩)), gSt g 4 y2, gIs (.pointer (some ⟨g, 5, none⟩)), gSt g 5 y3, gIs (.pointer (some ⟨g, 6, none⟩)), gSt g 6 y4]
theorem ks18_below (g gs c2 : Nat) (y1 y2 y3 y4 : List UInt8) {W W' : World} (hb : Below W.heap.size W W') : ∀ (j : Nat) (v : Value), gAll (ks18 g gs c2 y1 y2 y3 y4) j v W → gAll (ks18 g gs c2 y1 y2 y3 y4) j v W' := by
 intro j v h
 match j, h with
 | 0, h => exact h
 | 1, h => exact h
 | 2, h => exact h
 | 3, h => exact gBy_below h hb
 | 4, h => exact h
 | 5, h => exact h
 | 6, h => exact h
 | 7, h => exact gBy_below h hb
 | 8, h => exact h
 | 9, h => exact h
 | 10, h => exact h
 | 11, h => exact gBy_below h hb
 | 12, h => exact h
 | 13, h => exact h
 | 14, h => exact h
 | 15, h => exact gBy_below h hb
 | 16, h => exact h
 | 17, h => exact gSt_below (v := v) h hb
 | 18, h => exact h
 | 19, h => exact gSt_below (v := v) h hb
 | 20, h => exact h
 | 21, h => exact gSt_below (v := v) h hb
 | 22, h => exact h
 | 23, h => exact gSt_below (v := v) h hb
 | (n + 24), h => exact trivial
theorem ks18_set0 (g gs c2 : Nat) (y1 y2 y3 y4 : List UInt8) {W : World} (x : Value) : ∀ (j : Nat), j ≠ 17 → ∀ (v : Value), gAll (ks18 g gs c2 y1 y2 y3 y4) j v W → gAll (ks18 g gs c2 y1 y2 y3 y4) j v (W.setCell ⟨g, 3, none⟩ x) := by
 intro j hj v h
 have hg := only_setCell (p := ⟨g, 3, none⟩) (World.grownBy.refl W (some g)) (.inl rfl) x
 match j, h with
 | 0, h => exact h
 | 1, h => exact h
 | 2, h => exact h
 | 3, h => exact gBy_grown h hg
 | 4, h => exact h
 | 5, h => exact h
 | 6, h => exact h
 | 7, h => exact gBy_grown h hg
 | 8, h => exact h
 | 9, h => exact h
 | 10, h => exact h
 | 11, h => exact gBy_grown h hg
 | 12, h => exact h
 | 13, h => exact h
 | 14, h => exact h
 | 15, h => exact gBy_grown h hg
 | 16, h => exact h
 | 17, h => exact absurd rfl hj
 | 18, h => exact h
 | 19, h => exact gSt_set (v := v) h (by decide) x
 | 20, h => exact h
 | 21, h => exact gSt_set (v := v) h (by decide) x
 | 22, h => exact h
 | 23, h => exact gSt_set (v := v) h (by decide) x
 | (n + 24), h => exact trivial
theorem ks18_set1 (g gs c2 : Nat) (y1 y2 y3 y4 : List UInt8) {W : World} (x : Value) : ∀ (j : Nat), j ≠ 19 → ∀ (v : Value), gAll (ks18 g gs c2 y1 y2 y3 y4) j v W → gAll (ks18 g gs c2 y1 y2 y3 y4) j v (W.setCell ⟨g, 4, none⟩ x) := by
 intro j hj v h
 have hg := only_setCell (p := ⟨g, 4, none⟩) (World.grownBy.refl W (some g)) (.inl rfl) x
 match j, h with
 | 0, h => exact h
 | 1, h => exact h
 | 2, h => exact h
 | 3, h => exact gBy_grown h hg
 | 4, h => exact h
 | 5, h => exact h
 | 6, h => exact h
 | 7, h => exact gBy_grown h hg
 | 8, h => exact h
 | 9, h => exact h
 | 10, h => exact h
 | 11, h => exact gBy_grown h hg
 | 12, h => exact h
 | 13, h => exact h
 | 14, h => exact h
 | 15, h => exact gBy_grown h hg
 | 16, h => exact h
 | 17, h => exact gSt_set (v := v) h (by decide) x
 | 18, h => exact h
 | 19, h => exact absurd rfl hj
 | 20, h => exact h
 | 21, h => exact gSt_set (v := v) h (by decide) x
 | 22, h => exact h
 | 23, h => exact gSt_set (v := v) h (by decide) x
 | (n + 24), h => exact trivial
theorem ks18_set2 (g gs c2 : Nat) (y1 y2 y3 y4 : List UInt8) {W : World} (x : Value) : ∀ (j : Nat), j ≠ 21 → ∀ (v : Value), gAll (ks18 g gs c2 y1 y2 y3 y4) j v W → gAll (ks18 g gs c2 y1 y2 y3 y4) j v (W.setCell ⟨g, 5, none⟩ x) := by
 intro j hj v h
 have hg := only_setCell (p := ⟨g, 5, none⟩) (World.grownBy.refl W (some g)) (.inl rfl) x
 match j, h with
 | 0, h => exact h
 | 1, h => exact h
 | 2, h => exact h
 | 3, h => exact gBy_grown h hg
 | 4, h => exact h
 | 5, h => exact h
 | 6, h => exact h
 | 7, h => exact gBy_grown h hg
 | 8, h => exact h
 | 9, h => exact h
 | 10, h => exact h
 | 11, h => exact gBy_grown h hg
 | 12, h => exact h
 | 13, h => exact h
 | 14, h => exact h
 | 15, h => exact gBy_grown h hg
 | 16, h => exact h
 | 17, h => exact gSt_set (v := v) h (by decide) x
 | 18, h => exact h
 | 19, h => exact gSt_set (v := v) h (by decide) x
 | 20, h => exact h
 | 21, h => exact absurd rfl hj
 | 22, h => exact h
 | 23, h => exact gSt_set (v := v) h (by decide) x
 | (n + 24), h => exact trivial
theorem ks18_set3 (g gs c2 : Nat) (y1 y2 y3 y4 : List UInt8) {W : World} (x : Value) : ∀ (j : Nat), j ≠ 23 → ∀ (v : Value), gAll (ks18 g gs c2 y1 y2 y3 y4) j v W → gAll (ks18 g gs c2 y1 y2 y3 y4) j v (W.setCell ⟨g, 6, none⟩ x) := by
 intro j hj v h
 have hg := only_setCell (p := ⟨g, 6, none⟩) (World.grownBy.refl W (some g)) (.inl rfl) x
 match j, h with
 | 0, h => exact h
 | 1, h => exact h
 | 2, h => exact h
 | 3, h => exact gBy_grown h hg
 | 4, h => exact h
 | 5, h => exact h
 | 6, h => exact h
 | 7, h => exact gBy_grown h hg
 | 8, h => exact h
 | 9, h => exact h
 | 10, h => exact h
 | 11, h => exact gBy_grown h hg
 | 12, h => exact h
 | 13, h => exact h
 | 14, h => exact h
 | 15, h => exact gBy_grown h hg
 | 16, h => exact h
 | 17, h => exact gSt_set (v := v) h (by decide) x
 | 18, h => exact h
 | 19, h => exact gSt_set (v := v) h (by decide) x
 | 20, h => exact h
 | 21, h => exact gSt_set (v := v) h (by decide) x
 | 22, h => exact h
 | 23, h => exact absurd rfl hj
 | (n + 24), h => exact trivial
set_option maxHeartbeats 4000000 in
set_option maxRecDepth 100000 in
theorem decodeT_any (ad : Addr) (n c : Nat) (l : List UInt8) (w : World) (hr : Reads w w.heap.size 1 (some ad) n (BV l)) (hm : n ≤ 1099511627776) (hnc : n ≤ c) :
  Calls Tryd.prog 14 #[.slice (some ad) n c] w fun e w' => ∃ v t, e = .returned (.tuple #[v, .int .i64 ((Wr.decT l).2.1 : Nat), .int .i64 (Wr.decT l).2.2]) ∧ TabX w' w'.heap.size v t ∧ ((Wr.decT l).2.2 = 0 → taOf t = (Wr.decT l).1) ∧ ((Wr.decT l).2.2 ≠ 0 → t = nilTab) ∧ Below w.heap.size w w' := by
 have hn : n = l.length := by have := hr.1; simp [BV] at this; omega
 have HRD := hide hr
 have HN := hide hn
 obtain ⟨RES, hRES⟩ : ∃ RES, RES = Wr.decT l := ⟨_, rfl⟩
 have HRES := hide hRES
 rw [← hRES]
 clear hr hn hRES
 go_enter Tryd.func14, Tryd.ntmps14
 go_upto_region 2 with fail
 refine name_world fun V hV => ?_
 have V2 := hide (show Blk V w.heap.size 29 #[.slice none 0 0, .slice none 0 0, .slice none 0 0, .slice none 0 0, .slice none 0 0, .slice none 0 0, .slice none 0 0] by rw [← hV.out]; exact (Blk.new w _ _).alloc _)
 have V5 := hide (show Blk V (w.heap.size + 1) 29 #[.slice none 0 0, .slice none 0 0, .slice none 0 0, .slice none 0 0, .slice none 0 0, .slice none 0 0, .slice none 0 0] by rw [← hV.out]; exact Blk.new2 w _ _ _)
 have HV := hide (show Below w.heap.size w V by rw [← hV.out]; exact ((Below.refl _ _).alloc (Nat.le_refl _) _).alloc (by simp) _)
 have hvs : V.heap.size = w.heap.size + 1 + 1 := by rw [← hV.out]; simp
 clear hV
 obtain ⟨g2, hg2⟩ : ∃ g2, g2 = w.heap.size := ⟨_, rfl⟩
 obtain ⟨g5, hg5⟩ : ∃ g5, g5 = w.heap.size + 1 := ⟨_, rfl⟩
 rw [← hg5] at V5 hvs ⊢
 rw [← hg2] at V2 ⊢
 have HG := hide (show g2 = w.heap.size ∧ g5 = w.heap.size + 1 ∧ V.heap.size = g5 + 1 from ⟨hg2, hg5, hvs⟩)
 clear hg2 hg5 hvs
 have HVV := hide (Below.refl g5 V)
 have HST := hide (show decSt l 0 0 [] [] from .inl ⟨rfl, rfl, rfl, rfl⟩)
 have HL0 := hide (LangX.nil V (g5 + 1))
 go_wp2
 go_loopw [6, 14] (fun s6 s wr => ∃ (i us : Nat) (m0 m1 : Value) (R0 R1 : List Wr.Ru), i ≤ 2 ∧ s = .int .i64 (i : Int) ∧ s6 = .int .i64 (us : Int) ∧ us ≤ n ∧ Blk wr g5 29 #[m0, m1, .slice none 0 0, .slice none 0 0, .slice none 0 0, .slice none 0 0, .slice none 0 0] ∧ LangX wr (g5 + 1) m0 R0 ∧ LangX wr (g5 + 1) m1 R1 ∧ Hid (decSt l i us R0 R1) ∧ Below g5 V wr ∧ g5 + 1 ≤ wr.heap.size ∧ (i = 0 → m0 = .slice none 0 0) ∧ (i ≤ 1 → m1 = .slice none 0 0)) (fun _ s _ => 2 - (intOf s).toNat)
 case atStart => exact ⟨0, 0, _, _, [], [], by omega, rfl, rfl, by omega, V5.out, HL0.out, HL0.out, HST.out, HVV.out, by have := HG.out.2.2; omega, fun _ => rfl, fun _ => rfl⟩
 case round =>
  obtain ⟨i, us, m0, m1, R0, R1, hi, rfl, rfl, hus, h5, hl0, hl1, HS, hbel, hsz, hm0, hm1⟩ := hrel
  obtain ⟨wd, rfl⟩ : ∃ wd, wd = wr := ⟨wr, rfl⟩
  have H5 := hide h5
  have HL0 := hide hl0
  have HL1 := hide hl1
  have HB := hide hbel
  have HM := hide (And.intro hm0 hm1)
  have hi0 : (0 : Int) ≤ (i : Int) := by omega
  have HWD := hide (show Below w.heap.size w wd from HV.out.trans (hbel.mono (by have := HG.out; omega)))
  have H2 := hide (show Blk wd g2 29 #[.slice none 0 0, .slice none 0 0, .slice none 0 0, .slice none 0 0, .slice none 0 0, .slice none 0 0, .slice none 0 0] from V2.out.below hbel (by have := HG.out; omega))
  clear h5 hl0 hl1 hbel hm0 hm1
  by_cases hlt : (i : Int) < 2
  ·have HSE := hide (fun he => decSt_err HS.out (by omega) he)
   by_cases hcu : c = us
   ·obtain rfl : n = c := by omega
    subst hcu
    have hd : l.drop n = [] := List.drop_eq_nil_of_le (by have := HN.out; omega)
    rw [hd] at HSE
    have hI : Wr.decN Wr.decR [] = ([], 0, 3) := rfl
    have C2 := hide (getRules_any (some ad) 0 0 [] wd (reads_zero _ _ _) (by omega) (by omega))
    rw [hI] at HSE C2
    have HD := hide (show RES = ((([], []), []), 0, 3) from HRES.out.trans (HSE.out (by decide)))
    clear hd hI HSE HS
    go_wp2_with (go_at_call 33; (with_reducible refine (unhide C2).mono ?_); rintro e w2 ⟨v2, rfl, hl2, hb2⟩; have HL2 := hide hl2; have HB2 := hide hb2; have H22 := hide (H2.out.below hb2 H2.out.lt); obtain ⟨k0, k1, k2, k3, k4, k5, k6, z0, z1, z2, z3, z4, z5, z6⟩ := nil7 H22.out; clear hl2 hb2)
    have hload := tab_stored H22.out (.slice none 0 0) (.slice none 0 0) (.slice none 0 0) (.slice none 0 0) (.slice none 0 0) (.slice none 0 0) (.slice none 0 0)
    rw [HD.out]
    exact bodyPost_ret (v := .tuple #[.agg #[.slice none 0 0, .slice none 0 0, .slice none 0 0, .slice none 0 0, .slice none 0 0, .slice none 0 0, .slice none 0 0], .int .i64 0, .int .i64 3]) (results_cell3 Tryd.results14 _ _ ⟨g2, 0, none⟩ _ rfl hload) rfl ⟨_, nilTab, rfl, (nil_tab _).x, fun h => absurd h (show ¬ ((3 : Int) = 0) by decide), fun _ => rfl, tab_below (HWD.out.trans (HB2.out.mono HWD.out.size)) (by have := HG.out; omega) _ _ _ _ _ _ _⟩
   ·have hcut := reads_rest HRD.out us hus
    have C2 := hide (getRules_any (some (ad.add us)) (n - us) (c - us) (l.drop us) wd ((hcut.below HWD.out).more HWD.out.size) (by omega) (by omega))
    have hud := decN_used (l.drop us)
    rw [List.length_drop] at hud
    obtain ⟨R2, hR2⟩ : ∃ R2, R2 = Wr.decN Wr.decR (l.drop us) := ⟨_, rfl⟩
    have HR2 := hide hR2
    rw [← hR2] at C2 HSE hud
    obtain ⟨x2, ur, er⟩ := R2
    simp only at C2 HSE hud
    have hul2 : us + ur ≤ n := by have := HN.out; omega
    clear hR2 hcut
    by_cases her : er ≠ 0
    ·have hber : (er != 0) = true := by rw [bne_iff_ne]; exact her
     have HER := hide her
     have HD := hide (show RES = ((([], []), []), 0, er) from HRES.out.trans (HSE.out her))
     clear HSE HS her HR2
     go_wp2_with (go_at_call 33; (with_reducible refine (unhide C2).mono ?_); rintro e w2 ⟨v2, rfl, hl2, hb2⟩; have HL2 := hide hl2; have HB2 := hide hb2; have H22 := hide (H2.out.below hb2 H2.out.lt); obtain ⟨k0, k1, k2, k3, k4, k5, k6, z0, z1, z2, z3, z4, z5, z6⟩ := nil7 H22.out; clear hl2 hb2)
     have hload := tab_stored H22.out (.slice none 0 0) (.slice none 0 0) (.slice none 0 0) (.slice none 0 0) (.slice none 0 0) (.slice none 0 0) (.slice none 0 0)
     rw [HD.out]
     exact bodyPost_ret (v := .tuple #[.agg #[.slice none 0 0, .slice none 0 0, .slice none 0 0, .slice none 0 0, .slice none 0 0, .slice none 0 0, .slice none 0 0], .int .i64 0, .int .i64 er]) (results_cell3 Tryd.results14 _ _ ⟨g2, 0, none⟩ _ rfl hload) rfl ⟨_, nilTab, rfl, (nil_tab _).x, fun h => absurd h (HER.out), fun _ => rfl, tab_below (HWD.out.trans (HB2.out.mono HWD.out.size)) (by have := HG.out; omega) _ _ _ _ _ _ _⟩
    ·obtain rfl : er = 0 := by simpa using her
     clear her HSE
     obtain rfl | rfl : i = 0 ∨ i = 1 := by omega
     ·rw [show ((0 : Nat) : Int) = 0 from rfl]
      go_wp2_with (go_at_call 33; (with_reducible refine (unhide C2).mono ?_); rintro e w2 ⟨v2, rfl, hl2, hb2⟩; have HL2 := hide hl2; have HB2 := hide hb2; have H22 := hide (H2.out.below hb2 H2.out.lt); obtain ⟨A2, n2, c2, rfl⟩ := hl2.slice; have H52 := hide (H5.out.below hb2 H5.out.lt); have k0 : w2.cell? ⟨g5, 0, none⟩ = some m0 := H52.out.cell 0; have z0 := H52.out.frozen 0; clear hl2 hb2)
      refine ⟨⟨1, us + ur, .slice A2 n2 c2, m1, x2, R1, by omega, by go_num, by go_num, hul2, H52.out.set_ 0 _, (HL2.out.lower hsz).set (by omega) _, (HL1.out.below HB2.out).set (by omega) _, ?_, (HB.out.trans (HB2.out.mono (by omega))).setCell (p := ⟨g5, 0, none⟩) (Nat.le_refl _) _, ?_, fun h => absurd h (by omega), fun _ => HM.out.2 (by omega)⟩, by simp [intOf]⟩
      ·rcases HS.out with ⟨_, h2, _, h4⟩ | ⟨h1, _⟩ | ⟨h1, _⟩
       ·subst h2
        exact .inr (.inl ⟨rfl, by rw [Nat.zero_add]; exact HR2.out.symm, h4⟩)
       ·omega
       ·omega
      ·have := HB2.out.size
       simp
       omega
     ·rw [show ((1 : Nat) : Int) = 1 from rfl]
      go_wp2_with (go_at_call 33; (with_reducible refine (unhide C2).mono ?_); rintro e w2 ⟨v2, rfl, hl2, hb2⟩; have HL2 := hide hl2; have HB2 := hide hb2; have H22 := hide (H2.out.below hb2 H2.out.lt); obtain ⟨A2, n2, c2, rfl⟩ := hl2.slice; have H52 := hide (H5.out.below hb2 H5.out.lt); have k1 : w2.cell? ⟨g5, 1, none⟩ = some m1 := H52.out.cell 1; have z1 := H52.out.frozen 1; clear hl2 hb2)
      refine ⟨⟨2, us + ur, m0, .slice A2 n2 c2, R0, x2, by omega, by go_num, by go_num, hul2, H52.out.set_ 1 _, (HL0.out.below HB2.out).set (by omega) _, (HL2.out.lower hsz).set (by omega) _, ?_, (HB.out.trans (HB2.out.mono (by omega))).setCell (p := ⟨g5, 1, none⟩) (Nat.le_refl _) _, ?_, fun h => absurd h (by omega), fun h => absurd h (by omega)⟩, by simp [intOf]⟩
      ·rcases HS.out with ⟨h1, _⟩ | ⟨_, h2, _⟩ | ⟨h1, _⟩
       ·omega
       ·exact .inr (.inr ⟨rfl, us, ur, h2, HR2.out.symm, rfl⟩)
       ·omega
      ·have := HB2.out.size
       simp
       omega
  ·obtain ⟨u0, u1, hd0, hd1, rfl⟩ : ∃ u0 u1, Wr.decN Wr.decR l = (R0, u0, 0) ∧ Wr.decN Wr.decR (l.drop u0) = (R1, u1, 0) ∧ us = u0 + u1 := by
    rcases HS.out with ⟨h1, _⟩ | ⟨h1, _⟩ | ⟨_, h⟩
    ·omega
    ·omega
    ·exact h
   obtain rfl : i = 2 := by omega
   have HE2 := hide (Wr.decT_err2 hd0 hd1)
   have HK2 := hide (Wr.decT_ok hd0 hd1)
   obtain ⟨us, hus'⟩ : ∃ us, us = u0 + u1 := ⟨_, rfl⟩
   rw [← hus'] at HE2 HK2 hus ⊢
   clear hus' hd0 hd1 HS HM
   by_cases hcu : c = us
   ·obtain rfl : n = c := by omega
    subst hcu
    have hd : l.drop n = [] := List.drop_eq_nil_of_le (by have := HN.out; omega)
    rw [hd] at HE2
    have hI : Wr.dec5 [] = ([], 0, 3) := rfl
    have hI2 : Wr.decList 1 Wr.decB [] = ([], 0, 3) := rfl
    have C2 := hide (getStrings_any (some ad) 0 0 [] wd (reads_zero _ _ _) (by omega) (by omega))
    rw [hI2] at C2
    rw [hI] at HE2
    have HD := hide (show RES = ((([], []), []), 0, 3) from HRES.out.trans (HE2.out (by decide)))
    clear hd hI hI2 HE2 HK2
    go_wp2_with (go_at_call 34; (with_reducible refine (unhide C2).mono ?_); rintro e w2 ⟨v2, rfl, ho2, hb2⟩; obtain ⟨A2, c2, rfl, hc2, _⟩ := own_slice ho2; have HO2 := hide ho2; have HB2 := hide hb2; have H22 := hide (H2.out.below hb2 H2.out.lt); obtain ⟨k0, k1, k2, k3, k4, k5, k6, z0, z1, z2, z3, z4, z5, z6⟩ := nil7 H22.out; clear ho2 hb2)
    have hload := tab_stored H22.out (.slice none 0 0) (.slice none 0 0) (.slice none 0 0) (.slice none 0 0) (.slice none 0 0) (.slice none 0 0) (.slice none 0 0)
    rw [HD.out]
    exact bodyPost_ret (v := .tuple #[.agg #[.slice none 0 0, .slice none 0 0, .slice none 0 0, .slice none 0 0, .slice none 0 0, .slice none 0 0, .slice none 0 0], .int .i64 0, .int .i64 3]) (results_cell3 Tryd.results14 _ _ ⟨g2, 0, none⟩ _ rfl hload) rfl ⟨_, nilTab, rfl, (nil_tab _).x, fun h => absurd h (show ¬ ((3 : Int) = 0) by decide), fun _ => rfl, tab_below (HWD.out.trans (HB2.out.mono HWD.out.size)) (by have := HG.out; omega) _ _ _ _ _ _ _⟩
   ·have hcut := reads_rest HRD.out us hus
    have C2 := hide (getStrings_any (some (ad.add us)) (n - us) (c - us) (l.drop us) wd ((hcut.below HWD.out).more HWD.out.size) (by omega) (by omega))
    have H5D := hide (show Wr.dec5 (l.drop us) = if (Wr.decList 1 Wr.decB (l.drop us)).2.2 ≠ 0 then ([], 0, (Wr.decList 1 Wr.decB (l.drop us)).2.2) else if (Wr.decList 1 Wr.decB (l.drop us)).1.length ≠ 5 then ([], 0, 2) else Wr.decList 1 Wr.decB (l.drop us) from rfl)
    obtain ⟨R2, hR2⟩ : ∃ R2, R2 = Wr.decList 1 Wr.decB (l.drop us) := ⟨_, rfl⟩
    have HR2 := hide hR2
    rw [← hR2] at C2 H5D
    obtain ⟨xs, ur, er⟩ := R2
    simp only at C2 H5D
    clear hR2 hcut
    by_cases her : er ≠ 0
    ·have hber : (er != 0) = true := by rw [bne_iff_ne]; exact her
     have HER := hide her
     have h5 : Wr.dec5 (l.drop us) = ([], 0, er) := by rw [H5D.out, if_pos her]
     rw [h5] at HE2
     have HD := hide (show RES = ((([], []), []), 0, er) from HRES.out.trans (HE2.out her))
     clear HE2 HK2 her HR2 h5
     go_wp2_with (go_at_call 34; (with_reducible refine (unhide C2).mono ?_); rintro e w2 ⟨v2, rfl, ho2, hb2⟩; obtain ⟨A2, c2, rfl, hc2, _⟩ := own_slice ho2; have HO2 := hide ho2; have HB2 := hide hb2; have H22 := hide (H2.out.below hb2 H2.out.lt); obtain ⟨k0, k1, k2, k3, k4, k5, k6, z0, z1, z2, z3, z4, z5, z6⟩ := nil7 H22.out; clear ho2 hb2)
     have hload := tab_stored H22.out (.slice none 0 0) (.slice none 0 0) (.slice none 0 0) (.slice none 0 0) (.slice none 0 0) (.slice none 0 0) (.slice none 0 0)
     rw [HD.out]
     exact bodyPost_ret (v := .tuple #[.agg #[.slice none 0 0, .slice none 0 0, .slice none 0 0, .slice none 0 0, .slice none 0 0, .slice none 0 0, .slice none 0 0], .int .i64 0, .int .i64 er]) (results_cell3 Tryd.results14 _ _ ⟨g2, 0, none⟩ _ rfl hload) rfl ⟨_, nilTab, rfl, (nil_tab _).x, fun h => absurd h (HER.out), fun _ => rfl, tab_below (HWD.out.trans (HB2.out.mono HWD.out.size)) (by have := HG.out; omega) _ _ _ _ _ _ _⟩
    ·obtain rfl : er = 0 := by simpa using her
     obtain ⟨q, hq⟩ : ∃ q, q = xs.length := ⟨_, rfl⟩
     by_cases hl5 : xs.length ≠ 5
     ·have h5 : Wr.dec5 (l.drop us) = ([], 0, 2) := by rw [H5D.out, if_neg her, if_pos hl5]
      rw [h5] at HE2
      have HD := hide (show RES = ((([], []), []), 0, 2) from HRES.out.trans (HE2.out (show ¬ ((2 : Int) = 0) by decide)))
      rw [← hq] at C2 hl5
      have hbl : ((q : Int) != 5) = true := by rw [bne_iff_ne]; omega
      clear HE2 HK2 her HR2 h5 hl5 hq
      go_wp2_with (go_at_call 34; (with_reducible refine (unhide C2).mono ?_); rintro e w2 ⟨v2, rfl, ho2, hb2⟩; obtain ⟨A2, c2, rfl, hc2, _⟩ := own_slice ho2; have HO2 := hide ho2; have HB2 := hide hb2; have H22 := hide (H2.out.below hb2 H2.out.lt); obtain ⟨k0, k1, k2, k3, k4, k5, k6, z0, z1, z2, z3, z4, z5, z6⟩ := nil7 H22.out; clear ho2 hb2)
      have hload := tab_stored H22.out (.slice none 0 0) (.slice none 0 0) (.slice none 0 0) (.slice none 0 0) (.slice none 0 0) (.slice none 0 0) (.slice none 0 0)
      rw [HD.out]
      exact bodyPost_ret (v := .tuple #[.agg #[.slice none 0 0, .slice none 0 0, .slice none 0 0, .slice none 0 0, .slice none 0 0, .slice none 0 0, .slice none 0 0], .int .i64 0, .int .i64 2]) (results_cell3 Tryd.results14 _ _ ⟨g2, 0, none⟩ _ rfl hload) rfl ⟨_, nilTab, rfl, (nil_tab _).x, fun h => absurd h (show ¬ ((2 : Int) = 0) by decide), fun _ => rfl, tab_below (HWD.out.trans (HB2.out.mono HWD.out.size)) (by have := HG.out; omega) _ _ _ _ _ _ _⟩
     ·have hl5 : xs.length = 5 := by simpa using hl5
      have h5 : Wr.dec5 (l.drop us) = (xs, ur, 0) := by rw [H5D.out, if_neg her, if_neg (by simpa using hl5)]
      rw [h5] at HK2
      have HD := hide (show RES = (((R0, R1), xs), us + ur, 0) from HRES.out.trans (HK2.out rfl))
      have hur : us + ur ≤ n := by
       have h := (Wr.codec5.canon (l.drop us) (by rw [h5])).2.1
       rw [h5, List.length_drop] at h
       have h : ur ≤ l.length - us := h
       have := HN.out
       omega
      rw [hl5] at C2
      clear HE2 HK2 her h5 hq
      obtain ⟨y0, y1, y2, y3, y4, rfl⟩ : ∃ y0 y1 y2 y3 y4, xs = [y0, y1, y2, y3, y4] := five_of hl5
      clear hl5 H5D
      go_upto_region 17 with (go_at_call 34; (with_reducible refine (unhide C2).mono ?_); rintro e w2 ⟨v2, rfl, ho2, hb2⟩; obtain ⟨gs, c2, rfl, hgs⟩ := own_five ho2; have HO2 := hide ho2; have HB2 := hide hb2; have HGS := hide hgs; have H22 := hide (H2.out.below hb2 H2.out.lt); have H52 := hide (H5.out.below hb2 H5.out.lt); clear ho2 hb2 hgs)
      obtain ⟨e3, w3, hcv3, hce3, hrd3, hb3, hs3⟩ := conv_bytesY y0 w2
      have hs0 : w2.cell? ⟨gs, 0, none⟩ = some (.string (S y0)) := (HGS.out 0 _ rfl)
      have H53 := hide (H52.out.below hb3 H52.out.lt)
      have k2 : w3.cell? ⟨g5, 2, none⟩ = some (.slice none 0 0) := H53.out.cell 2
      have z2 := H53.out.frozen 2
      have HB3 := hide hb3
      have HR3 := hide hrd3
      have HC3 := hide hce3
      have HS3 := hide hs3
      clear hce3 hrd3 hb3 hs3
      go_upto_region 18 with fail
      refine name_world fun V4 hV4 => ?_
      have HGB := hide (show w.heap.size ≤ g2 ∧ g2 < g5 ∧ g5 < w2.heap.size from by have h1 := HG.out; have h2 := H52.out.lt; omega)
      have HGS2 := hide (show g5 < gs from by have h1 := (HO2.out.lt gs rfl).1; omega)
      have HW3 := hide (show g5 < w3.heap.size from H53.out.lt)
      have V54 := hide (show Blk V4 g5 29 #[m0, m1, .slice (some ⟨w2.heap.size, 0, none⟩) y0.length e3, .slice none 0 0, .slice none 0 0, .slice none 0 0, .slice none 0 0] from by rw [← hV4.out]; exact H53.out.set_ 2 _)
      have V24 := hide (show Blk V4 g2 29 #[.slice none 0 0, .slice none 0 0, .slice none 0 0, .slice none 0 0, .slice none 0 0, .slice none 0 0, .slice none 0 0] from by rw [← hV4.out]; exact (H22.out.below HB3.out H22.out.lt).grown (only_setCell (p := ⟨g5, 2, none⟩) (World.grownBy.refl w3 (some g5)) (.inl rfl) _) (fun h => by injection h with h; have := HGB.out; omega))
      have VL0 := hide (show LangX V4 (g5 + 1) m0 R0 from by rw [← hV4.out]; exact ((HL0.out.below HB2.out).below HB3.out).set (Nat.lt_succ_self g5) _)
      have VL1 := hide (show LangX V4 (g5 + 1) m1 R1 from by rw [← hV4.out]; exact ((HL1.out.below HB2.out).below HB3.out).set (Nat.lt_succ_self g5) _)
      have VO := hide (show V4.ownsRow wd.heap.size 9 1 (.slice (some ⟨gs, 0, none⟩) 5 c2) 5 ([y0, y1, y2, y3, y4].map VS) from by rw [← hV4.out]; exact own_grownOff (own_below HO2.out HB3.out) (only_setCell (p := ⟨g5, 2, none⟩) (World.grownBy.refl w3 (some g5)) (.inl rfl) _) (fun g hg he => by injection hg with hg; injection he with he; have h1 : g5 = g := hg; have h2 : gs = g := he; have := HGS2.out; omega))
      have VW := hide (show Below w.heap.size w V4 from by rw [← hV4.out]; exact ((HWD.out.trans (HB2.out.mono HWD.out.size)).trans (HB3.out.mono (by have h1 := HWD.out.size; have h2 := HB2.out.size; omega))).setCell (p := ⟨g5, 2, none⟩) (by have := HGB.out; show w.heap.size ≤ g5; omega) _)
      have VY0 := hide (show BsX V4 V4.heap.size ⟨y0, some ⟨w2.heap.size, 0, none⟩, e3⟩ from by rw [← hV4.out]; exact BsX.grownZ (w := w3) ⟨HR3.out, HC3.out⟩ (only_setCell (p := ⟨g5, 2, none⟩) (World.grownBy.refl w3 (some g5)) (.inl rfl) _) (fun _ a ha he => by injection ha with ha; subst ha; injection he with he; have h2 : w2.heap.size = g5 := he; have := HGB.out; omega))
      have VZ := hide (show g5 < V4.heap.size from V54.out.lt)
      have HGA := hide (show ∀ W, V4.grownBy W (some g5) → ∀ (j : Nat) (u : Value), ([y0, y1, y2, y3, y4].map VS)[j]? = some u → W.cell? ⟨gs, j, none⟩ = some u from fun W hg => own_five_at (own_grownOff VO.out hg (fun g hg he => by injection hg with hg; injection he with he; have h1 : g5 = g := hg; have h2 : gs = g := he; have := HGS2.out; omega)))
      have HGZ := hide (show ∀ W, V4.grownBy W (some g5) → g5 < W.heap.size from fun W hg => Nat.lt_of_lt_of_le VZ.out hg.size)
      obtain ⟨b0, hb0⟩ : ∃ b0, w2.heap.size = b0 := ⟨_, rfl⟩
      rw [hb0] at V54 VY0 HGB
      clear hV4 hs0 k2 z2 hcv3 hb0
      refine wp_region_all [some 59, some 60, some 61, some 62, some 63, some 64, some 65, some 66, some 67, some 68, some 69, some 70, some 71, some 72, some 73, some 74, some 75, none, some 76, none, some 77, none, some 78, none] (gAll (ks18 g5 gs c2 y1 y2 y3 y4)) (fun W => (∃ a3 a4 a5 a6, Blk W g5 29 #[m0, m1, .slice (some ⟨b0, 0, none⟩) y0.length e3, a3, a4, a5, a6]) ∧ V4.grownBy W (some g5))
       (by kernel_rfl) (by kernel_rfl) (by rfl) (by decide) (by rfl) ⟨⟨_, _, _, _, V54.out.drew⟩, only_drew (World.grownBy.refl V4 _)⟩ ?_ ?_
      ·intro j hj A x W hC hd hr
       have stay : ∀ W', Below W.heap.size W W' → (∃ a3 a4 a5 a6, Blk W' g5 29 #[m0, m1, .slice (some ⟨b0, 0, none⟩) y0.length e3, a3, a4, a5, a6]) ∧ V4.grownBy W' (some g5) := fun W' hb => ⟨by obtain ⟨a3, a4, a5, a6, h⟩ := hC.1; exact ⟨a3, a4, a5, a6, h.below hb h.lt⟩, grown_below hC.2 hb⟩
       have hj' : j = 0 ∨ j = 1 ∨ j = 2 ∨ j = 3 ∨ j = 4 ∨ j = 5 ∨ j = 6 ∨ j = 7 ∨ j = 8 ∨ j = 9 ∨ j = 10 ∨ j = 11 ∨ j = 12 ∨ j = 13 ∨ j = 14 ∨ j = 15 ∨ j = 16 ∨ j = 17 ∨ j = 18 ∨ j = 19 ∨ j = 20 ∨ j = 21 ∨ j = 22 ∨ j = 23 := by
        have h24 : j < 24 := hj
        omega
       rcases hj' with rfl | rfl | rfl | rfl | rfl | rfl | rfl | rfl | rfl | rfl | rfl | rfl | rfl | rfl | rfl | rfl | rfl | rfl | rfl | rfl | rfl | rfl | rfl | rfl
       ·have e11 : A.tmps[11]?.getD undef = .slice (some ⟨gs, 0, none⟩) 5 c2 := hr 11 (by decide)
        refine wpOp_step rfl (fun K' hK => ?_)
        go_simp
        exact hK _ _ ⟨_, rfl, rfl, fun _ _ _ h => h, hC⟩
       ·have d0 : A.tmps[59]?.getD undef = .slice (some ⟨gs, 0, none⟩) 5 c2 := fI hd 0 59
        refine wpOp_step rfl (fun K' hK => ?_)
        go_simp
        exact hK _ _ ⟨_, rfl, rfl, fun _ _ _ h => h, hC⟩
       ·have d1 : A.tmps[60]?.getD undef = .pointer (some ⟨gs, 1, none⟩) := fI hd 1 60
        refine wpOp_step rfl (fun K' hK => ?_)
        have kc : W.cell? ⟨gs, 1, none⟩ = some (.string (S y1)) := HGA.out W hC.2 1 _ rfl
        go_simp
        exact hK _ _ ⟨_, rfl, rfl, fun _ _ _ h => h, hC⟩
       ·have d2 : A.tmps[61]?.getD undef = .string (S y1) := fI hd 2 61
        refine wpOp_step rfl (fun K' hK => ?_)
        obtain ⟨cc, W', hcv, hcc, hrd, hb, hsz'⟩ := conv_bytesY y1 W
        go_simp
        exact hK _ _ ⟨_, rfl, ⟨W.heap.size, cc, rfl, HGZ.out W hC.2, ⟨hrd, hcc⟩⟩, fun k' _ u h => ks18_below g5 gs c2 y1 y2 y3 y4 hb k' u h, stay _ hb⟩
       ·have e11 : A.tmps[11]?.getD undef = .slice (some ⟨gs, 0, none⟩) 5 c2 := hr 11 (by decide)
        refine wpOp_step rfl (fun K' hK => ?_)
        go_simp
        exact hK _ _ ⟨_, rfl, rfl, fun _ _ _ h => h, hC⟩
       ·have d4 : A.tmps[63]?.getD undef = .slice (some ⟨gs, 0, none⟩) 5 c2 := fI hd 4 63
        refine wpOp_step rfl (fun K' hK => ?_)
        go_simp
        exact hK _ _ ⟨_, rfl, rfl, fun _ _ _ h => h, hC⟩
       ·have d5 : A.tmps[64]?.getD undef = .pointer (some ⟨gs, 2, none⟩) := fI hd 5 64
        refine wpOp_step rfl (fun K' hK => ?_)
        have kc : W.cell? ⟨gs, 2, none⟩ = some (.string (S y2)) := HGA.out W hC.2 2 _ rfl
        go_simp
        exact hK _ _ ⟨_, rfl, rfl, fun _ _ _ h => h, hC⟩
       ·have d6 : A.tmps[65]?.getD undef = .string (S y2) := fI hd 6 65
        refine wpOp_step rfl (fun K' hK => ?_)
        obtain ⟨cc, W', hcv, hcc, hrd, hb, hsz'⟩ := conv_bytesY y2 W
        go_simp
        exact hK _ _ ⟨_, rfl, ⟨W.heap.size, cc, rfl, HGZ.out W hC.2, ⟨hrd, hcc⟩⟩, fun k' _ u h => ks18_below g5 gs c2 y1 y2 y3 y4 hb k' u h, stay _ hb⟩
       ·have e11 : A.tmps[11]?.getD undef = .slice (some ⟨gs, 0, none⟩) 5 c2 := hr 11 (by decide)
        refine wpOp_step rfl (fun K' hK => ?_)
        go_simp
        exact hK _ _ ⟨_, rfl, rfl, fun _ _ _ h => h, hC⟩
       ·have d8 : A.tmps[67]?.getD undef = .slice (some ⟨gs, 0, none⟩) 5 c2 := fI hd 8 67
        refine wpOp_step rfl (fun K' hK => ?_)
        go_simp
        exact hK _ _ ⟨_, rfl, rfl, fun _ _ _ h => h, hC⟩
       ·have d9 : A.tmps[68]?.getD undef = .pointer (some ⟨gs, 3, none⟩) := fI hd 9 68
        refine wpOp_step rfl (fun K' hK => ?_)
        have kc : W.cell? ⟨gs, 3, none⟩ = some (.string (S y3)) := HGA.out W hC.2 3 _ rfl
        go_simp
        exact hK _ _ ⟨_, rfl, rfl, fun _ _ _ h => h, hC⟩
       ·have d10 : A.tmps[69]?.getD undef = .string (S y3) := fI hd 10 69
        refine wpOp_step rfl (fun K' hK => ?_)
        obtain ⟨cc, W', hcv, hcc, hrd, hb, hsz'⟩ := conv_bytesY y3 W
        go_simp
        exact hK _ _ ⟨_, rfl, ⟨W.heap.size, cc, rfl, HGZ.out W hC.2, ⟨hrd, hcc⟩⟩, fun k' _ u h => ks18_below g5 gs c2 y1 y2 y3 y4 hb k' u h, stay _ hb⟩
       ·have e11 : A.tmps[11]?.getD undef = .slice (some ⟨gs, 0, none⟩) 5 c2 := hr 11 (by decide)
        refine wpOp_step rfl (fun K' hK => ?_)
        go_simp
        exact hK _ _ ⟨_, rfl, rfl, fun _ _ _ h => h, hC⟩
       ·have d12 : A.tmps[71]?.getD undef = .slice (some ⟨gs, 0, none⟩) 5 c2 := fI hd 12 71
        refine wpOp_step rfl (fun K' hK => ?_)
        go_simp
        exact hK _ _ ⟨_, rfl, rfl, fun _ _ _ h => h, hC⟩
       ·have d13 : A.tmps[72]?.getD undef = .pointer (some ⟨gs, 4, none⟩) := fI hd 13 72
        refine wpOp_step rfl (fun K' hK => ?_)
        have kc : W.cell? ⟨gs, 4, none⟩ = some (.string (S y4)) := HGA.out W hC.2 4 _ rfl
        go_simp
        exact hK _ _ ⟨_, rfl, rfl, fun _ _ _ h => h, hC⟩
       ·have d14 : A.tmps[73]?.getD undef = .string (S y4) := fI hd 14 73
        refine wpOp_step rfl (fun K' hK => ?_)
        obtain ⟨cc, W', hcv, hcc, hrd, hb, hsz'⟩ := conv_bytesY y4 W
        go_simp
        exact hK _ _ ⟨_, rfl, ⟨W.heap.size, cc, rfl, HGZ.out W hC.2, ⟨hrd, hcc⟩⟩, fun k' _ u h => ks18_below g5 gs c2 y1 y2 y3 y4 hb k' u h, stay _ hb⟩
       ·have e5 : A.tmps[5]?.getD undef = .pointer (some ⟨g5, 0, none⟩) := hr 5 (by decide)
        refine wpOp_step rfl (fun K' hK => ?_)
        go_simp
        exact hK _ _ ⟨_, rfl, rfl, fun _ _ _ h => h, hC⟩
       ·have d16 : A.tmps[75]?.getD undef = .pointer (some ⟨g5, 3, none⟩) := fI hd 16 75
        have d3 : A.tmps[62]?.getD undef = x 3 := (hd 3 (by decide)).1 62 rfl
        have r3 : gBy g5 y1 W (x 3) := (hd 3 (by decide)).2
        refine wpOp_step rfl (fun K' hK => ?_)
        obtain ⟨⟨a3, a4, a5, a6, hblk⟩, hgr⟩ := hC
        have kk := hblk.cell 3
        have zz := hblk.frozen 3
        generalize x 3 = xv at *
        obtain ⟨bb, cc, rfl, hbb, hxx⟩ := r3
        have r3 : gBy g5 y1 W (.slice (some ⟨bb, 0, none⟩) y1.length cc) := ⟨bb, cc, rfl, hbb, hxx⟩
        simp only [List.getElem?_toArray, List.getElem?_cons_succ, List.getElem?_cons_zero] at kk
        go_simp
        exact hK _ _ ⟨undef, rfl, gSt_new hblk (by simp) r3 undef, fun k' hk' u h => ks18_set0 g5 gs c2 y1 y2 y3 y4 _ k' hk' u h, ⟨(.slice (some ⟨bb, 0, none⟩) y1.length cc), a4, a5, a6, by have hs := hblk.set_ 3 (.slice (some ⟨bb, 0, none⟩) y1.length cc); exact hs⟩, grown_set hgr 3 _⟩
       ·have e5 : A.tmps[5]?.getD undef = .pointer (some ⟨g5, 0, none⟩) := hr 5 (by decide)
        refine wpOp_step rfl (fun K' hK => ?_)
        go_simp
        exact hK _ _ ⟨_, rfl, rfl, fun _ _ _ h => h, hC⟩
       ·have d18 : A.tmps[76]?.getD undef = .pointer (some ⟨g5, 4, none⟩) := fI hd 18 76
        have d7 : A.tmps[66]?.getD undef = x 7 := (hd 7 (by decide)).1 66 rfl
        have r7 : gBy g5 y2 W (x 7) := (hd 7 (by decide)).2
        refine wpOp_step rfl (fun K' hK => ?_)
        obtain ⟨⟨a3, a4, a5, a6, hblk⟩, hgr⟩ := hC
        have kk := hblk.cell 4
        have zz := hblk.frozen 4
        generalize x 7 = xv at *
        obtain ⟨bb, cc, rfl, hbb, hxx⟩ := r7
        have r7 : gBy g5 y2 W (.slice (some ⟨bb, 0, none⟩) y2.length cc) := ⟨bb, cc, rfl, hbb, hxx⟩
        simp only [List.getElem?_toArray, List.getElem?_cons_succ, List.getElem?_cons_zero] at kk
        go_simp
        exact hK _ _ ⟨undef, rfl, gSt_new hblk (by simp) r7 undef, fun k' hk' u h => ks18_set1 g5 gs c2 y1 y2 y3 y4 _ k' hk' u h, ⟨a3, (.slice (some ⟨bb, 0, none⟩) y2.length cc), a5, a6, by have hs := hblk.set_ 4 (.slice (some ⟨bb, 0, none⟩) y2.length cc); exact hs⟩, grown_set hgr 4 _⟩
       ·have e5 : A.tmps[5]?.getD undef = .pointer (some ⟨g5, 0, none⟩) := hr 5 (by decide)
        refine wpOp_step rfl (fun K' hK => ?_)
        go_simp
        exact hK _ _ ⟨_, rfl, rfl, fun _ _ _ h => h, hC⟩
       ·have d20 : A.tmps[77]?.getD undef = .pointer (some ⟨g5, 5, none⟩) := fI hd 20 77
        have d11 : A.tmps[70]?.getD undef = x 11 := (hd 11 (by decide)).1 70 rfl
        have r11 : gBy g5 y3 W (x 11) := (hd 11 (by decide)).2
        refine wpOp_step rfl (fun K' hK => ?_)
        obtain ⟨⟨a3, a4, a5, a6, hblk⟩, hgr⟩ := hC
        have kk := hblk.cell 5
        have zz := hblk.frozen 5
        generalize x 11 = xv at *
        obtain ⟨bb, cc, rfl, hbb, hxx⟩ := r11
        have r11 : gBy g5 y3 W (.slice (some ⟨bb, 0, none⟩) y3.length cc) := ⟨bb, cc, rfl, hbb, hxx⟩
        simp only [List.getElem?_toArray, List.getElem?_cons_succ, List.getElem?_cons_zero] at kk
        go_simp
        exact hK _ _ ⟨undef, rfl, gSt_new hblk (by simp) r11 undef, fun k' hk' u h => ks18_set2 g5 gs c2 y1 y2 y3 y4 _ k' hk' u h, ⟨a3, a4, (.slice (some ⟨bb, 0, none⟩) y3.length cc), a6, by have hs := hblk.set_ 5 (.slice (some ⟨bb, 0, none⟩) y3.length cc); exact hs⟩, grown_set hgr 5 _⟩
       ·have e5 : A.tmps[5]?.getD undef = .pointer (some ⟨g5, 0, none⟩) := hr 5 (by decide)
        refine wpOp_step rfl (fun K' hK => ?_)
        go_simp
        exact hK _ _ ⟨_, rfl, rfl, fun _ _ _ h => h, hC⟩
       ·have d22 : A.tmps[78]?.getD undef = .pointer (some ⟨g5, 6, none⟩) := fI hd 22 78
        have d15 : A.tmps[74]?.getD undef = x 15 := (hd 15 (by decide)).1 74 rfl
        have r15 : gBy g5 y4 W (x 15) := (hd 15 (by decide)).2
        refine wpOp_step rfl (fun K' hK => ?_)
        obtain ⟨⟨a3, a4, a5, a6, hblk⟩, hgr⟩ := hC
        have kk := hblk.cell 6
        have zz := hblk.frozen 6
        generalize x 15 = xv at *
        obtain ⟨bb, cc, rfl, hbb, hxx⟩ := r15
        have r15 : gBy g5 y4 W (.slice (some ⟨bb, 0, none⟩) y4.length cc) := ⟨bb, cc, rfl, hbb, hxx⟩
        simp only [List.getElem?_toArray, List.getElem?_cons_succ, List.getElem?_cons_zero] at kk
        go_simp
        exact hK _ _ ⟨undef, rfl, gSt_new hblk (by simp) r15 undef, fun k' hk' u h => ks18_set3 g5 gs c2 y1 y2 y3 y4 _ k' hk' u h, ⟨a3, a4, a5, (.slice (some ⟨bb, 0, none⟩) y4.length cc), by have hs := hblk.set_ 6 (.slice (some ⟨bb, 0, none⟩) y4.length cc); exact hs⟩, grown_set hgr 6 _⟩
      ·intro x W hC hR
       obtain ⟨⟨a3, a4, a5, a6, hblk⟩, hgr⟩ := hC
       obtain ⟨b1, d11, rfl, hb1, hx1⟩ := gSt_cell (v := x 17) (hR 17 (by decide)) hblk rfl
       obtain ⟨b2, d12, rfl, hb2, hx2⟩ := gSt_cell (v := x 19) (hR 19 (by decide)) hblk rfl
       obtain ⟨b3, d13, rfl, hb3, hx3⟩ := gSt_cell (v := x 21) (hR 21 (by decide)) hblk rfl
       obtain ⟨b4, d14, rfl, hb4, hx4⟩ := gSt_cell (v := x 23) (hR 23 (by decide)) hblk rfl
       simp only [putL, Act.put, Nat.zero_add, Nat.reduceAdd, List.setIfInBounds_toArray, List.set_cons_succ, List.set_cons_zero]
       generalize x 0 = xx0
       generalize x 1 = xx1
       generalize x 2 = xx2
       generalize x 3 = xx3
       generalize x 4 = xx4
       generalize x 5 = xx5
       generalize x 6 = xx6
       generalize x 7 = xx7
       generalize x 8 = xx8
       generalize x 9 = xx9
       generalize x 10 = xx10
       generalize x 11 = xx11
       generalize x 12 = xx12
       generalize x 13 = xx13
       generalize x 14 = xx14
       generalize x 15 = xx15
       generalize x 16 = xx16
       generalize x 18 = xx18
       generalize x 20 = xx20
       generalize x 22 = xx22
       have X55 := hide hblk
       have X25 := hide (V24.out.grown hgr (fun h => by injection h with h; have := HGB.out; omega))
       have XW5 := hide (show Below w.heap.size w W from below_of_grown VW.out hgr (by have := HGB.out; omega))
       have Y5_0 := hide (VY0.out.grownZ hgr (fun _ a ha he => by injection ha with ha; subst ha; injection he with he; have h2 : b0 = g5 := he; have := HGB.out; omega))
       have Y5_1 := hide hx1
       have Y5_2 := hide hx2
       have Y5_3 := hide hx3
       have Y5_4 := hide hx4
       have XB0 := hide (And.intro HGB.out.2.2 HGB.out.2.1)
       have XB1 := hide (And.intro hb1 HGB.out.2.1)
       have XB2 := hide (And.intro hb2 HGB.out.2.1)
       have XB3 := hide (And.intro hb3 HGB.out.2.1)
       have XB4 := hide (And.intro hb4 HGB.out.2.1)
       obtain ⟨rs0, ho0, hr0⟩ := VL0.out.grownOff hgr (Nat.lt_succ_self g5)
       obtain ⟨rs1, ho1, hr1⟩ := VL1.out.grownOff hgr (Nat.lt_succ_self g5)
       obtain ⟨A0, c0, rfl, hc0, _⟩ := own_slice ho0.1
       obtain ⟨A1, c1, rfl, hc1, _⟩ := own_slice ho1.1
       have HO0 := hide ho0
       have HO1 := hide ho1
       have HR0 := hide hr0
       have HR1 := hide hr1
       clear ho0 ho1 hr0 hr1 hc0 hc1 hR hblk hgr hx1 hx2 hx3 hx4 hb1 hb2 hb3 hb4
       have k0 : W.cell? ⟨g5, 0, none⟩ = some (.slice A0 rs0.length c0) := X55.out.cell 0
       have k1 : W.cell? ⟨g5, 1, none⟩ = some (.slice A1 rs1.length c1) := X55.out.cell 1
       have k2 : W.cell? ⟨g5, 2, none⟩ = some (.slice (some ⟨b0, 0, none⟩) y0.length e3) := X55.out.cell 2
       have k3 : W.cell? ⟨g5, 3, none⟩ = some (.slice (some ⟨b1, 0, none⟩) y1.length d11) := X55.out.cell 3
       have k4 : W.cell? ⟨g5, 4, none⟩ = some (.slice (some ⟨b2, 0, none⟩) y2.length d12) := X55.out.cell 4
       have k5 : W.cell? ⟨g5, 5, none⟩ = some (.slice (some ⟨b3, 0, none⟩) y3.length d13) := X55.out.cell 5
       have k6 : W.cell? ⟨g5, 6, none⟩ = some (.slice (some ⟨b4, 0, none⟩) y4.length d14) := X55.out.cell 6
       have q0 : W.cell? ⟨g2, 0, none⟩ = some (.slice none 0 0) := X25.out.cell 0
       have z0 := X25.out.frozen 0
       have q1 : W.cell? ⟨g2, 1, none⟩ = some (.slice none 0 0) := X25.out.cell 1
       have z1 := X25.out.frozen 1
       have q2 : W.cell? ⟨g2, 2, none⟩ = some (.slice none 0 0) := X25.out.cell 2
       have z2 := X25.out.frozen 2
       have q3 : W.cell? ⟨g2, 3, none⟩ = some (.slice none 0 0) := X25.out.cell 3
       have z3 := X25.out.frozen 3
       have q4 : W.cell? ⟨g2, 4, none⟩ = some (.slice none 0 0) := X25.out.cell 4
       have z4 := X25.out.frozen 4
       have q5 : W.cell? ⟨g2, 5, none⟩ = some (.slice none 0 0) := X25.out.cell 5
       have z5 := X25.out.frozen 5
       have q6 : W.cell? ⟨g2, 6, none⟩ = some (.slice none 0 0) := X25.out.cell 6
       have z6 := X25.out.frozen 6
       go_wp2
       have hload := tab_stored X25.out (.slice A0 rs0.length c0) (.slice A1 rs1.length c1) (.slice (some ⟨b0, 0, none⟩) y0.length e3) (.slice (some ⟨b1, 0, none⟩) y1.length d11) (.slice (some ⟨b2, 0, none⟩) y2.length d12) (.slice (some ⟨b3, 0, none⟩) y3.length d13) (.slice (some ⟨b4, 0, none⟩) y4.length d14)
       have HT := hide (tab_grown W g2 (.slice A0 rs0.length c0) (.slice A1 rs1.length c1) (.slice (some ⟨b0, 0, none⟩) y0.length e3) (.slice (some ⟨b1, 0, none⟩) y1.length d11) (.slice (some ⟨b2, 0, none⟩) y2.length d12) (.slice (some ⟨b3, 0, none⟩) y3.length d13) (.slice (some ⟨b4, 0, none⟩) y4.length d14))
       rw [HD.out]
       have hgg := HG.out
       refine bodyPost_ret (v := .tuple #[.agg #[(.slice A0 rs0.length c0), (.slice A1 rs1.length c1), (.slice (some ⟨b0, 0, none⟩) y0.length e3), (.slice (some ⟨b1, 0, none⟩) y1.length d11), (.slice (some ⟨b2, 0, none⟩) y2.length d12), (.slice (some ⟨b3, 0, none⟩) y3.length d13), (.slice (some ⟨b4, 0, none⟩) y4.length d14)], .int .i64 ((us : Int) + (ur : Int)), .int .i64 0]) (results_cell3 Tryd.results14 _ _ ⟨g2, 0, none⟩ _ rfl hload) rfl ⟨_, ⟨rs0, rs1, ⟨y0, some ⟨b0, 0, none⟩, e3⟩, ⟨y1, some ⟨b1, 0, none⟩, d11⟩, ⟨y2, some ⟨b2, 0, none⟩, d12⟩, ⟨y3, some ⟨b3, 0, none⟩, d13⟩, ⟨y4, some ⟨b4, 0, none⟩, d14⟩⟩, rfl, ?_, ?_, fun h => absurd rfl h, tab_below XW5.out (by omega) _ _ _ _ _ _ _⟩
       ·exact ⟨A0, A1, c0, c1, rfl, HO0.out.x HT.out (by omega), HO1.out.x HT.out (by omega), Y5_0.out.grownZ HT.out (fun _ a ha he => by injection ha with ha; subst ha; injection he with he; have h2 : b0 = g2 := he; have := XB0.out; omega), Y5_1.out.grownZ HT.out (fun _ a ha he => by injection ha with ha; subst ha; injection he with he; have h2 : b1 = g2 := he; have := XB1.out; omega), Y5_2.out.grownZ HT.out (fun _ a ha he => by injection ha with ha; subst ha; injection he with he; have h2 : b2 = g2 := he; have := XB2.out; omega), Y5_3.out.grownZ HT.out (fun _ a ha he => by injection ha with ha; subst ha; injection he with he; have h2 : b3 = g2 := he; have := XB3.out; omega), Y5_4.out.grownZ HT.out (fun _ a ha he => by injection ha with ha; subst ha; injection he with he; have h2 : b4 = g2 := he; have := XB4.out; omega)⟩
       ·intro _
        show ((rs0.map ru, rs1.map ru), [y0, y1, y2, y3, y4]) = ((R0, R1), [y0, y1, y2, y3, y4])
        rw [HR0.out, HR1.out]
end Go.Proofs.YtjnnohghgkjhcaaDoor
