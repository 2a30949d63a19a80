/-
  Cells: Decode; Decode of the reference; by contract.
-/
import Derived.Test.YtdjmfjmijpfijaaEncC
import Derived.Test.YtdjmfjmijpfijaaPure2
namespace Go.Proofs.Ytdjmfjmijpfijaa
open Go.RowKit
set_option linter.unusedVariables false
set_option linter.unusedSimpArgs false
/-- what decoding a page answers -/
def decP (l : List UInt8) : List (List UInt8) × Nat × Int := Wr.decList 1 Wr.decB l
theorem encL_mem {xs : List (List UInt8)} {x : List UInt8} (h : x ∈ xs) : x.length ≤ (Wr.encL Wr.encB xs).length := by
  induction xs with
  | nil => cases h
  | cons y ys ih =>
    rw [Wr.encL_cons, List.length_append]
    rcases List.mem_cons.1 h with rfl | h
    · unfold Wr.encB; rw [List.length_append]; omega
    · have := ih h; omega
theorem decP_err {l : List UInt8} (h : (decP l).2.2 ≠ 0) : (decP l).1 = [] ∧ (decP l).2.1 = 0 := by
  unfold decP Wr.decList at h ⊢
  by_cases h1 : (Wr.decLen 1 l).2.2 = 0
  · rw [if_neg (by simpa using h1)] at h ⊢
    unfold Wr.comb at h ⊢
    by_cases h2 : (Wr.decLoop Wr.decB (Wr.decLen 1 l).1.toNat (l.drop (Wr.decLen 1 l).2.1)).2.2 = 0
    · rw [if_neg (by simpa using h2)] at h; exact absurd rfl h
    · rw [if_pos (by simpa using h2)]; exact ⟨rfl, rfl⟩
  · rw [if_pos (by simpa using h1)]; exact ⟨rfl, rfl⟩
theorem decP_small (l : List UInt8) : (decP l).1.length ≤ l.length ∧ (∀ x ∈ (decP l).1, x.length ≤ l.length) ∧ (decP l).2.1 ≤ l.length := by
  by_cases h : (decP l).2.2 = 0
  · obtain ⟨h1, h2, h3⟩ := Wr.list_canon (size := 1) Wr.codecBytes.canon (by omega) l h
    have h4 : (l.take (decP l).2.1).length = (Wr.enc (decP l).1.length ++ Wr.encL Wr.encB (decP l).1).length := by unfold decP; rw [h3]
    rw [List.length_append, List.length_take] at h4
    have h5 := Wr.encL_least (size := 1) (e := Wr.encB) (ok := Wr.okB) Wr.codecBytes.least (decP l).1 h1
    refine ⟨by omega, fun x hx => ?_, h2⟩
    have := encL_mem hx
    omega
  · obtain ⟨h1, h2⟩ := decP_err h
    rw [h1, h2]
    exact ⟨by simp, by simp, by simp⟩
theorem conv_bytesX (s : List UInt8) (W : World) : ∃ c w', (convert 9 23 (.string (S s))).run Try.prog W = .ok (.slice (some ⟨W.heap.size, 0, none⟩) s.length c) w' ∧ s.length ≤ c ∧ Reads w' w'.heap.size 1 (some ⟨W.heap.size, 0, none⟩) s.length (BV s) ∧ Below W.heap.size W w' ∧ w'.heap.size = W.heap.size + 1 := by
  have hs : (S s).size = s.length := by rfl
  have h := run_bytes_of_string W 9 23 5 (S s) Try.underlying9 Try.underlying23 Try.underlying5
  rw [hs] at h
  refine ⟨_, _, h, grownCap_ge _ _ _ _, ⟨by rw [BV_len, Nat.mul_one], fun _ => ⟨_, rfl, by simp, fun j u hj => ?_⟩⟩, ⟨rfl, rfl, rfl, by simp, fun k hk => Below.heap_alloc W.drew _ k hk⟩, by simp⟩
  rw [show ((⟨W.heap.size, 0, none⟩ : Addr).add j) = ⟨W.heap.size, j, none⟩ by simp [Addr.add]; intro h; omega]
  have hjl : j < s.length := by
    rcases Nat.lt_or_ge j s.length with h | h
    · exact h
    · rw [List.getElem?_eq_none (by rw [BV_len]; exact h)] at hj; cases hj
  refine (cell_of_row _ W.heap.size j _ 5 _ (show (World.alloc W.drew _).heap[W.heap.size]? = some _ from Array.getElem?_push_size)).trans ?_
  rw [bytesRow_at (S s) _ j (by simpa [S] using hjl)]
  rw [BV_get s j hjl] at hj
  simpa [S] using hj
/-- lines that lie in blocks other than g -/
def LnsAt (w : World) (g : Option Nat) (vs : List Value) (xs : List (List UInt8)) : Prop :=
  vs.length = xs.length ∧ ∀ k (h : k < xs.length), ∃ b c, vs[k]? = some (.slice (some ⟨b, 0, none⟩) xs[k].length c) ∧ g ≠ some b ∧ b < w.heap.size ∧ xs[k].length ≤ c ∧ Reads w w.heap.size 1 (some ⟨b, 0, none⟩) xs[k].length (BV xs[k])
theorem LnsAt.nil (w : World) (g : Option Nat) : LnsAt w g [] [] := ⟨rfl, fun k h => absurd h (by simp)⟩
theorem LnsAt.grown {w w' : World} {g g' : Option Nat} {vs : List Value} {xs : List (List UInt8)} (h : LnsAt w g vs xs) (hg : w.grownBy w' g) (hg' : g' = g ∨ ∃ b, g' = some b ∧ w.heap.size ≤ b) : LnsAt w' g' vs xs := by
  refine ⟨h.1, fun k hk => ?_⟩
  obtain ⟨b, c, h1, h2, h3, h4, h5⟩ := h.2 k hk
  have hlt := hg.size
  refine ⟨b, c, h1, ?_, by omega, h4, ⟨h5.1, fun hn => ?_⟩⟩
  · rcases hg' with rfl | ⟨q, rfl, hq⟩
    · exact h2
    · intro he; injection he with he; omega
  · obtain ⟨ad, e1, e2, e3⟩ := h5.2 hn
    injection e1 with e1
    subst e1
    refine ⟨_, rfl, by show b < _; omega, fun j u hu => ?_⟩
    have := World.cell?_of_block (a := (⟨b, 0, none⟩ : Addr).add j) (hg.block _ (by rw [block_of_add]; exact h3) (by rw [block_of_add]; exact fun he => h2 he.symm))
    rw [this]
    exact e3 j u hu
theorem LnsAt.below {w w' : World} {g : Option Nat} {vs : List Value} {xs : List (List UInt8)} (h : LnsAt w g vs xs) (hb : Below w.heap.size w w') : LnsAt w' g vs xs :=
  h.grown ⟨hb.os, hb.tape, hb.output, hb.size, fun i hi _ => hb.block i hi⟩ (.inl rfl)
theorem LnsAt.snoc {w : World} {g : Option Nat} {vs : List Value} {xs : List (List UInt8)} (h : LnsAt w g vs xs) (l : List UInt8) (b c : Nat) (hb : g ≠ some b) (hlt : b < w.heap.size) (hc : l.length ≤ c) (hr : Reads w w.heap.size 1 (some ⟨b, 0, none⟩) l.length (BV l)) :
    LnsAt w g (vs ++ [.slice (some ⟨b, 0, none⟩) l.length c]) (xs ++ [l]) := by
  refine ⟨by simp [h.1], fun k hk => ?_⟩
  by_cases hkl : k < xs.length
  · obtain ⟨b', c', h1, h2⟩ := h.2 k hkl
    refine ⟨b', c', ?_, ?_⟩
    · rw [List.getElem?_append_left (by rw [h.1]; exact hkl), List.getElem_append_left hkl]; exact h1
    · rw [List.getElem_append_left hkl]; exact h2
  · have hk0 : k = xs.length := by rw [List.length_append] at hk; simp at hk; omega
    subst hk0
    have e : (xs ++ [l])[xs.length]'hk = l := by simp
    refine ⟨b, c, ?_, ?_⟩
    · rw [List.getElem?_append_right (by rw [h.1]; omega), h.1, Nat.sub_self, e]; rfl
    · rw [e]; exact ⟨hb, hlt, hc, hr⟩
theorem LnsAt.pg {w : World} {g : Option Nat} {vs : List Value} {xs : List (List UInt8)} (h : LnsAt w g vs xs) {A : Option Addr} (hr : Reads w w.heap.size 1 A xs.length vs) : Pg w w.heap.size A xs.length xs := by
  refine ⟨vs, hr, rfl, fun k hk => ?_⟩
  obtain ⟨b, c, h1, h2, h3, h4, h5⟩ := h.2 k hk
  exact ⟨_, _, _, h1, h4, h5⟩
theorem SV_map (xs : List (List UInt8)) : xs.map VS = SV xs := rfl
set_option maxHeartbeats 2000000 in
set_option maxRecDepth 100000 in
theorem decode_any (A : Option Addr) (n c : Nat) (l : List UInt8) (w : World) (hr : Reads w w.heap.size 1 A n (BV l)) (hm : n ≤ 1048576) (hnc : n ≤ c) :
    Calls Try.prog 11 #[.slice A n c] w fun e w' => ∃ A' m c', e = .returned (.tuple #[.slice A' m c', .int .i64 ((decP l).2.1 : Nat), .int .i64 (decP l).2.2]) ∧ Pg w' w'.heap.size A' m (decP l).1 ∧ Below w.heap.size w w' := by
  have hnl := reads_bytes_len hr
  have C := hide (getStrings_any A n c l w hr (by omega) hnc)
  have hsm := decP_small l
  have her := @decP_err l
  rw [show Wr.decList 1 Wr.decB l = decP l from rfl] at C
  obtain ⟨R, hR⟩ : ∃ R, R = decP l := ⟨_, rfl⟩
  rw [← hR] at C hsm her ⊢
  obtain ⟨xs, us, er⟩ := R
  simp only at C hsm her ⊢
  rw [← hnl] at hsm
  obtain ⟨hx1, hx2, hx3⟩ := hsm
  have HX2 := hide hx2
  clear hR hr hnl hx2
  by_cases h0 : er = 0
  · subst h0
    obtain ⟨m, hm0⟩ : ∃ m, m = xs.length := ⟨_, rfl⟩
    have HM := hide hm0
    rw [← hm0] at C hx1
    have hmk : ∀ W', (Instr.makeSlice 25 (.int .i64 (m : Int)) (.int .i64 (m : Int))).run Try.prog W' = .ok (.slice (some ⟨W'.heap.size, 0, none⟩) m m) (W'.alloc (.cells (madeCells #[Value.slice none 0 0] m) 23)) := fun W' =>
      run_make_row' 25 23 (.slice none 0 0) 24 Try.underlying25 lineInfo rfl .i64 .i64 m (by omega) (by omega) W'
    rw [madeLine] at hmk
    have hmi : (m : Int) ≤ 1048576 := by omega
    clear hm0 her hx3
    go_enter Try.func11, Try.ntmps11
    go_upto_region 4 with (go_at_call 19; refine (unhide C).mono ?_; rintro e w1 ⟨v, rfl, hown, hb⟩; have HB1 := hide hb; have HO1 := hide hown; clear hown hb)
    obtain ⟨A1, c1, rfl, hc1, hA1⟩ := own_slice HO1.out
    have HRS := hide (Reads.of_own HO1.out)
    clear hA1 hc1
    go_upto_region 5 with fail
    refine name_world fun X hX => ?_
    have HGP := hide (show Blk X w1.heap.size 23 (filled m 0 [] (.slice none 0 0)).toArray by rw [← hX.out]; exact Blk.new w1 _ _)
    have HVX := hide (show Below w1.heap.size w1 X by rw [← hX.out]; exact below_alloc w1 _)
    have hgl := HGP.out.lt
    have hws := HB1.out.size
    clear hX hmk C
    generalize hgp : w1.heap.size = gp at *
    have HGQ := hide hgp
    clear hgp
    have hL0 := hide (LnsAt.nil X (some gp))
    have HREF := hide (Below.refl gp X)
    go_wp2
    go_loopw [25] (fun s25 wr => ∃ (i : Nat) (vs : List Value), i ≤ m ∧ s25 = .int .i64 (i : Int) ∧ Blk wr gp 23 (filled m i vs (.slice none 0 0)).toArray ∧ LnsAt wr (some gp) vs (xs.take i) ∧ Below gp X wr) (fun s25 _ => m - (intOf s25).toNat)
    case atStart => exact ⟨0, [], by omega, rfl, HGP.out, by rw [List.take_zero]; exact hL0.out, HREF.out⟩
    case round =>
      obtain ⟨i, vs, hi, rfl, hblk, hln, hbel⟩ := hrel
      obtain ⟨wd, rfl⟩ : ∃ wd, wd = wr := ⟨wr, rfl⟩
      have HB := hide hbel
      have HBK := hide hblk
      have HLN := hide hln
      by_cases hlt : i < m
      · have hkl : i < xs.length := by rw [← HM.out]; exact hlt
        obtain ⟨ad, hA, hab, hcs⟩ := HRS.out.2 (by omega)
        subst hA
        have hc0 : w1.cell? (ad.add i) = some (.string (S xs[i])) := hcs i _ (by rw [List.getElem?_map, List.getElem?_eq_getElem hkl]; rfl)
        have hc : wd.cell? (ad.add i) = some (.string (S xs[i])) := by rw [(HVX.out.trans hbel).cell (by rw [block_of_add]; exact hab)]; exact hc0
        have hi0 : (0 : Int) ≤ (i : Int) := by omega
        have hi1 : (i : Int) < (m : Int) := by omega
        have HLT := hide hlt
        have hvl : vs.length = i := by have := hln.1; rw [List.length_take] at this; omega
        obtain ⟨c', w2, hcv, hlc, hrd, hb2, hs2⟩ := conv_bytesX xs[i] wd
        have hb2g : Below gp X w2 := hbel.trans (hb2.mono (Nat.le_of_lt hblk.lt))
        have hbk2 := hblk.below hb2 hblk.lt
        have hln2 := hln.below hb2
        have HFIN := hide (show LnsAt (w2.setCell ⟨gp, i, none⟩ (.slice (some ⟨wd.heap.size, 0, none⟩) xs[i].length c')) (some gp) (vs ++ [.slice (some ⟨wd.heap.size, 0, none⟩) xs[i].length c']) (xs.take (i + 1)) by
          rw [List.take_succ_eq_append_getElem hkl]
          have h1 : LnsAt w2 (some gp) (vs ++ [.slice (some ⟨wd.heap.size, 0, none⟩) xs[i].length c']) (xs.take i ++ [xs[i]]) :=
            hln2.snoc xs[i] wd.heap.size c' (by have := hblk.lt; intro he; injection he with he; omega) (by omega) hlc hrd
          exact h1.grown (only_setCell (World.grownBy.refl w2 _) (.inl rfl) _) (.inl rfl))
        have HNX := hide (show Blk (w2.setCell ⟨gp, i, none⟩ (.slice (some ⟨wd.heap.size, 0, none⟩) xs[i].length c')) gp 23 (filled m (i + 1) (vs ++ [.slice (some ⟨wd.heap.size, 0, none⟩) xs[i].length c']) (.slice none 0 0)).toArray by
          have h := hbk2.set_ i (.slice (some ⟨wd.heap.size, 0, none⟩) xs[i].length c')
          rw [filled_next m i vs _ _ hvl hlt] at h
          exact h)
        have HB3 := hide (hb2g.setCell (p := ⟨gp, i, none⟩) (Nat.le_refl _) (.slice (some ⟨wd.heap.size, 0, none⟩) xs[i].length c'))
        have hcp : w2.cell? ⟨gp, i, none⟩ = some (.slice none 0 0) := by rw [hbk2.cell, List.getElem?_toArray]; exact filled_get m i _ _ hvl hlt
        have hfz := hbk2.frozen i
        generalize xs[i].length = len at *
        generalize S xs[i] = tx at *
        clear hc0 hcs hblk hln hbel hlt hvl hlc hrd hb2 hs2 hb2g hbk2 hln2
        clear hkl
        go_wp2
        exact ⟨⟨i + 1, _, HLT.out, by go_num, HNX.out, HFIN.out, HB3.out⟩, by have := HLT.out; simp [intOf]; omega⟩
      · obtain rfl : i = m := by omega
        have hnt : ¬ ((i : Int) < (i : Int)) := by omega
        have htk : xs.take i = xs := List.take_of_length_le (by have := HM.out; omega)
        rw [htk] at hln
        rw [filled_full] at hblk
        have hvl : vs.length = i := by rw [hln.1]; exact HM.out.symm
        have HPG := hide (hln.pg (by rw [← HM.out]; exact reads_blk hblk hvl))
        have HEND := hide (HB1.out.trans ((HVX.out.trans hbel).mono hws))
        clear hblk hln hbel hlt htk hvl HBK HLN
        go_wp2
        refine bodyPost_ret (v := .tuple #[.slice (some ⟨gp, 0, none⟩) i i, .int .i64 (us : Nat), .int .i64 0]) (by simp [results, Try.results11, go_sem]) rfl ⟨some ⟨gp, 0, none⟩, i, ⟨i, rfl⟩, ?_, HEND.out⟩
        have h := HPG.out
        rw [← HM.out] at h
        exact h
  · obtain ⟨h1, h2⟩ := her h0
    subst h1
    subst h2
    have hne : (er != 0) = true := by rw [bne_iff_ne]; exact h0
    have HN0 := hide h0
    clear her h0
    go_enter Try.func11, Try.ntmps11
    go_wp2_with (go_at_call 19; refine (unhide C).mono ?_; rintro e w1 ⟨v, rfl, hown, hb⟩; have HB1 := hide hb; clear hown hb)
    exact bodyPost_ret (v := .tuple #[.slice none 0 0, .int .i64 0, .int .i64 er]) (by simp [results, Try.results11, go_sem]) rfl ⟨none, 0, 0, rfl, Pg.nil _ _, HB1.out⟩
/-- a page of the call's own whose lines are converted strings -/
def PgL (w : World) (base : Nat) (v : Value) (xs : List (List UInt8)) : Prop :=
  ∃ vs : List Value, w.ownsRow base 23 1 v xs.length vs ∧ LnsAt w v.ownBlock vs xs
theorem PgL.nil (w : World) (base : Nat) : PgL w base (.slice none 0 0) [] := ⟨[], World.ownsRow_nil _ _ _ _, LnsAt.nil _ _⟩
theorem append_lineL (wd w2 : World) (base : Nat) (v : Value) (xs : List (List UInt8)) (l : List UInt8) (c : Nat) (hp : PgL wd base v xs) (hbel : Below wd.heap.size wd w2) (hc : l.length ≤ c) (hs2 : w2.heap.size = wd.heap.size + 1)
    (hrd : Reads w2 w2.heap.size 1 (some ⟨wd.heap.size, 0, none⟩) l.length (BV l)) (hn : xs.length ≤ 1048576) (hb : base ≤ wd.heap.size) :
    ∃ v' w', (Builtin.append_ #[25, 25] 25 #[v, .slice (some ⟨w2.heap.size, 0, none⟩) 1 1]).run Try.prog (w2.alloc (.cells #[.slice (some ⟨wd.heap.size, 0, none⟩) l.length c] 23)) = .ok v' w' ∧ PgL w' base v' (xs ++ [l]) ∧ Below base wd w' := by
  obtain ⟨i0, hi, hz0, hz1, hz2⟩ := info_parts lineInfo
  obtain ⟨vs, h1, h2⟩ := hp
  obtain ⟨u, hu⟩ : ∃ u, u = Value.slice (some ⟨wd.heap.size, 0, none⟩) l.length c := ⟨_, rfl⟩
  rw [← hu]
  have hb3 : Below wd.heap.size wd (w2.alloc (.cells #[u] 23)) := hbel.trans ((below_alloc w2 _).mono hbel.size)
  have h1' := own_under h1 hb3
  have hsz : (w2.alloc (.cells #[u] 23)).heap.size = wd.heap.size + 2 := by simp [hs2]
  obtain ⟨v', w', hrun, h4, h5, h6⟩ := run_append_any (P := Try.prog) (w2.alloc (.cells #[u] 23)) base 25 25 23 i0 (.slice none 0 0) 1 24 Try.underlying25 hi hz0 hz1 hz2 rfl (by omega) v xs.length _ h1' (w2.alloc (.cells #[u] 23)).heap.size (some ⟨w2.heap.size, 0, none⟩) 1 1 [u] (reads_new w2 _ _) (by subst hu; simp [Value.oneCell']) (by unfold maxLen; omega) (by omega) (by omega)
  refine ⟨v', w', hrun, ⟨vs ++ [u], by rw [List.length_append]; exact h4, ?_⟩, (hb3.mono hb).trans (below_grown h5 h1' (by omega))⟩
  have hne : v.ownBlock ≠ some wd.heap.size := by
    intro he
    have := (h1.lt _ he).2
    omega
  have hln := (h2.below hbel).snoc l wd.heap.size c hne (by omega) hc hrd
  rw [← hu] at hln
  have hln3 := hln.below (below_alloc w2 (.cells #[u] 23))
  refine hln3.grown h5 ?_
  rcases h6 with h6 | h6
  · exact .inl h6
  · exact .inr ⟨_, h6, Nat.le_refl _⟩
theorem PgL.pg {w : World} {base : Nat} {v : Value} {xs : List (List UInt8)} (h : PgL w base v xs) : ∃ A c, v = .slice A xs.length c ∧ xs.length ≤ c ∧ Pg w w.heap.size A xs.length xs := by
  obtain ⟨vs, h1, h2⟩ := h
  obtain ⟨A, c, rfl, hc, _⟩ := own_slice h1
  exact ⟨A, c, rfl, hc, h2.pg (Reads.of_own h1)⟩
theorem wpList_append_lineL {ops : Array Oper} {rest : List Oper} {o : Oper} {a : Act} {Q : Exit → Act → World → Prop} (wd w2 : World) (hgd : o.guard = none) (s x : Operand) (t : TypeId) (ht : t = 25)
    (ho : o.op = .call { callee := .builtin .append, args := #[s, x], argTypes := #[t, t] }) (hot : o.type = 25)
    (base : Nat) (v : Value) (xs : List (List UInt8)) (l : List UInt8) (c : Nat) (hs : a.eval s = v) (hx : a.eval x = .slice (some ⟨w2.heap.size, 0, none⟩) 1 1) (hp : PgL wd base v xs) (hbel : Below wd.heap.size wd w2) (hc : l.length ≤ c) (hs2 : w2.heap.size = wd.heap.size + 1)
    (hrd : Reads w2 w2.heap.size 1 (some ⟨wd.heap.size, 0, none⟩) l.length (BV l)) (hn : xs.length ≤ 1048576) (hb : base ≤ wd.heap.size)
    (h : ∀ v' w', PgL w' base v' (xs ++ [l]) → Below base wd w' → wpList Try.prog ops Q rest (a.put o.dst v') w') : wpList Try.prog ops Q (o :: rest) a (w2.alloc (.cells #[.slice (some ⟨wd.heap.size, 0, none⟩) l.length c] 23)) := by
  subst ht
  refine wpList_plain hgd fun _ hK => ?_
  obtain ⟨v', w', hrun, h2, h3⟩ := append_lineL wd w2 base v xs l c hp hbel hc hs2 hrd hn hb
  unfold Oper.wp execOp
  simp only [ho, hot, resolve, invoke, builtin, Sem.run_bind, Sem.run_pure, Result.andThen_ok, List.map_toArray, List.map_cons, List.map_nil, hs, hx, hrun]
  exact hK _ _ (h v' w' h2 h3)
set_option maxHeartbeats 2000000 in
set_option maxRecDepth 100000 in
theorem refDecode_any (A : Option Addr) (n c : Nat) (l : List UInt8) (w : World) (hr : Reads w w.heap.size 1 A n (BV l)) (hm : n ≤ 1048576) (hnc : n ≤ c) :
    Calls Try.prog 12 #[.slice A n c] w fun e w' => ∃ A' m c', e = .returned (.tuple #[.slice A' m c', .int .i64 ((decP l).2.1 : Nat), .int .i64 (decP l).2.2]) ∧ Pg w' w'.heap.size A' m (decP l).1 ∧ Below w.heap.size w w' := by
  have hnl := reads_bytes_len hr
  have C := hide (refGetStrings_any A n c l w hr hm hnc)
  have hsm := decP_small l
  have her := @decP_err l
  rw [show Wr.decList 1 Wr.decB l = decP l from rfl] at C
  obtain ⟨R, hR⟩ : ∃ R, R = decP l := ⟨_, rfl⟩
  rw [← hR] at C hsm her ⊢
  obtain ⟨xs, us, er⟩ := R
  simp only at C hsm her ⊢
  rw [← hnl] at hsm
  obtain ⟨hx1, hx2, hx3⟩ := hsm
  have HX2 := hide hx2
  clear hR hr hnl hx2
  by_cases h0 : er = 0
  · subst h0
    obtain ⟨m, hm0⟩ : ∃ m, m = xs.length := ⟨_, rfl⟩
    have HM := hide hm0
    rw [← hm0] at C hx1
    have hmi : (m : Int) ≤ 1048576 := by omega
    clear hm0 her hx3
    go_enter Try.func12, Try.ntmps12
    go_upto_region 4 with (go_at_call 20; refine (unhide C).mono ?_; rintro e w1 ⟨v, rfl, hown, hb⟩; have HB1 := hide hb; have HO1 := hide hown; clear hown hb)
    obtain ⟨A1, c1, rfl, hc1, hA1⟩ := own_slice HO1.out
    have HRS := hide (Reads.of_own HO1.out)
    have hP0 := hide (PgL.nil w1 w1.heap.size)
    have HREF := hide (Below.refl w1.heap.size w1)
    have hws := HB1.out.size
    clear hA1 hc1 C
    go_wp2
    go_loopw [9, 8] (fun s9 s8 wr => ∃ i : Nat, i ≤ m ∧ s9 = .int .i64 (i : Int) ∧ PgL wr w1.heap.size s8 (xs.take i) ∧ Below w1.heap.size w1 wr) (fun s9 _ _ => m - (intOf s9).toNat)
    case atStart => exact ⟨0, by omega, rfl, by rw [List.take_zero]; exact hP0.out, HREF.out⟩
    case round =>
      obtain ⟨i, hi, rfl, hpg, hbel⟩ := hrel
      obtain ⟨wd, rfl⟩ : ∃ wd, wd = wr := ⟨wr, rfl⟩
      have HB := hide hbel
      have HPG := hide hpg
      have hds := hbel.size
      by_cases hlt : i < m
      · have hkl : i < xs.length := by rw [← HM.out]; exact hlt
        obtain ⟨ad, hA, hab, hcs⟩ := HRS.out.2 (by omega)
        subst hA
        have hc0 : w1.cell? (ad.add i) = some (.string (S xs[i])) := hcs i _ (by rw [List.getElem?_map, List.getElem?_eq_getElem hkl]; rfl)
        have hc : wd.cell? (ad.add i) = some (.string (S xs[i])) := by rw [hbel.cell (by rw [block_of_add]; exact hab)]; exact hc0
        have hi0 : (0 : Int) ≤ (i : Int) := by omega
        have hi1 : (i : Int) < (m : Int) := by omega
        have HLT := hide hlt
        have hxl : (xs.take i).length ≤ 1048576 := by rw [List.length_take]; omega
        obtain ⟨c', w2, hcv, hlc, hrd, hb2, hs2⟩ := conv_bytesX xs[i] wd
        have HLC := hide hlc
        have HRD := hide hrd
        have HB2 := hide hb2
        have HS2 := hide hs2
        have HNX := hide (List.take_succ_eq_append_getElem hkl)
        generalize xs[i] = x at *
        clear hc0 hcs hpg hbel hlt hlc hrd hb2 hs2
        clear hkl
        go_wp2_with (at_builtin; refine wpList_append_lineL wd w2 rfl (.tmp 25) (.tmp 31) 25 rfl rfl rfl w1.heap.size _ (xs.take i) x c' rfl rfl HPG.out HB2.out HLC.out HS2.out HRD.out hxl hds ?_; intro v3 w3 hpg3 hb3; have HP3 := hide hpg3; have HB3 := hide (HB.out.trans hb3); clear hpg3 hb3)
        exact ⟨⟨i + 1, HLT.out, by go_num, by rw [HNX.out]; exact HP3.out, HB3.out⟩, by have := HLT.out; simp [intOf]; omega⟩
      · obtain rfl : i = m := by omega
        have hnt : ¬ ((i : Int) < (i : Int)) := by omega
        have htk : xs.take i = xs := List.take_of_length_le (by have := HM.out; omega)
        rw [htk] at hpg
        obtain ⟨A', c', hv, hc', hq⟩ := hpg.pg
        subst hv
        have HPQ := hide hq
        have HEND := hide (HB1.out.trans (hbel.mono hws))
        rw [← HM.out] at HPQ ⊢
        clear hpg hbel hlt htk hq HPG hc'
        go_wp2
        exact bodyPost_ret (v := .tuple #[.slice A' i c', .int .i64 (us : Nat), .int .i64 0]) (by simp [results, Try.results12, go_sem]) rfl ⟨A', i, ⟨c', rfl⟩, HPQ.out, HEND.out⟩
  · obtain ⟨h1, h2⟩ := her h0
    subst h1
    subst h2
    have hne : (er != 0) = true := by rw [bne_iff_ne]; exact h0
    have HN0 := hide h0
    clear her h0
    go_enter Try.func12, Try.ntmps12
    go_wp2_with (go_at_call 20; refine (unhide C).mono ?_; rintro e w1 ⟨v, rfl, hown, hb⟩; have HB1 := hide hb; clear hown hb)
    exact bodyPost_ret (v := .tuple #[.slice none 0 0, .int .i64 0, .int .i64 er]) (by simp [results, Try.results12, go_sem]) rfl ⟨none, 0, 0, rfl, Pg.nil _ _, HB1.out⟩
end Go.Proofs.Ytdjmfjmijpfijaa
