/-
  Running text: Short of the reference, runs and long of the law, by contract. (Written by tools/gen_txe.py.)
-/
import Derived.Test.YtbcfndhnopmbbaaTxD
namespace Go.Proofs.Ytbcfndhnopmbbaa
open Go.RowKit
set_option linter.unusedVariables false
set_option linter.unusedSimpArgs false
theorem SC_takeT (l : Tb.Text) (a : Nat) : (SC l).take (a * 2) = SC (l.take a) := by
  induction a generalizing l with
  | zero => simp [SC]
  | succ a ih =>
    cases l with
    | nil => simp [SC]
    | cons x l =>
      show (syC x ++ SC l).take ((a + 1) * 2) = syC x ++ SC (l.take a)
      rw [show (a + 1) * 2 = (syC x).length + a * 2 by show _ = 2 + a * 2; omega, List.take_length_add_append, ih]
set_option maxHeartbeats 1000000 in
theorem rawT_any (A : Option Addr) (n c : Nat) (w : World) (hc : n ≤ c) (hc2 : c ≤ maxLen) : Calls Try.prog 21 #[.slice A n c] w fun e w' => e = .returned (.slice A (min n 40) c) ∧ w = w' := by
  have hm : maxLen = 9223372036854775807 := rfl
  by_cases h : n ≤ 40
  · have e : min n 40 = n := Nat.min_eq_left h
    rw [e]
    have h1 : (n : Int) ≤ 40 := by omega
    have hci : (n : Int) ≤ (c : Int) := by omega
    clear hm
    go_enter Try.func21, Try.ntmps21
    go_wp2
    all_goals go_ret
    all_goals first
      | exact ⟨rfl, rfl⟩
      | (obtain rfl : n = 40 := by omega
         exact ⟨rfl, rfl⟩)
  · have e : min n 40 = 40 := Nat.min_eq_right (by omega)
    rw [e]
    have h1 : ¬ (n : Int) ≤ 40 := by omega
    have h2 : (40 : Int) < (n : Int) := by omega
    have hci : (40 : Int) ≤ (c : Int) := by omega
    clear hm
    go_enter Try.func21, Try.ntmps21
    go_wp2
    all_goals go_ret
    all_goals exact ⟨rfl, rfl⟩
/-- the first characters of a text, however long it is -/
theorem text_rawT {w : World} {A : Option Addr} {l : Tb.Text} (h : Reads w w.heap.size 2 A l.length (SC l)) : TextAt w w.heap.size A (l.take 40) ∧ (l.take 40).length = min l.length 40 := by
  have hl : (l.take 40).length = min l.length 40 := by rw [List.length_take, Nat.min_comm]
  refine ⟨⟨⟨by rw [SC_len], fun hn => ?_⟩, by omega⟩, hl⟩
  obtain ⟨ad, e, hb, hc⟩ := h.2 (by omega)
  refine ⟨ad, e, hb, fun j u hu => hc j u ?_⟩
  rw [← SC_takeT] at hu
  have hj : j < 40 * 2 := by
    have h := (List.getElem?_eq_some_iff.1 hu).1
    rw [List.length_take] at h
    omega
  rw [List.getElem?_take_of_lt hj] at hu
  exact hu
theorem S_takeT (l : List UInt8) (k : Nat) : (S l).extract 0 k = S (l.take k) := by
  apply ByteArray.ext
  unfold S
  simp
set_option maxHeartbeats 400000 in
set_option maxRecDepth 100000 in
theorem shortT_any (s : List UInt8) (w : World) :
    Calls Try.prog 43 #[.string (S s), .int .i64 30] w fun e w' => e = .returned (.string (S (s.take 30))) ∧ w = w' := by
  have hsz : (S s).size = s.length := rfl
  by_cases h : 30 < s.length
  · have h1 : (30 : Int) < (((S s).size : Nat) : Int) := by rw [hsz]; omega
    have h2 : (30 : Int) ≤ (((S s).size : Nat) : Int) := by rw [hsz]; omega
    have ht := S_takeT s 30
    clear h
    go_enter Try.func43, Try.ntmps43
    go_wp2
    go_ret
    exact ⟨rfl, rfl⟩
  · have h1 : ¬ (30 : Int) < (((S s).size : Nat) : Int) := by rw [hsz]; omega
    have HT := hide (show s.take 30 = s from List.take_of_length_le (by omega))
    clear h
    go_enter Try.func43, Try.ntmps43
    go_wp2
    go_ret
    exact ⟨by rw [HT.out]; rfl, rfl⟩
/-- pieces of running text, whichever -/
def gRn : World → Value → Prop := fun W v => ∃ A c l, v = .slice A l.length c ∧ RunsAt W W.heap.size A l
theorem stab_rn : Stab gRn := fun _ _ _ hb ⟨A, c, l, h1, h2⟩ => ⟨A, c, l, h1, h2.same hb⟩
/-- two pieces in a new row -/
def gTwo (b0 : Nat) (s1 s2 : ByteArray) : World → Value → Prop := fun W v => ∃ g, v = .slice (some ⟨g, 0, none⟩) 2 2 ∧ b0 ≤ g ∧ Blk W g 91 #[.int .i64 0, .string s1, .int .i64 1, .string s2]
theorem stab_two (b0 : Nat) (s1 s2 : ByteArray) : Stab (gTwo b0 s1 s2) := fun _ _ _ hb ⟨g, h1, h2, h3⟩ => ⟨g, h1, h2, h3.below hb h3.lt⟩
def ksRl (base : Nat) (ad : Addr) (n c i : Nat) (la : Int) (sv s2 : ByteArray) (b0 : Nat) (y3 : Value) (rs : List Tb.Run) (r : Tb.Run) : List (World → Value → Prop) := [gIs (y3), gIs (.slice (some ad) n c), gIs (.int .i64 (i : Int)), gIs (.pointer (some (ad.add (i * 2)))), gIs (.pointer (some (ad.add (i * 2)))), gIs (.int .i64 la), gIs (.slice (some ad) n c), gIs (.int .i64 (i : Int)), gIs (.pointer (some (ad.add (i * 2)))), gIs (.pointer (some ⟨(ad.add (i * 2)).block, (ad.add (i * 2)).off + 1, none⟩)), gIs (.string sv), gIs (.string s2), gIs (.agg #[.int .i64 la, .string s2]), gOne b0 91 [.int .i64 la, .string s2], (fun W v => W.ownsRow base 91 2 v (rs ++ [r]).length (RNC (rs ++ [r])))]
theorem ksRl_n (base : Nat) (ad : Addr) (n c i : Nat) (la : Int) (sv s2 : ByteArray) (b0 : Nat) (y3 : Value) (rs : List Tb.Run) (r : Tb.Run) : ∀ j, j ≠ 14 → StabN b0 ((ksRl base ad n c i la sv s2 b0 y3 rs r).getD j gAny)
  | 0, _ => stabn_is _ _
  | 1, _ => stabn_is _ _
  | 2, _ => stabn_is _ _
  | 3, _ => stabn_is _ _
  | 4, _ => stabn_is _ _
  | 5, _ => stabn_is _ _
  | 6, _ => stabn_is _ _
  | 7, _ => stabn_is _ _
  | 8, _ => stabn_is _ _
  | 9, _ => stabn_is _ _
  | 10, _ => stabn_is _ _
  | 11, _ => stabn_is _ _
  | 12, _ => stabn_is _ _
  | 13, _ => stabn_one _ _ _
  | 14, h => absurd rfl h
  | _ + 15, _ => stabn_any _
theorem ksRl_b (base : Nat) (ad : Addr) (n c i : Nat) (la : Int) (sv s2 : ByteArray) (b0 : Nat) (y3 : Value) (rs : List Tb.Run) (r : Tb.Run) (j : Nat) : Stab ((ksRl base ad n c i la sv s2 b0 y3 rs r).getD j gAny) := by
  by_cases h : j = 14
  · subst h
    exact fun W W' v hb h1 => own_below h1 hb
  · exact (ksRl_n base ad n c i la sv s2 b0 y3 rs r j h).stab
def ksLo (g i b0 : Nat) (s1 s2 : ByteArray) : List (World → Value → Prop) := [gIs (.slice (some ⟨g, 0, none⟩) i i), gIs (.slice (some ⟨g, 0, none⟩) 1000 i), gIs (.string s1), gIs (.agg #[.int .i64 0, .string s1]), gIs (.slice (some ⟨g, 0, none⟩) i i), gIs (.slice (some ⟨g, 1000, none⟩) (i - 1000) (i - 1000)), gIs (.string s2), gIs (.agg #[.int .i64 1, .string s2]), gTwo b0 s1 s2]
theorem ksLo_b (g i b0 : Nat) (s1 s2 : ByteArray) : ∀ j, Stab ((ksLo g i b0 s1 s2).getD j gAny)
  | 0 => stab_is _
  | 1 => stab_is _
  | 2 => stab_is _
  | 3 => stab_is _
  | 4 => stab_is _
  | 5 => stab_is _
  | 6 => stab_is _
  | 7 => stab_is _
  | 8 => stab_two _ _ _
  | _ + 9 => stab_any
set_option maxHeartbeats 8000000 in
set_option maxRecDepth 100000 in
theorem runsL_any (A : Option Addr) (c : Nat) (l : List Tb.Run) (w : World) (hr : Reads w w.heap.size 2 A l.length (RNC l)) :
    Calls Try.prog 13 #[.slice A l.length c] w fun e w' => ∃ v', e = .returned v' ∧ gRn w' v' ∧ Below w.heap.size w w' := by
  have HR := hide hr
  have HW := hide (Below.refl w.heap.size w)
  obtain ⟨n, hn⟩ : ∃ n, n = l.length := ⟨_, rfl⟩
  have HN := hide hn
  rw [← hn]
  clear hr hn
  go_enter Try.func13, Try.ntmps13
  go_wp2
  go_loopw [3, 4] (fun s3 s wr => ∃ (i : Nat) (rs : List Tb.Run) (y3 : Value), i ≤ 8 ∧ i ≤ n ∧ s = .int .i64 (i : Int) ∧ y3 = s3 ∧ wr.ownsRow w.heap.size 91 2 y3 rs.length (RNC rs) ∧ (rs.length ≤ i ∧ (Tb.flat rs).length ≤ 30 * i) ∧ Below w.heap.size w wr) (fun _ s _ => 8 - (intOf s).toNat)
  case atStart => exact ⟨0, [], _, by omega, by omega, rfl, rfl, own_nil _ _ _ _, ⟨Nat.le_refl _, by simp [Tb.flat]⟩, HW.out⟩
  case round =>
    obtain ⟨i, rs, y3, hi8, hi, rfl, rfl, hown, hrl, hbel⟩ := hrel
    obtain ⟨wd, rfl⟩ : ∃ wd, wd = wr := ⟨wr, rfl⟩
    have HOU := hide hown
    have HUW := hide hbel
    have hi0 : (0 : Int) ≤ (i : Int) := by omega
    have HRL := hide (show rs.length ≤ 99999 by omega)
    by_cases hgo : i < n ∧ i < 8
    · obtain ⟨hin, hi88⟩ := hgo
      have hini : (i : Int) < (n : Int) := by omega
      have hi8i : (i : Int) < 8 := by omega
      obtain ⟨ad, rfl, hadb, hc0, hc1⟩ := reads_run HR.out i (by rw [← HN.out]; exact hin)
      obtain ⟨la, hla⟩ : ∃ la, la = (l[i]'(by rw [← HN.out]; exact hin)).1 := ⟨_, rfl⟩
      obtain ⟨tx, htx⟩ : ∃ tx, tx = (l[i]'(by rw [← HN.out]; exact hin)).2 := ⟨_, rfl⟩
      rw [← hla] at hc0
      rw [← htx] at hc1
      have CSH := hide (fun W => shortT_any tx W)
      obtain ⟨sv, hsv⟩ : ∃ sv, sv = S tx := ⟨_, rfl⟩
      rw [← hsv] at hc1 CSH
      obtain ⟨r, hrr⟩ : ∃ r : Tb.Run, r = (la, tx.take 30) := ⟨_, rfl⟩
      obtain ⟨s2, hs2⟩ : ∃ s2, s2 = S (tx.take 30) := ⟨_, rfl⟩
      have HRC := hide (show [Value.int .i64 r.1, .string (S r.2)].toArray = [Value.int .i64 la, .string s2].toArray by rw [hrr, hs2])
      rw [← hs2] at CSH
      have HLD := hide (fun (W : World) (hb : Below w.heap.size w W) => (show W.cell? (ad.add (i * 2)) = some (.int .i64 la) ∧ W.cell? ⟨(ad.add (i * 2)).block, (ad.add (i * 2)).off + 1, none⟩ = some (.string sv) from
        ⟨by rw [hb.cell (by rw [block_of_add]; exact hadb)]; exact hc0, by rw [hb.cell (by show (ad.add (i * 2)).block < _; rw [block_of_add]; exact hadb)]; exact hc1⟩))
      have HRF := hide (show (rs ++ [r]).length ≤ i + 1 ∧ (Tb.flat (rs ++ [r])).length ≤ 30 * (i + 1) from by
        rw [List.length_append, Tb.flat_append, List.length_append, Tb.flat_one, List.length_map, hrr, List.length_take]
        exact ⟨by simp; omega, by omega⟩)
      have HI9 := hide (show i + 1 ≤ n ∧ i < 8 from ⟨by omega, hi88⟩)
      clear hown hbel hc0 hc1 hla htx hsv hs2 hrr hin hadb hrl
      go_upto_region 5 with fail
      obtain ⟨U, rfl⟩ : ∃ U, U = wd := ⟨wd, rfl⟩
      obtain ⟨b0, hb0⟩ : ∃ b0, b0 = U.heap.size := ⟨_, rfl⟩
      refine wp_region_threeT 14 15 [some 15, some 16, some 17, some 18, some 19, some 20, some 21, some 22, some 23, some 24, some 25, some 26, some 27, some 28, some 29] (gAll (ksRl w.heap.size ad n c i la sv s2 b0 y3 rs r))
        (fun b W => (b = false → Below U.heap.size U W) ∧ Below w.heap.size w W ∧ U.grownBy W y3.ownBlock ∧ b0 ≤ W.heap.size) (by decide) (by kernel_rfl) (by kernel_rfl) (by kernel_rfl) (by rfl) (by decide) (by rfl) ⟨fun _ => (Below.refl _ _).drew, HUW.out.drew, only_drew (World.grownBy.refl _ _), by rw [hb0]; exact Nat.le_refl _⟩ ?_ ?_ ?_
      · intro j hj hjm b A x W hC hd hr
        have stay : ∀ W', Below W.heap.size W W' → (b = false → Below U.heap.size U W') ∧ Below w.heap.size w W' ∧ U.grownBy W' y3.ownBlock ∧ b0 ≤ W'.heap.size := fun W' hb => ⟨fun h => (hC.1 h).trans (hb.mono (hC.1 h).size), hC.2.1.trans (hb.mono hC.2.1.size), grown_below hC.2.2.1 hb, Nat.le_trans hC.2.2.2 hb.size⟩
        have KSB : ∀ k' u {W'}, Below W.heap.size W W' → gAll (ksRl w.heap.size ad n c i la sv s2 b0 y3 rs r) k' u W → gAll (ksRl w.heap.size ad n c i la sv s2 b0 y3 rs r) k' u W' := fun k' u W' hb h => ksRl_b w.heap.size ad n c i la sv s2 b0 y3 rs r k' W W' u hb h
        have KSN : ∀ k', k' ≠ 14 → ∀ u {W' row}, W.grownBy W' row → (∀ g, row = some g → g < b0) → gAll (ksRl w.heap.size ad n c i la sv s2 b0 y3 rs r) k' u W → gAll (ksRl w.heap.size ad n c i la sv s2 b0 y3 rs r) k' u W' := fun k' hk u W' row hg hr h => ksRl_n w.heap.size ad n c i la sv s2 b0 y3 rs r k' hk W W' row u hg hr h
        have hj' : j = 0 ∨ j = 1 ∨ j = 2 ∨ j = 3 ∨ j = 4 ∨ j = 5 ∨ j = 6 ∨ j = 7 ∨ j = 8 ∨ j = 9 ∨ j = 10 ∨ j = 11 ∨ j = 12 ∨ j = 13 := by omega
        rcases hj' with rfl | rfl | rfl | rfl | rfl | rfl | rfl | rfl | rfl | rfl | rfl | rfl | rfl | rfl
        · have e3 : A.tmps[3]?.getD undef = y3 := hr 3 (by decide)
          refine wpOp_step rfl (fun K' hK => ?_)
          go_simp
          exact hK _ _ ⟨_, rfl, rfl, fun _ _ _ h => h, hC⟩
        · have e0 : A.tmps[0]?.getD undef = .slice (some ad) n c := hr 0 (by decide)
          refine wpOp_step rfl (fun K' hK => ?_)
          go_simp
          exact hK _ _ ⟨_, rfl, rfl, fun _ _ _ h => h, hC⟩
        · have e4 : A.tmps[4]?.getD undef = .int .i64 (i : Int) := hr 4 (by decide)
          refine wpOp_step rfl (fun K' hK => ?_)
          go_simp
          exact hK _ _ ⟨_, rfl, rfl, fun _ _ _ h => h, hC⟩
        · have d1 : A.tmps[16]?.getD undef = .slice (some ad) n c := ((hd 1 (by decide)).1 16 rfl).trans (hd 1 (by decide)).2
          have d2 : A.tmps[17]?.getD undef = .int .i64 (i : Int) := ((hd 2 (by decide)).1 17 rfl).trans (hd 2 (by decide)).2
          refine wpOp_step rfl (fun K' hK => ?_)
          go_simp
          exact hK _ _ ⟨_, rfl, rfl, fun _ _ _ h => h, hC⟩
        · have d3 : A.tmps[18]?.getD undef = .pointer (some (ad.add (i * 2))) := ((hd 3 (by decide)).1 18 rfl).trans (hd 3 (by decide)).2
          refine wpOp_step rfl (fun K' hK => ?_)
          go_simp
          exact hK _ _ ⟨_, rfl, rfl, fun _ _ _ h => h, hC⟩
        · have d4 : A.tmps[19]?.getD undef = .pointer (some (ad.add (i * 2))) := ((hd 4 (by decide)).1 19 rfl).trans (hd 4 (by decide)).2
          refine wpOp_step rfl (fun K' hK => ?_)
          have s0 : W.cell? (ad.add (i * 2)) = some (.int .i64 la) := (HLD.out W hC.2.1).1
          go_simp
          exact hK _ _ ⟨_, rfl, rfl, fun _ _ _ h => h, hC⟩
        · have e0 : A.tmps[0]?.getD undef = .slice (some ad) n c := hr 0 (by decide)
          refine wpOp_step rfl (fun K' hK => ?_)
          go_simp
          exact hK _ _ ⟨_, rfl, rfl, fun _ _ _ h => h, hC⟩
        · have e4 : A.tmps[4]?.getD undef = .int .i64 (i : Int) := hr 4 (by decide)
          refine wpOp_step rfl (fun K' hK => ?_)
          go_simp
          exact hK _ _ ⟨_, rfl, rfl, fun _ _ _ h => h, hC⟩
        · have d6 : A.tmps[21]?.getD undef = .slice (some ad) n c := ((hd 6 (by decide)).1 21 rfl).trans (hd 6 (by decide)).2
          have d7 : A.tmps[22]?.getD undef = .int .i64 (i : Int) := ((hd 7 (by decide)).1 22 rfl).trans (hd 7 (by decide)).2
          refine wpOp_step rfl (fun K' hK => ?_)
          go_simp
          exact hK _ _ ⟨_, rfl, rfl, fun _ _ _ h => h, hC⟩
        · have d8 : A.tmps[23]?.getD undef = .pointer (some (ad.add (i * 2))) := ((hd 8 (by decide)).1 23 rfl).trans (hd 8 (by decide)).2
          refine wpOp_step rfl (fun K' hK => ?_)
          go_simp
          exact hK _ _ ⟨_, rfl, rfl, fun _ _ _ h => h, hC⟩
        · have d9 : A.tmps[24]?.getD undef = .pointer (some ⟨(ad.add (i * 2)).block, (ad.add (i * 2)).off + 1, none⟩) := ((hd 9 (by decide)).1 24 rfl).trans (hd 9 (by decide)).2
          refine wpOp_step rfl (fun K' hK => ?_)
          have s1 : W.cell? ⟨(ad.add (i * 2)).block, (ad.add (i * 2)).off + 1, none⟩ = some (.string sv) := (HLD.out W hC.2.1).2
          go_simp
          exact hK _ _ ⟨_, rfl, rfl, fun _ _ _ h => h, hC⟩
        · have d10 : A.tmps[25]?.getD undef = .string sv := ((hd 10 (by decide)).1 25 rfl).trans (hd 10 (by decide)).2
          refine wpOp_step rfl (fun K' hK => ?_)
          go_simp
          go_at_call 43
          refine (unhide CSH W).mono ?_
          rintro e W' ⟨rfl, rfl⟩
          exact hK _ _ ⟨_, rfl, rfl, fun _ _ _ h => h, hC⟩
        · have d5 : A.tmps[20]?.getD undef = .int .i64 la := ((hd 5 (by decide)).1 20 rfl).trans (hd 5 (by decide)).2
          have d11 : A.tmps[26]?.getD undef = .string s2 := ((hd 11 (by decide)).1 26 rfl).trans (hd 11 (by decide)).2
          refine wpOp_step rfl (fun K' hK => ?_)
          go_simp
          exact hK _ _ ⟨_, rfl, rfl, fun _ _ _ h => h, hC⟩
        · have d12 : A.tmps[27]?.getD undef = .agg #[.int .i64 la, .string s2] := ((hd 12 (by decide)).1 27 rfl).trans (hd 12 (by decide)).2
          refine wpOp_step rfl (fun K' hK => ?_)
          go_simp
          exact hK _ _ ⟨_, rfl, ⟨W.heap.size, rfl, hC.2.2.2, Blk.new W _ _⟩, fun k' _ u h => KSB k' u (below_alloc W _) h, stay _ (below_alloc W _)⟩
      · intro A x W hC hd hr
        have stay : ∀ W', Below W.heap.size W W' → (false = false → Below U.heap.size U W') ∧ Below w.heap.size w W' ∧ U.grownBy W' y3.ownBlock ∧ b0 ≤ W'.heap.size := fun W' hb => ⟨fun h => (hC.1 h).trans (hb.mono (hC.1 h).size), hC.2.1.trans (hb.mono hC.2.1.size), grown_below hC.2.2.1 hb, Nat.le_trans hC.2.2.2 hb.size⟩
        have KSB : ∀ k' u {W'}, Below W.heap.size W W' → gAll (ksRl w.heap.size ad n c i la sv s2 b0 y3 rs r) k' u W → gAll (ksRl w.heap.size ad n c i la sv s2 b0 y3 rs r) k' u W' := fun k' u W' hb h => ksRl_b w.heap.size ad n c i la sv s2 b0 y3 rs r k' W W' u hb h
        have KSN : ∀ k', k' ≠ 14 → ∀ u {W' row}, W.grownBy W' row → (∀ g, row = some g → g < b0) → gAll (ksRl w.heap.size ad n c i la sv s2 b0 y3 rs r) k' u W → gAll (ksRl w.heap.size ad n c i la sv s2 b0 y3 rs r) k' u W' := fun k' hk u W' row hg hr h => ksRl_n w.heap.size ad n c i la sv s2 b0 y3 rs r k' hk W W' row u hg hr h
        obtain ⟨g, hx, hg0, hgb⟩ : gOne b0 91 [.int .i64 la, .string s2] W (x 13) := (hd 13 (by decide)).2
        have dr : A.tmps[28]?.getD undef = .slice (some ⟨g, 0, none⟩) 1 1 := ((hd 13 (by decide)).1 28 rfl).trans hx
        have dy : A.tmps[15]?.getD undef = y3 := ((hd 0 (by decide)).1 15 rfl).trans (hd 0 (by decide)).2
        have hbw := hC.1 rfl
        obtain ⟨v', W', hrun, hown', hgrow', hat'⟩ := runs_push W w.heap.size g y3 rs r (own_below HOU.out hbw) (by have h9 := HRC.out; rw [← h9] at hgb; exact hgb) hC.2.1.size (by have := HRL.out; omega) 36
        refine wpOp_step rfl (fun K' hK => ?_)
        refine step_run_append (by rfl) (.tmp 15) (.tmp 28) 36 rfl y3 (.slice (some ⟨g, 0, none⟩) 1 1) (by show A.tmps.getD 15 undef = _; simpa using dy) (by show A.tmps.getD 28 undef = _; simpa using dr) v' W' hrun ?_
        refine hK _ _ ⟨v', rfl, hown', fun k' hk' u h => KSN k' hk' u hgrow' (fun g' hg' => by rw [hb0]; exact (HOU.out.lt g' hg').2) h, ⟨fun h => (by cases h), hC.2.1.grown hgrow' hC.2.1.size (fun g' hg' => (HOU.out.lt g' hg').1), grown_tr hC.2.2.1 hgrow', Nat.le_trans hC.2.2.2 hgrow'.size⟩⟩
      · intro x W hC hR
        have hown' : W.ownsRow w.heap.size 91 2 (x 14) (rs ++ [r]).length (RNC (rs ++ [r])) := hR 14 (by decide)
        have HO9 := hide hown'
        have HB9 := hide hC.2.1
        clear hown' hC hR
        refine wpOp_step rfl (fun K' hK => ?_)
        simp only [putL, Act.put, Nat.zero_add, Nat.reduceAdd, List.setIfInBounds_toArray, List.set_cons_succ, List.set_cons_zero]
        generalize x 0 = z0
        generalize x 1 = z1
        generalize x 2 = z2
        generalize x 3 = z3
        generalize x 4 = z4
        generalize x 5 = z5
        generalize x 6 = z6
        generalize x 7 = z7
        generalize x 8 = z8
        generalize x 9 = z9
        generalize x 10 = z10
        generalize x 11 = z11
        generalize x 12 = z12
        generalize x 13 = z13
        generalize x 14 = x14 at *
        go_simp
        refine hK _ _ ?_
        clear hK K'
        go_wp2
        have hi9 := HI9.out
        exact ⟨⟨i + 1, rs ++ [r], x14, by omega, hi9.1, by go_num, rfl, HO9.out, HRF.out, HB9.out⟩, by simp [intOf]; omega⟩
    · obtain ⟨A9, c9, hv9, hc9, hr9⟩ := runs_of_own hown (by omega) (by omega)
      subst hv9
      have HR9 := hide hr9
      clear hown hbel hr9 hc9
      by_cases hin : i < n
      · have hini : (i : Int) < (n : Int) := by omega
        have hi8i : ¬ (i : Int) < 8 := by omega
        have hi8d : decide ((i : Int) < 8) = false := decide_eq_false hi8i
        go_wp2
        go_ret
        exact ⟨_, rfl, ⟨A9, c9, rs, rfl, HR9.out⟩, HUW.out⟩
      · have hini : ¬ (i : Int) < (n : Int) := by omega
        have hind : decide ((i : Int) < (n : Int)) = false := decide_eq_false hini
        go_wp2
        go_ret
        exact ⟨_, rfl, ⟨A9, c9, rs, rfl, HR9.out⟩, HUW.out⟩
theorem BV_set (l : List UInt8) (i : Nat) (u : UInt8) : (BV l).toArray.setIfInBounds i (.int .u8 (u.toNat : Int)) = (BV (l.set i u)).toArray := by
  unfold BV
  rw [List.setIfInBounds_toArray, List.map_set]
theorem made_u8T (n : Nat) : madeCells #[Value.int .u8 0] n = (BV (List.replicate n 0)).toArray := by
  apply Array.toList_inj.1
  rw [toList_madeCells_one]
  simp [BV]
theorem two_runs (W : World) (g : Nat) (t1 t2 : List UInt8) (h : Blk W g 91 #[.int .i64 0, .string (S t1), .int .i64 1, .string (S t2)]) (hl : t1.length + t2.length ≤ 100000) : gRn W (.slice (some ⟨g, 0, none⟩) 2 2) := by
  refine ⟨some ⟨g, 0, none⟩, 2, [(0, t1), (1, t2)], rfl, ⟨rfl, fun _ => ⟨_, rfl, h.lt, fun j u hu => ?_⟩⟩, by simp, by simp [Tb.flat]; omega⟩
  have h2 := Blk.cell h j
  rw [show ((⟨g, 0, none⟩ : Addr).add j) = ⟨g, j, none⟩ by unfold Addr.add; split <;> simp_all, h2, ← hu, List.getElem?_toArray]
  rfl
theorem reads_bytesAt (W : World) (g a : Nat) (l : List UInt8) (h : Blk W g 5 (BV l).toArray) : Reads W W.heap.size 1 (some ⟨g, a, none⟩) (l.length - a) (BV (l.drop a)) := by
  refine ⟨by rw [BV_len, List.length_drop]; omega, fun hn => ⟨_, rfl, h.lt, fun j u hu => ?_⟩⟩
  have h2 := Blk.cell h (a + j)
  rw [show ((⟨g, a, none⟩ : Addr).add j) = ⟨g, a + j, none⟩ by unfold Addr.add; split <;> simp_all, h2, List.getElem?_toArray, ← hu]
  unfold BV
  rw [List.getElem?_map, List.getElem?_map, List.getElem?_drop]
set_option maxHeartbeats 4000000 in
set_option maxRecDepth 100000 in
theorem long_any (x : Int) (w : World) (hx : Wr.inI x) :
    Calls Try.prog 16 #[.int .i64 x] w fun e w' => ∃ v', e = .returned v' ∧ gRn w' v' ∧ Below w.heap.size w w' := by
  have CA := hide (fun W => (show Calls Try.prog 30 #[.int .i64 x, .int .i64 5] W fun e w' => e = .returned (.int .i64 ((Ce.around x 5 : Nat) : Int)) ∧ W = w' from around_any x 5 W hx (by omega) (by omega)))
  have ha5 := Ce.around_lt x 5 (by omega)
  generalize Ce.around x 5 = a at *
  obtain ⟨q, hq⟩ : ∃ q, q = 2046 + a := ⟨_, rfl⟩
  have hmk : ∀ W', (Instr.makeSlice 26 (.int .i64 (2046 + (a : Int))) (.int .i64 (2046 + (a : Int)))).run Try.prog W' = .ok (.slice (some ⟨W'.heap.size, 0, none⟩) q q) (W'.alloc (.cells (BV (List.replicate q 0)).toArray 5)) := fun W' => by
    rw [show 2046 + (a : Int) = (q : Int) by omega, ← made_u8T]
    exact run_make_row' 26 5 (.int .u8 0) 1 Try.underlying26 byteInfo rfl .i64 .i64 q (by omega) (by omega) W'
  have hq0 : 2046 ≤ q := by omega
  have hq1 : q ≤ 2060 := by omega
  have hai : (a : Int) < 5 := by omega
  have hai0 : (0 : Int) ≤ (a : Int) := by omega
  clear hq
  go_enter Try.func16, Try.ntmps16
  go_upto_region 2 with (go_at_call 30; refine (unhide CA _).mono ?_; rintro e w1 ⟨rfl, rfl⟩)
  refine name_world fun V hV => ?_
  have V3 := hide (show Blk V w.heap.size 5 (BV (List.replicate q 0)).toArray by rw [← hV.out]; exact Blk.new w _ _)
  have HV := hide (show Below w.heap.size w V by rw [← hV.out]; exact below_alloc w _)
  obtain ⟨g, hg⟩ : ∃ g, g = w.heap.size := ⟨_, rfl⟩
  rw [← hg] at V3 ⊢
  have hgw : w.heap.size ≤ g := by omega
  clear hV hmk CA hai hai0 hg
  have hqi0 : (1000 : Int) ≤ (q : Int) := by omega
  have hqi1 : (q : Int) ≤ 2060 := by omega
  go_wp2
  go_loopw [4] (fun s wr => ∃ (i : Nat) (l : List UInt8), i ≤ q ∧ s = .int .i64 (i : Int) ∧ l.length = q ∧ Hid (Blk wr g 5 (BV l).toArray) ∧ Below w.heap.size w wr) (fun s _ => q - (intOf s).toNat)
  case atStart => exact ⟨0, _, by omega, rfl, by simp, V3, HV.out⟩
  case round =>
    obtain ⟨i, l, hi, rfl, hl, HG, hbel⟩ := hrel
    obtain ⟨wd, rfl⟩ : ∃ wd, wd = wr := ⟨wr, rfl⟩
    have HB := hide hbel
    have hi0 : (0 : Int) ≤ (i : Int) := by omega
    clear hbel
    by_cases hin : i < q
    · have hini : (i : Int) < (q : Int) := by omega
      have hfz := HG.out.frozen i
      have hil : i < l.length := by omega
      have hcl : wd.cell? ⟨g, i, none⟩ = some (.int .u8 ((l[i].toNat : Nat) : Int)) := by
        rw [HG.out.cell i, List.getElem?_toArray]
        unfold BV
        rw [List.getElem?_map, List.getElem?_eq_getElem hil]
        rfl
      have HG2 := hide (show Blk (wd.setCell ⟨g, i, none⟩ (.int .u8 97)) g 5 (BV (l.set i 97)).toArray by
        have h9 := HG.out.set_ i (.int .u8 97)
        have e9 := BV_set l i 97
        rw [← e9]
        exact h9)
      have HB2 := hide (show Below w.heap.size w (wd.setCell ⟨g, i, none⟩ (.int .u8 97)) from HB.out.setCell hgw _)
      have HI := hide hin
      generalize l[i].toNat = cc at *
      clear hin hil
      go_wp2
      have hi9 := HI.out
      exact ⟨⟨i + 1, l.set i 97, hi9, by go_num, by rw [List.length_set]; exact hl, HG2, HB2.out⟩, by simp [intOf]; omega⟩
    · obtain rfl : i = q := by omega
      have hnt : ¬ ((i : Int) < (i : Int)) := by omega
      obtain ⟨t1, ht1⟩ : ∃ t1, t1 = l.take 1000 := ⟨_, rfl⟩
      obtain ⟨t2, ht2⟩ : ∃ t2, t2 = l.drop 1000 := ⟨_, rfl⟩
      obtain ⟨s1, hs1⟩ : ∃ s1, s1 = S t1 := ⟨_, rfl⟩
      obtain ⟨s2, hs2⟩ : ∃ s2, s2 = S t2 := ⟨_, rfl⟩
      have HW3 := HB
      have HFIN := hide (fun (W : World) (h : Nat) (hb : Blk W h 91 #[.int .i64 0, .string s1, .int .i64 1, .string s2]) => (show gRn W (.slice (some ⟨h, 0, none⟩) 2 2) from two_runs W h t1 t2 (by rw [← hs1, ← hs2]; exact hb) (by rw [ht1, ht2, List.length_take, List.length_drop]; omega)))
      obtain ⟨U, rfl⟩ : ∃ U, U = wd := ⟨wd, rfl⟩
      have HCV1 := hide (fun (W : World) (hb : Below U.heap.size U W) => (show (convert 26 9 (.slice (some ⟨g, 0, none⟩) 1000 i)).run Try.prog W = .ok (.string s1) W from by
        have h9 := reads_bytes W g l (HG.out.below hb HG.out.lt)
        have h8 := reads_cells h9 1000
        rw [hs1, ht1]
        refine run_conv_reads (P := Try.prog) (B := W.heap.size) (n := 1000) (l := l.take 1000) ⟨by rw [BV_len, List.length_take]; omega, fun hn => ?_⟩ _ _ _ _ Try.underlying26 Try.underlying5 Try.underlying9
        exact ⟨_, rfl, (HG.out.below hb HG.out.lt).lt, h8⟩))
      have HCV2 := hide (fun (W : World) (hb : Below U.heap.size U W) => (show (convert 26 9 (.slice (some ⟨g, 1000, none⟩) (i - 1000) (i - 1000))).run Try.prog W = .ok (.string s2) W from by
        have h9 := reads_bytesAt W g 1000 l (HG.out.below hb HG.out.lt)
        rw [hl] at h9
        rw [hs2, ht2]
        exact run_conv_reads (P := Try.prog) h9 _ _ _ _ Try.underlying26 Try.underlying5 Try.underlying9))
      clear hin ht1 ht2 hs1 hs2
      have hsub : (i : Int) - 1000 = ((i - 1000 : Nat) : Int) := by omega
      have hne0 : ¬ i - 1000 = 0 := by omega
      have hne1 : ¬ i = 1000 := by omega
      go_upto_region 6 with fail
      obtain ⟨b0, hb0⟩ : ∃ b0, b0 = U.heap.size := ⟨_, rfl⟩
      refine wp_region_threeT 0 9 [some 18, some 19, some 20, some 21, some 22, some 23, some 24, some 25, some 26] (gAll (ksLo g i b0 s1 s2))
        (fun _ W => Below U.heap.size U W ∧ b0 ≤ W.heap.size) (by decide) (by kernel_rfl) (by kernel_rfl) (by kernel_rfl) (by rfl) (by decide) (by rfl) ⟨(Below.refl _ _).drew, by rw [hb0]; exact Nat.le_refl _⟩ ?_ ?_ ?_
      · intro j hj hjm b A x W hC hd hr
        have stay : ∀ W', Below W.heap.size W W' → Below U.heap.size U W' ∧ b0 ≤ W'.heap.size := fun W' hb => ⟨hC.1.trans (hb.mono hC.1.size), Nat.le_trans hC.2 hb.size⟩
        have KSB : ∀ k' u {W'}, Below W.heap.size W W' → gAll (ksLo g i b0 s1 s2) k' u W → gAll (ksLo g i b0 s1 s2) k' u W' := fun k' u W' hb h => ksLo_b g i b0 s1 s2 k' W W' u hb h
        have hj' : j = 1 ∨ j = 2 ∨ j = 3 ∨ j = 4 ∨ j = 5 ∨ j = 6 ∨ j = 7 ∨ j = 8 := by omega
        rcases hj' with rfl | rfl | rfl | rfl | rfl | rfl | rfl | rfl
        · have d0 : A.tmps[18]?.getD undef = .slice (some ⟨g, 0, none⟩) i i := ((hd 0 (by decide)).1 18 rfl).trans (hd 0 (by decide)).2
          refine wpOp_step rfl (fun K' hK => ?_)
          go_simp
          exact hK _ _ ⟨_, rfl, rfl, fun _ _ _ h => h, hC⟩
        · have d1 : A.tmps[19]?.getD undef = .slice (some ⟨g, 0, none⟩) 1000 i := ((hd 1 (by decide)).1 19 rfl).trans (hd 1 (by decide)).2
          refine wpOp_step rfl (fun K' hK => ?_)
          have hcv := HCV1.out W hC.1
          go_simp
          exact hK _ _ ⟨_, rfl, rfl, fun _ _ _ h => h, hC⟩
        · have d2 : A.tmps[20]?.getD undef = .string s1 := ((hd 2 (by decide)).1 20 rfl).trans (hd 2 (by decide)).2
          refine wpOp_step rfl (fun K' hK => ?_)
          go_simp
          exact hK _ _ ⟨_, rfl, rfl, fun _ _ _ h => h, hC⟩
        · have e3 : A.tmps[3]?.getD undef = .slice (some ⟨g, 0, none⟩) i i := hr 3 (by decide)
          refine wpOp_step rfl (fun K' hK => ?_)
          go_simp
          exact hK _ _ ⟨_, rfl, rfl, fun _ _ _ h => h, hC⟩
        · have d4 : A.tmps[22]?.getD undef = .slice (some ⟨g, 0, none⟩) i i := ((hd 4 (by decide)).1 22 rfl).trans (hd 4 (by decide)).2
          refine wpOp_step rfl (fun K' hK => ?_)
          go_simp
          exact hK _ _ ⟨_, rfl, rfl, fun _ _ _ h => h, hC⟩
        · have d5 : A.tmps[23]?.getD undef = .slice (some ⟨g, 1000, none⟩) (i - 1000) (i - 1000) := ((hd 5 (by decide)).1 23 rfl).trans (hd 5 (by decide)).2
          refine wpOp_step rfl (fun K' hK => ?_)
          have hcv := HCV2.out W hC.1
          go_simp
          exact hK _ _ ⟨_, rfl, rfl, fun _ _ _ h => h, hC⟩
        · have d6 : A.tmps[24]?.getD undef = .string s2 := ((hd 6 (by decide)).1 24 rfl).trans (hd 6 (by decide)).2
          refine wpOp_step rfl (fun K' hK => ?_)
          go_simp
          exact hK _ _ ⟨_, rfl, rfl, fun _ _ _ h => h, hC⟩
        · have d3 : A.tmps[21]?.getD undef = .agg #[.int .i64 0, .string s1] := ((hd 3 (by decide)).1 21 rfl).trans (hd 3 (by decide)).2
          have d7 : A.tmps[25]?.getD undef = .agg #[.int .i64 1, .string s2] := ((hd 7 (by decide)).1 25 rfl).trans (hd 7 (by decide)).2
          refine wpOp_step rfl (fun K' hK => ?_)
          go_simp
          exact hK _ _ ⟨_, rfl, ⟨W.heap.size, rfl, hC.2, Blk.new W _ _⟩, fun k' _ u h => KSB k' u (below_alloc W _) h, stay _ (below_alloc W _)⟩
      · intro A x W hC hd hr
        have stay : ∀ W', Below W.heap.size W W' → Below U.heap.size U W' ∧ b0 ≤ W'.heap.size := fun W' hb => ⟨hC.1.trans (hb.mono hC.1.size), Nat.le_trans hC.2 hb.size⟩
        have KSB : ∀ k' u {W'}, Below W.heap.size W W' → gAll (ksLo g i b0 s1 s2) k' u W → gAll (ksLo g i b0 s1 s2) k' u W' := fun k' u W' hb h => ksLo_b g i b0 s1 s2 k' W W' u hb h
        have e3 : A.tmps[3]?.getD undef = .slice (some ⟨g, 0, none⟩) i i := hr 3 (by decide)
        refine wpOp_step rfl (fun K' hK => ?_)
        go_simp
        exact hK _ _ ⟨_, rfl, rfl, fun _ _ _ h => h, hC⟩
      · intro x W hC hR
        obtain ⟨h, hx, hh0, hhb⟩ : gTwo b0 s1 s2 W (x 8) := hR 8 (by decide)
        have HB9 := hide hC.1
        refine wpOp_step rfl (fun K' hK => ?_)
        simp only [putL, Act.put, Nat.zero_add, Nat.reduceAdd, List.setIfInBounds_toArray, List.set_cons_succ, List.set_cons_zero]
        rw [hx]
        have HHB := hide hhb
        clear hhb hC hR
        generalize x 0 = z0
        generalize x 1 = z1
        generalize x 2 = z2
        generalize x 3 = z3
        generalize x 4 = z4
        generalize x 5 = z5
        generalize x 6 = z6
        generalize x 7 = z7
        go_simp
        refine hK _ _ ?_
        clear hK K'
        go_wp2
        go_ret
        exact ⟨_, rfl, HFIN.out W h HHB.out, HW3.out.trans (HB9.out.mono HW3.out.size)⟩
end Go.Proofs.Ytbcfndhnopmbbaa
