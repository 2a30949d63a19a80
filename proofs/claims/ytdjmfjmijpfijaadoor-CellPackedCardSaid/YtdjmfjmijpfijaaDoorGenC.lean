/-
  Cells: the reference's numbers drawn from lists, and its Raster, by contract.
-/
import Derived.Test.YtdjmfjmijpfijaaDoorTxtsLaw
namespace Go.Proofs.YtdjmfjmijpfijaaDoor
open Go.RowKit
set_option linter.unusedVariables false
set_option linter.unusedSimpArgs false
namespace Ce
def around (x : Int) (m : Nat) : Nat := (if x < 0 then -(x + 1) else x).toNat % m
theorem around_lt (x : Int) (m : Nat) (h : 0 < m) : around x m < m := Nat.mod_lt _ h
def atN (xs : List Int) (i m : Nat) : Nat := if h : i < xs.length then around xs[i] m else 0
theorem atN_lt (xs : List Int) (i m : Nat) (h : 0 < m) : atN xs i m < m := by
  unfold atN
  split
  · exact around_lt _ _ h
  · exact h
def genBit (xs : List Int) (i : Nat) : Bool := decide (atN xs (2 + i % 37) 1000 / (1 + i / 37) % 2 = 1)
def genRast (xs : List Int) : Rast := ⟨atN xs 0 15, atN xs 1 14, (List.range (atN xs 0 15 * atN xs 1 14)).map (genBit xs)⟩
end Ce
set_option maxHeartbeats 400000 in
set_option maxRecDepth 100000 in
theorem around_any (x : Int) (m : Nat) (w : World) (hx : Wr.inI x) (hm : 0 < m) (hm2 : m ≤ 1099511627776) :
    Calls Tryd.prog 6 #[.int .i64 x, .int .i64 (m : Int)] w fun e w' => e = .returned (.int .i64 ((Ce.around x m : Nat) : Int)) ∧ w = w' := by
  unfold Wr.inI at hx
  have h1 : ¬ ((m : Int) < 1) := by omega
  have hm0 : (0 : Int) ≤ (m : Int) := by omega
  have hmn : ¬ ((m : Int) = 0) := by omega
  by_cases hneg : x < 0
  · have hw1 : wrap64 (x + 1) = x + 1 := by unfold wrap64; omega
    have hw2 : wrap64 (-(x + 1)) = -(x + 1) := by unfold wrap64; omega
    have hp : (0 : Int) ≤ -(x + 1) := by omega
    have HF := hide (show ((Ce.around x m : Nat) : Int) = (-(x + 1)) % (m : Int) by
      unfold Ce.around
      rw [if_pos hneg, Int.natCast_emod]
      congr 1
      omega)
    have hx9 : -9223372036854775808 ≤ x := hx.1
    clear hx
    go_enter Tryd.func6, Tryd.ntmps6
    go_wp2
    go_ret
    exact ⟨by rw [HF.out]; show Ending.returned (Value.int IntKind.i64 (-((x + 1).tmod (m : Int)))) = _; rw [← Int.neg_tmod, Int.tmod_eq_emod_of_nonneg hp], rfl⟩
  · have hp : (0 : Int) ≤ x := by omega
    have HF := hide (show ((Ce.around x m : Nat) : Int) = x % (m : Int) by
      unfold Ce.around
      rw [if_neg hneg, Int.natCast_emod]
      congr 1
      omega)
    clear hx
    go_enter Tryd.func6, Tryd.ntmps6
    go_wp2
    go_ret
    exact ⟨by rw [HF.out]; first | rfl | simp, rfl⟩
set_option maxHeartbeats 400000 in
set_option maxRecDepth 100000 in
theorem at_any (A : Option Addr) (n c : Nat) (xs : List Int) (i m : Nat) (w : World) (hr : Reads w w.heap.size 1 A n (xs.map (Value.int .i64))) (hx : ∀ x ∈ xs, Wr.inI x) (hi : i ≤ 1099511627776) (hm : 0 < m) (hm2 : m ≤ 1099511627776) :
    Calls Tryd.prog 18 #[.slice A n c, .int .i64 (i : Int), .int .i64 (m : Int)] w fun e w' => e = .returned (.int .i64 ((Ce.atN xs i m : Nat) : Int)) ∧ w = w' := by
  have hn := reads_ints_len hr
  have hi0 : ¬ ((i : Int) < 0) := by omega
  by_cases h : i < n
  · obtain ⟨ad, rfl, hil, hc⟩ := reads_int hr i h
    have CA := hide (fun W => around_any xs[i] m W (hx _ (List.getElem_mem hil)) hm hm2)
    have HF := hide (show Ce.atN xs i m = Ce.around xs[i] m by unfold Ce.atN; rw [dif_pos hil])
    generalize xs[i] = x at *
    have h0 : (0 : Int) ≤ (i : Int) := by omega
    have h1 : (i : Int) < (n : Int) := by omega
    clear hr hx hm hm2 h hil hn
    go_enter Tryd.func18, Tryd.ntmps18
    go_wp2_with (go_at_call 6; refine (CA.out _).mono ?_; rintro e w1 ⟨rfl, rfl⟩)
    go_ret
    exact ⟨by rw [HF.out]; rfl, rfl⟩
  · have HF := hide (show Ce.atN xs i m = 0 by unfold Ce.atN; rw [dif_neg (by omega)])
    have h1 : ¬ ((i : Int) < (n : Int)) := by omega
    have h2 : (n : Int) ≤ (i : Int) := by omega
    clear hr hx hm hm2 h hn
    go_enter Tryd.func18, Tryd.ntmps18
    go_wp2
    go_ret
    exact ⟨by rw [HF.out]; rfl, rfl⟩

theorem results_cell0 {P : Program} {fn : Func} {p : Tmp} {ty : TypeId} (h : fn.results = #[.cell p ty]) (tmps : Array Value) (w : World) (a : Addr) (v : Value)
    (hp : tmps.getD p undef = .pointer (some a)) (hl : (loadVar ty a).run P w = .ok v w) : (results fn tmps).run P w = .ok v w := by
  have hp' : tmps[p]?.getD undef = .pointer (some a) := by simpa using hp
  simp [results, h, hp', asAddr, hl]
theorem own_setFar {w : World} {b e size n : Nat} {v : Value} {xs : List Value} (h : w.ownsRow b e size v n xs) {p : Addr} (hp : p.block < b) (u : Value) : (w.setCell p u).ownsRow b e size v n xs := by
  refine ⟨h.1, ?_⟩
  rcases h.2 with h1 | ⟨g, cap, cur, h1, h2, h3, h4⟩
  · exact .inl h1
  · exact .inr ⟨g, cap, cur, h1, h2, (Below.heap_setCell w p u g (by omega)).trans h3, h4⟩
theorem own_rowFar {w w' : World} {b e size n g : Nat} {v : Value} {xs : List Value} {cs : Array Value} (h : w.ownsRow b e size v n xs) (hp : g < b) (hw : Hid (w.setRow g cs = w')) : w'.ownsRow b e size v n xs := by
  rw [← hw.out]
  refine ⟨h.1, ?_⟩
  rcases h.2 with h1 | ⟨g', cap, cur, h1, h2, h3, h4⟩
  · exact .inl h1
  · exact .inr ⟨g', cap, cur, h1, h2, (setRow_other w g g' cs (by omega)).trans h3, h4⟩
theorem own_lt {w : World} {b e size n g : Nat} {v : Value} {xs : List Value} (h : w.ownsRow b e size v n xs) (hg : g < b) : v.ownBlock ≠ some g := by
  rcases h.2 with ⟨h1, _⟩ | ⟨g', cap, cur, h1, h2, _⟩
  · rw [h1]; simp [Value.ownBlock]
  · rw [h1]
    intro e
    have : g' = g := by simpa [Value.ownBlock] using e
    omega
theorem append_bool (W : World) (base n : Nat) (v : Value) (l : List Bool) (b : Bool) (hown : W.ownsRow base 4 1 v n (l.map Value.bool)) (A : Addr) (hr : Reads W W.heap.size 1 (some A) 1 [.bool b]) (hn : n ≤ 1099511627776) (hb : base ≤ W.heap.size) :
    ∃ v' w', (Builtin.append_ #[35, 35] 35 #[v, .slice (some A) 1 1]).run Tryd.prog W = .ok v' w' ∧ w'.ownsRow base 4 1 v' (n + 1) ((l ++ [b]).map Value.bool) ∧ W.grownBy w' v.ownBlock ∧ (v'.ownBlock = v.ownBlock ∨ v'.ownBlock = some W.heap.size) := by
  obtain ⟨i0, hi, hz0, hz1, hz2⟩ := info_parts boolInfo
  obtain ⟨v', w', h1, h2, h3, h4⟩ := run_append_any (P := Tryd.prog) W base 35 35 4 i0 (.bool false) 1 1 Tryd.underlying35 hi hz0 hz1 hz2 rfl (by omega) v n _ hown W.heap.size (some A) 1 1 [.bool b] hr (by simp [Value.oneCell']) (by unfold maxLen; omega) (by omega) hb
  exact ⟨v', w', h1, by rw [List.map_append]; exact h2, h3, h4⟩

/-- what append of bits answers, and the world behind it -/
noncomputable def apRes (W : World) (v x : Value) : Value × World := match (Builtin.append_ #[35, 35] 35 #[v, x]).run Tryd.prog W with
  | .ok a b => (a, b)
  | _ => (undef, W)
def apOk (W : World) (v x : Value) : Prop := (Builtin.append_ #[35, 35] 35 #[v, x]).run Tryd.prog W = .ok (apRes W v x).1 (apRes W v x).2
theorem apRes_of {W W' : World} {v x v' : Value} (h : (Builtin.append_ #[35, 35] 35 #[v, x]).run Tryd.prog W = .ok v' W') : apRes W v x = (v', W') := by
  unfold apRes
  rw [h]
theorem apOk_of {W W' : World} {v x v' : Value} (h : (Builtin.append_ #[35, 35] 35 #[v, x]).run Tryd.prog W = .ok v' W') : apOk W v x := by
  unfold apOk
  rw [apRes_of h, h]
theorem wp_append_bool (o : Oper) (d : Option Tmp) (s x : Operand) (a : Act) (w : World) (K : Act → World → Prop) (Q : Exit → Act → World → Prop) (h0 : o.op = .call { callee := .builtin .append, args := #[s, x], argTypes := #[35, 35] }) (h1 : o.type = 35) (h2 : o.dst = d) (h : apOk w (a.eval s) (a.eval x)) :
    Oper.wp Tryd.prog o a w K Q = K (a.put d (apRes w (a.eval s) (a.eval x)).1) (apRes w (a.eval s) (a.eval x)).2 := by
  unfold apOk at h
  unfold Oper.wp execOp
  simp only [h0, h1, resolve, invoke, builtin, Sem.run_bind, Sem.run_pure, Result.andThen_ok, List.map_toArray, List.map_cons, List.map_nil, h]
  rw [← h2]
  rfl
theorem wp_append_20 (o : Oper) (a : Act) (w : World) (K : Act → World → Prop) (Q : Exit → Act → World → Prop) (h0 : o.op = .call { callee := .builtin .append, args := #[.tmp 20, .tmp 32], argTypes := #[35, 35] }) (h1 : o.type = 35) (h2 : o.dst = some 33) (h : apOk w (a.eval (.tmp 20)) (a.eval (.tmp 32))) :
    Oper.wp Tryd.prog o a w K Q = K (a.put (some 33) (apRes w (a.eval (.tmp 20)) (a.eval (.tmp 32))).1) (apRes w (a.eval (.tmp 20)) (a.eval (.tmp 32))).2 := wp_append_bool o _ _ _ a w K Q h0 h1 h2 h
attribute [local go_sem ↓] wp_append_20
set_option maxHeartbeats 2000000 in
set_option maxRecDepth 100000 in
theorem raster_any (A : Option Addr) (n c : Nat) (xs : List Int) (w : World) (hr : Reads w w.heap.size 1 A n (xs.map (Value.int .i64))) (hx : ∀ x ∈ xs, Wr.inI x) :
    Calls Tryd.prog 14 #[.slice A n c] w fun e w' => ∃ v, e = .returned v ∧ RastAt w' v (Ce.genRast xs) ∧ Below w.heap.size w w' := by
  have CA := hide (fun (W : World) (i m : Nat) (hb : Below w.heap.size w W) (hi : i ≤ 1099511627776) (hm : 0 < m) (hm2 : m ≤ 1099511627776) => at_any A n c xs i m W ((hr.below hb).more hb.size) hx hi hm hm2)
  have hW := Ce.atN_lt xs 0 15 (by omega)
  have hH := Ce.atN_lt xs 1 14 (by omega)
  have HG := hide (show Ce.genRast xs = ⟨Ce.atN xs 0 15, Ce.atN xs 1 14, (List.range (Ce.atN xs 0 15 * Ce.atN xs 1 14)).map (Ce.genBit xs)⟩ from rfl)
  have CA0 := hide (fun W hb => (show Calls Tryd.prog 18 #[.slice A n c, .int .i64 0, .int .i64 15] W fun e w' => e = .returned (.int .i64 ((Ce.atN xs 0 15 : Nat) : Int)) ∧ W = w' from unhide CA W 0 15 hb (by omega) (by omega) (by omega)))
  have CA1 := hide (fun W hb => (show Calls Tryd.prog 18 #[.slice A n c, .int .i64 1, .int .i64 14] W fun e w' => e = .returned (.int .i64 ((Ce.atN xs 1 14 : Nat) : Int)) ∧ W = w' from unhide CA W 1 14 hb (by omega) (by omega) (by omega)))
  generalize Ce.atN xs 0 15 = W at *
  generalize Ce.atN xs 1 14 = H at *
  obtain ⟨N, hN⟩ : ∃ N, N = W * H := ⟨_, rfl⟩
  have hN2 : N ≤ 182 := by rw [hN]; exact Nat.mul_le_mul (show W ≤ 14 by omega) (show H ≤ 13 by omega)
  have hmul : (W : Int) * (H : Int) = (N : Int) := by rw [hN]; exact (Int.natCast_mul _ _).symm
  have hm1 : IntKind.i64.wrap ((W : Int) * (H : Int)) = (N : Int) := by rw [hmul, IntWalk.i64_in _ (by omega)]
  have hm2 : wrap64 ((W : Int) * (H : Int)) = (N : Int) := by rw [hmul]; exact wrap64_in (by omega) (by omega)
  have hN2i : (N : Int) ≤ 182 := by omega
  have HN := hide hN
  clear hr hx hN hmul hW hH
  go_enter Tryd.func14, Tryd.ntmps14
  go_upto_region 1 with fail
  refine name_world fun V hV => ?_
  have HRB := hide (show Blk V w.heap.size 37 #[.int .i64 0, .int .i64 0, .slice none 0 0] by rw [← hV.out]; exact Blk.new w _ _)
  have HV := hide (show Below w.heap.size w V by rw [← hV.out]; exact below_alloc w _)
  have hgx := HRB.out.lt
  clear hV
  go_upto_region 2 with (first
    | (go_at_call_of 18 (Value.int .i64 15); refine (unhide CA0 _ HV.out).mono ?_; rintro e w1 ⟨rfl, rfl⟩)
    | (go_at_call_of 18 (Value.int .i64 14); refine (unhide CA1 _ HV.out).mono ?_; rintro e w1 ⟨rfl, rfl⟩))
  refine name_world fun X hX => ?_
  have HX0 := hide (show Blk X V.heap.size 37 #[.int .i64 (W : Int), .int .i64 (H : Int), .slice none 0 0] by rw [← hX.out]; exact Blk.new V _ _)
  have HXB := hide (show Below V.heap.size V X by rw [← hX.out]; exact below_alloc V _)
  have HRX := hide (HRB.out.below HXB.out hgx)
  have HWX := hide (HV.out.trans (HXB.out.mono (Nat.le_of_lt hgx)))
  have hxl := HX0.out.lt
  clear hX
  generalize V.heap.size = g3 at *
  have HXX := hide (Below.refl g3 X)
  go_wp2
  go_loopw [4] (fun s4 wr => ∃ i : Nat, ∃ v : Value, i ≤ N ∧ s4 = .int .i64 (i : Int) ∧ Blk wr g3 37 #[.int .i64 (W : Int), .int .i64 (H : Int), v] ∧ wr.ownsRow (g3 + 1) 4 1 v i (((List.range i).map (Ce.genBit xs)).map Value.bool) ∧ Below g3 X wr) (fun s4 _ => N - (intOf s4).toNat)
  case atStart => exact ⟨0, .slice none 0 0, by omega, rfl, HX0.out, World.ownsRow_nil _ _ _ _, HXX.out⟩
  case round =>
    obtain ⟨i, v, hi, rfl, hblk, hown, hbel⟩ := hrel
    obtain ⟨wd, rfl⟩ : ∃ wd, wd = wr := ⟨wr, rfl⟩
    have hc0 : wd.cell? ⟨g3, 0, none⟩ = some (.int .i64 (W : Int)) := hblk.cell 0
    have hc1 : wd.cell? ⟨g3, 1, none⟩ = some (.int .i64 (H : Int)) := hblk.cell 1
    have hc2 : wd.cell? ⟨g3, 2, none⟩ = some v := hblk.cell 2
    by_cases hlt : i < N
    · have hi0 : (0 : Int) ≤ (i : Int) := by omega
      have hi1 : (i : Int) < (N : Int) := by omega
      have HLT := hide hlt
      obtain ⟨i37, h37⟩ : ∃ i37, i37 = i % 37 := ⟨_, rfl⟩
      obtain ⟨q37, hq37⟩ : ∃ q37, q37 = i / 37 := ⟨_, rfl⟩
      obtain ⟨a, ha⟩ : ∃ a, a = Ce.atN xs (2 + i37) 1000 := ⟨_, rfl⟩
      have haw : a < 1000 := by rw [ha]; exact Ce.atN_lt _ _ _ (by omega)
      obtain ⟨q, hq⟩ : ∃ q, q = a / (1 + q37) := ⟨_, rfl⟩
      have hqa : q ≤ a := by rw [hq]; exact Nat.div_le_self _ _
      obtain ⟨r, hr⟩ : ∃ r, r = q % 2 := ⟨_, rfl⟩
      obtain ⟨b, hb⟩ : ∃ b, b = Ce.genBit xs i := ⟨_, rfl⟩
      have hbr : b = decide (r = 1) := by rw [hb, hr, hq, ha, h37, hq37]; rfl
      have h1 : Int.tmod (i : Int) 37 = (i37 : Int) := by rw [Int.tmod_eq_emod_of_nonneg (by omega)]; omega
      have h2 : IntKind.i64.wrap (2 + (i37 : Int)) = 2 + (i37 : Int) := by rw [IntWalk.i64_in _ (by omega)]
      have h3 : Int.tdiv (i : Int) 37 = (q37 : Int) := by rw [Int.tdiv_eq_ediv_of_nonneg (by omega)]; omega
      have h3w : IntKind.i64.wrap (q37 : Int) = (q37 : Int) := wrap_small _ (by omega)
      have h4 : IntKind.i64.wrap (1 + (q37 : Int)) = 1 + (q37 : Int) := by rw [IntWalk.i64_in _ (by omega)]
      have h5 : Int.tdiv (a : Int) (1 + (q37 : Int)) = (q : Int) := by rw [show 1 + (q37 : Int) = ((1 + q37 : Nat) : Int) by omega, Int.tdiv_eq_ediv_of_nonneg (by omega), hq]; exact (Int.natCast_ediv _ _).symm
      have h5w : IntKind.i64.wrap (q : Int) = (q : Int) := wrap_small _ (by omega)
      have h5n : ¬ (1 + (q37 : Int) = 0) := by omega
      have h6 : Int.tmod (q : Int) 2 = (r : Int) := by rw [Int.tmod_eq_emod_of_nonneg (by omega)]; omega
      have h7 : ((r : Int) == 1) = b := by rw [hbr]; by_cases hr1 : r = 1 <;> simp [hr1]; omega
      have hwb := HWX.out.trans (hbel.mono (Nat.le_of_lt hgx))
      have CAI := hide (show Calls Tryd.prog 18 #[.slice A n c, .int .i64 (2 + (i37 : Int)), .int .i64 1000] wd.drew fun e w' => e = .returned (.int .i64 (a : Int)) ∧ wd.drew = w' by
        rw [ha, show 2 + (i37 : Int) = ((2 + i37 : Nat) : Int) by omega]
        exact unhide CA wd.drew (2 + i37) 1000 hwb.drew (by omega) (by omega) (by omega))
      have CAJ := hide (show Calls Tryd.prog 18 #[.slice A n c, .int .i64 (2 + (i37 : Int)), .int .i64 1000] wd fun e w' => e = .returned (.int .i64 (a : Int)) ∧ wd = w' by
        rw [ha, show 2 + (i37 : Int) = ((2 + i37 : Nat) : Int) by omega]
        exact unhide CA wd (2 + i37) 1000 hwb (by omega) (by omega) (by omega))
      have hnx : ((List.range i).map (Ce.genBit xs)) ++ [b] = (List.range (i + 1)).map (Ce.genBit xs) := by rw [List.range_succ, List.map_append, hb]; rfl
      have hwg := hblk.lt
      obtain ⟨v2, w2, hap, hown2, hgrow2, hat2⟩ := append_bool (wd.alloc (.cells #[.bool b] 4)).drew (g3 + 1) i v _ b (hown.alloc _) ⟨wd.heap.size, 0, none⟩ (reads_new wd _ _) (by omega) (by show g3 + 1 ≤ (wd.alloc _).heap.size; simp; omega)
      rw [hnx] at hown2
      obtain ⟨A2, c2, rfl, _, _⟩ := own_slice hown2
      have hok := apOk_of hap
      have hre := apRes_of hap
      clear hap
      have hblk2 := Blk.grown ((hblk.alloc (.cells #[.bool b] 4)).drew) hgrow2 (fun e => own_lt hown (Nat.lt_succ_self g3) e.symm)
      have ha2 : (wd.alloc (.cells #[.bool b] 4)).cell? ⟨g3, 2, none⟩ = some v := (hblk.alloc _).cell 2
      have hw2 : w2.cell? ⟨g3, 2, none⟩ = some v := hblk2.cell 2
      have hf2 := hblk2.frozen 2
      have HB2 := hide (hblk2.set_ 2 (.slice A2 (i + 1) c2))
      have HO2 := hide (own_setFar hown2 (p := ⟨g3, 2, none⟩) (Nat.lt_succ_self g3) (.slice A2 (i + 1) c2))
      have HBE := hide (((((hbel.alloc (Nat.le_of_lt hwg) (.cells #[.bool b] 4)).drew).grown hgrow2 (by show g3 ≤ (wd.alloc _).heap.size; simp; omega) (fun g e => by
        have := own_lt hown (Nat.lt_succ_self g3)
        rcases hown.2 with ⟨h1, _⟩ | ⟨g', cap, cur, h1, h2, _⟩
        · rw [h1] at e; simp [Value.ownBlock] at e
        · rw [h1] at e
          have : g' = g := by simpa [Value.ownBlock] using e
          omega)).setCell (p := ⟨g3, 2, none⟩) (Nat.le_refl _) (.slice A2 (i + 1) c2)))
      clear hblk hown hbel hlt h37 hq37 ha hq hqa hr hb hbr hwb hnx hown2 hgrow2 hat2 hblk2 haw
      go_upto_region 5 with fail
      go_region_with (first
        | (go_at_call 18; (with_reducible refine (unhide CAI).mono ?_); rintro e w1 ⟨rfl, rfl⟩)
        | (go_at_call 18; (with_reducible refine (unhide CAJ).mono ?_); rintro e w1 ⟨rfl, rfl⟩))
      all_goals
        go_wp2
        exact ⟨⟨i + 1, .slice A2 (i + 1) c2, HLT.out, by go_num, HB2.out, HO2.out, HBE.out⟩, by have := HLT.out; simp [intOf]; omega⟩
    · obtain rfl : i = N := by omega
      obtain ⟨A2, c2, rfl, hcc, _⟩ := own_slice hown
      have HRZ := hide (HRX.out.below hbel hgx)
      have HWE := hide (HWX.out.trans (hbel.mono (Nat.le_of_lt hgx)))
      have HEND := hide hown
      clear hblk hown hbel hlt
      go_wp2_with (with_reducible refine wpList_store_rast rfl (.tmp 2) (.tmp 35) rfl w.heap.size _ _ _ (.int .i64 (W : Int)) (.int .i64 (H : Int)) (.slice A2 i c2) rfl rfl HRZ.out (by simp [Value.oneCell']) ?_; intro Z hZ)
      have HZ := hide (below_row HWE.out (Nat.le_refl _) hZ)
      have HOZ := HEND.out
      have HOZ2 := own_rowFar HOZ (Nat.lt_succ_of_lt hgx) hZ
      exact bodyPost_ret (v := .agg #[.int .i64 (W : Int), .int .i64 (H : Int), .slice A2 i c2]) (results_cell0 Tryd.results14 _ _ ⟨w.heap.size, 0, none⟩ _ rfl (load_rast (rast_put HRZ.out hZ))) rfl ⟨_, rfl, by
        rw [HG.out, ← HN.out]
        exact ⟨A2, i, c2, rfl, hcc, Reads.of_own HOZ2⟩, HZ.out⟩
end Go.Proofs.YtdjmfjmijpfijaaDoor
