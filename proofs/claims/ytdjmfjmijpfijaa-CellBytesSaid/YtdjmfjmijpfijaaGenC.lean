/-
  Cells: the reference's numbers drawn from lists, and its Raster, by contract.
-/
import Derived.Test.YtdjmfjmijpfijaaTxtsLaw
namespace Go.Proofs.Ytdjmfjmijpfijaa
open Go.RowKit
set_option linter.unusedVariables false
set_option linter.unusedSimpArgs false
namespace Ce
def around (x : Int) (m : Nat) : Nat := (if x < 0 then -(x + 1) else x).toNat % m
theorem around_lt (x : Int) (m : Nat) (h : 0 < m) : around x m < m := Nat.mod_lt _ h
def atN (xs : List Int) (i m : Nat) : Nat := if h : i < xs.length then around xs[i] m else 0
theorem atN_lt (xs : List Int) (i m : Nat) (h : 0 < m) : atN xs i m < m := by
  unfold atN
  split
  · exact around_lt _ _ h
  · exact h
def genBit (xs : List Int) (i : Nat) : Bool := decide (atN xs (2 + i % 37) 1000 / (1 + i / 37) % 2 = 1)
def genRast (xs : List Int) : Rast := ⟨atN xs 0 15, atN xs 1 14, (List.range (atN xs 0 15 * atN xs 1 14)).map (genBit xs)⟩
end Ce
set_option maxHeartbeats 400000 in
set_option maxRecDepth 100000 in
theorem around_any (x : Int) (m : Nat) (w : World) (hx : Wr.inI x) (hm : 0 < m) (hm2 : m ≤ 1099511627776) :
    Calls Try.prog 9 #[.int .i64 x, .int .i64 (m : Int)] w fun e w' => e = .returned (.int .i64 ((Ce.around x m : Nat) : Int)) ∧ w = w' := by
  unfold Wr.inI at hx
  have h1 : ¬ ((m : Int) < 1) := by omega
  have hm0 : (0 : Int) ≤ (m : Int) := by omega
  have hmn : ¬ ((m : Int) = 0) := by omega
  by_cases hneg : x < 0
  · have hw1 : wrap64 (x + 1) = x + 1 := by unfold wrap64; omega
    have hw2 : wrap64 (-(x + 1)) = -(x + 1) := by unfold wrap64; omega
    have hp : (0 : Int) ≤ -(x + 1) := by omega
    have HF := hide (show ((Ce.around x m : Nat) : Int) = (-(x + 1)) % (m : Int) by
      unfold Ce.around
      rw [if_pos hneg, Int.natCast_emod]
      congr 1
      omega)
    have hx9 : -9223372036854775808 ≤ x := hx.1
    clear hx
    go_enter Try.func9, Try.ntmps9
    go_wp2
    go_ret
    exact ⟨by rw [HF.out]; show Ending.returned (Value.int IntKind.i64 (-((x + 1).tmod (m : Int)))) = _; rw [← Int.neg_tmod, Int.tmod_eq_emod_of_nonneg hp], rfl⟩
  · have hp : (0 : Int) ≤ x := by omega
    have HF := hide (show ((Ce.around x m : Nat) : Int) = x % (m : Int) by
      unfold Ce.around
      rw [if_neg hneg, Int.natCast_emod]
      congr 1
      omega)
    clear hx
    go_enter Try.func9, Try.ntmps9
    go_wp2
    go_ret
    exact ⟨by rw [HF.out]; first | rfl | simp, rfl⟩
set_option maxHeartbeats 400000 in
set_option maxRecDepth 100000 in
theorem at_any (A : Option Addr) (n c : Nat) (xs : List Int) (i m : Nat) (w : World) (hr : Reads w w.heap.size 1 A n (xs.map (Value.int .i64))) (hx : ∀ x ∈ xs, Wr.inI x) (hi : i ≤ 1099511627776) (hm : 0 < m) (hm2 : m ≤ 1099511627776) :
    Calls Try.prog 15 #[.slice A n c, .int .i64 (i : Int), .int .i64 (m : Int)] w fun e w' => e = .returned (.int .i64 ((Ce.atN xs i m : Nat) : Int)) ∧ w = w' := by
  have hn := reads_ints_len hr
  have hi0 : ¬ ((i : Int) < 0) := by omega
  by_cases h : i < n
  · obtain ⟨ad, rfl, hil, hc⟩ := reads_int hr i h
    have CA := hide (fun W => around_any xs[i] m W (hx _ (List.getElem_mem hil)) hm hm2)
    have HF := hide (show Ce.atN xs i m = Ce.around xs[i] m by unfold Ce.atN; rw [dif_pos hil])
    generalize xs[i] = x at *
    have h0 : (0 : Int) ≤ (i : Int) := by omega
    have h1 : (i : Int) < (n : Int) := by omega
    clear hr hx hm hm2 h hil hn
    go_enter Try.func15, Try.ntmps15
    go_wp2_with (go_at_call 9; refine (CA.out _).mono ?_; rintro e w1 ⟨rfl, rfl⟩)
    go_ret
    exact ⟨by rw [HF.out]; rfl, rfl⟩
  · have HF := hide (show Ce.atN xs i m = 0 by unfold Ce.atN; rw [dif_neg (by omega)])
    have h1 : ¬ ((i : Int) < (n : Int)) := by omega
    have h2 : (n : Int) ≤ (i : Int) := by omega
    clear hr hx hm hm2 h hn
    go_enter Try.func15, Try.ntmps15
    go_wp2
    go_ret
    exact ⟨by rw [HF.out]; rfl, rfl⟩

theorem results_cell0 {P : Program} {fn : Func} {p : Tmp} {ty : TypeId} (h : fn.results = #[.cell p ty]) (tmps : Array Value) (w : World) (a : Addr) (v : Value)
    (hp : tmps.getD p undef = .pointer (some a)) (hl : (loadVar ty a).run P w = .ok v w) : (results fn tmps).run P w = .ok v w := by
  have hp' : tmps[p]?.getD undef = .pointer (some a) := by simpa using hp
  simp [results, h, hp', asAddr, hl]
theorem own_setFar {w : World} {b e size n : Nat} {v : Value} {xs : List Value} (h : w.ownsRow b e size v n xs) {p : Addr} (hp : p.block < b) (u : Value) : (w.setCell p u).ownsRow b e size v n xs := by
  refine ⟨h.1, ?_⟩
  rcases h.2 with h1 | ⟨g, cap, cur, h1, h2, h3, h4⟩
  · exact .inl h1
  · exact .inr ⟨g, cap, cur, h1, h2, (Below.heap_setCell w p u g (by omega)).trans h3, h4⟩
theorem own_rowFar {w w' : World} {b e size n g : Nat} {v : Value} {xs : List Value} {cs : Array Value} (h : w.ownsRow b e size v n xs) (hp : g < b) (hw : Hid (w.setRow g cs = w')) : w'.ownsRow b e size v n xs := by
  rw [← hw.out]
  refine ⟨h.1, ?_⟩
  rcases h.2 with h1 | ⟨g', cap, cur, h1, h2, h3, h4⟩
  · exact .inl h1
  · exact .inr ⟨g', cap, cur, h1, h2, (setRow_other w g g' cs (by omega)).trans h3, h4⟩
theorem own_lt {w : World} {b e size n g : Nat} {v : Value} {xs : List Value} (h : w.ownsRow b e size v n xs) (hg : g < b) : v.ownBlock ≠ some g := by
  rcases h.2 with ⟨h1, _⟩ | ⟨g', cap, cur, h1, h2, _⟩
  · rw [h1]; simp [Value.ownBlock]
  · rw [h1]
    intro e
    have : g' = g := by simpa [Value.ownBlock] using e
    omega
theorem append_bool (W : World) (base n : Nat) (v : Value) (l : List Bool) (b : Bool) (hown : W.ownsRow base 4 1 v n (l.map Value.bool)) (A : Addr) (hr : Reads W W.heap.size 1 (some A) 1 [.bool b]) (hn : n ≤ 1099511627776) (hb : base ≤ W.heap.size) :
    ∃ v' w', (Builtin.append_ #[49, 49] 49 #[v, .slice (some A) 1 1]).run Try.prog W = .ok v' w' ∧ w'.ownsRow base 4 1 v' (n + 1) ((l ++ [b]).map Value.bool) ∧ W.grownBy w' v.ownBlock ∧ (v'.ownBlock = v.ownBlock ∨ v'.ownBlock = some W.heap.size) := by
  obtain ⟨i0, hi, hz0, hz1, hz2⟩ := info_parts boolInfo
  obtain ⟨v', w', h1, h2, h3, h4⟩ := run_append_any (P := Try.prog) W base 49 49 4 i0 (.bool false) 1 1 Try.underlying49 hi hz0 hz1 hz2 rfl (by omega) v n _ hown W.heap.size (some A) 1 1 [.bool b] hr (by simp [Value.oneCell']) (by unfold maxLen; omega) (by omega) hb
  exact ⟨v', w', h1, by rw [List.map_append]; exact h2, h3, h4⟩

/-- what append of bits answers, and the world behind it -/
noncomputable def apRes (W : World) (v x : Value) : Value × World := match (Builtin.append_ #[49, 49] 49 #[v, x]).run Try.prog W with
  | .ok a b => (a, b)
  | _ => (undef, W)
def apOk (W : World) (v x : Value) : Prop := (Builtin.append_ #[49, 49] 49 #[v, x]).run Try.prog W = .ok (apRes W v x).1 (apRes W v x).2
theorem apRes_of {W W' : World} {v x v' : Value} (h : (Builtin.append_ #[49, 49] 49 #[v, x]).run Try.prog W = .ok v' W') : apRes W v x = (v', W') := by
  unfold apRes
  rw [h]
theorem apOk_of {W W' : World} {v x v' : Value} (h : (Builtin.append_ #[49, 49] 49 #[v, x]).run Try.prog W = .ok v' W') : apOk W v x := by
  unfold apOk
  rw [apRes_of h, h]
theorem wp_append_bool (o : Oper) (d : Option Tmp) (s x : Operand) (a : Act) (w : World) (K : Act → World → Prop) (Q : Exit → Act → World → Prop) (h0 : o.op = .call { callee := .builtin .append, args := #[s, x], argTypes := #[49, 49] }) (h1 : o.type = 49) (h2 : o.dst = d) (h : apOk w (a.eval s) (a.eval x)) :
    Oper.wp Try.prog o a w K Q = K (a.put d (apRes w (a.eval s) (a.eval x)).1) (apRes w (a.eval s) (a.eval x)).2 := by
  unfold apOk at h
  unfold Oper.wp execOp
  simp only [h0, h1, resolve, invoke, builtin, Sem.run_bind, Sem.run_pure, Result.andThen_ok, List.map_toArray, List.map_cons, List.map_nil, h]
  rw [← h2]
  rfl
theorem wp_append_20 (o : Oper) (a : Act) (w : World) (K : Act → World → Prop) (Q : Exit → Act → World → Prop) (h0 : o.op = .call { callee := .builtin .append, args := #[.tmp 20, .tmp 32], argTypes := #[49, 49] }) (h1 : o.type = 49) (h2 : o.dst = some 33) (h : apOk w (a.eval (.tmp 20)) (a.eval (.tmp 32))) :
    Oper.wp Try.prog o a w K Q = K (a.put (some 33) (apRes w (a.eval (.tmp 20)) (a.eval (.tmp 32))).1) (apRes w (a.eval (.tmp 20)) (a.eval (.tmp 32))).2 := wp_append_bool o _ _ _ a w K Q h0 h1 h2 h
attribute [local go_sem ↓] wp_append_20
end Go.Proofs.Ytdjmfjmijpfijaa
