/-
  Cells: pages of the call's own; Dot, Pack of the reference, by contract.
-/
import Derived.Test.YtdjmfjmijpfijaaDoorRefPackC
namespace Go.Proofs.YtdjmfjmijpfijaaDoor
open Go.RowKit
set_option linter.unusedVariables false
set_option linter.unusedSimpArgs false
theorem own_own_ne {w : World} {b1 b2 size1 size2 n1 n2 : Nat} {e1 e2 : TypeId} {v1 v2 : Value} {xs1 xs2 : List Value} (h1 : w.ownsRow b1 e1 size1 v1 n1 xs1) (h2 : w.ownsRow b2 e2 size2 v2 n2 xs2) (hne : e1 ≠ e2) : v1.ownBlock = none ∨ v1.ownBlock ≠ v2.ownBlock := by
  rcases h1.2 with ⟨h, _⟩ | ⟨g1, cap1, cur1, e1', h1a, h1b, _⟩
  · left; rw [h]; rfl
  · right
    rcases h2.2 with ⟨h, _⟩ | ⟨g2, cap2, cur2, e2', h2a, h2b, _⟩
    · rw [e1', h]; simp [Value.ownBlock]
    · rw [e1', e2']
      intro he
      have : g1 = g2 := by simpa [Value.ownBlock] using he
      subst this
      rw [h1b] at h2b
      injection h2b with h2b
      injection h2b with _ ht
      exact hne ht
theorem own_kept {w w' : World} {b e size n : Nat} {v : Value} {xs : List Value} {row : Option Nat} (h : w.ownsRow b e size v n xs) (hg : w.grownBy w' row) (hne : v.ownBlock = none ∨ v.ownBlock ≠ row) : w'.ownsRow b e size v n xs := by
  refine ⟨h.1, ?_⟩
  rcases h.2 with h1 | ⟨g, cap, cur, h1, h2, h3, h4⟩
  · exact .inl h1
  · refine .inr ⟨g, cap, cur, h1, h2, ?_, h4⟩
    have hlt : g < w.heap.size := by
      rcases Nat.lt_or_ge g w.heap.size with hh | hh
      · exact hh
      · rw [Array.getElem?_eq_none hh] at h3; cases h3
    rw [hg.block g hlt (by
      rcases hne with hne | hne
      · rw [h1] at hne; simp [Value.ownBlock] at hne
      · rw [h1] at hne; exact hne)]
    exact h3
theorem own_under {w w' : World} {b e size n : Nat} {v : Value} {xs : List Value} (h : w.ownsRow b e size v n xs) (hb : Below w.heap.size w w') : w'.ownsRow b e size v n xs := own_kept (row := none) h ⟨hb.os, hb.tape, hb.output, hb.size, fun k hk _ => hb.block k hk⟩ (by
  rcases h.2 with ⟨h1, _⟩ | ⟨g, cap, cur, h1, _⟩
  · left; rw [h1]; rfl
  · right; rw [h1]; simp [Value.ownBlock])
/-- a page of the call's own -/
def PgOwn (w : World) (base : Nat) (v : Value) (ls : List (List UInt8)) : Prop :=
  ∃ vs : List Value, w.ownsRow base 27 1 v ls.length vs ∧ ∀ k (h : k < ls.length), ∃ u, vs[k]? = some u ∧ w.ownsRow base 5 1 u ls[k].length (BV ls[k])
section
variable {w w' : World} {base : Nat} {v : Value} {ls : List (List UInt8)}
theorem PgOwn.nil (w : World) (base : Nat) : PgOwn w base (.slice none 0 0) [] := ⟨[], World.ownsRow_nil _ _ _ _, fun k h => absurd h (by simp)⟩
theorem PgOwn.below (h : PgOwn w base v ls) (hb : Below w.heap.size w w') : PgOwn w' base v ls := by
  obtain ⟨vs, h1, h2⟩ := h
  refine ⟨vs, own_under h1 hb, fun k hk => ?_⟩
  obtain ⟨u, h3, h4⟩ := h2 k hk
  exact ⟨u, h3, own_under h4 hb⟩
theorem PgOwn.pg (h : PgOwn w base v ls) : ∃ A c, v = .slice A ls.length c ∧ ls.length ≤ c ∧ Pg w w.heap.size A ls.length ls := by
  obtain ⟨vs, h1, h2⟩ := h
  obtain ⟨A, c, rfl, hc, _⟩ := own_slice h1
  refine ⟨A, c, rfl, hc, vs, Reads.of_own h1, rfl, fun k hk => ?_⟩
  obtain ⟨u, h3, h4⟩ := h2 k hk
  obtain ⟨A', c', rfl, hc', _⟩ := own_slice h4
  exact ⟨A', _, c', h3, hc', Reads.of_own h4⟩
theorem append_line (W : World) (base : Nat) (v : Value) (ls : List (List UInt8)) (l : List UInt8) (u : Value) (hp : PgOwn W base v ls) (hl : W.ownsRow base 5 1 u l.length (BV l)) (A : Addr) (hr : Reads W W.heap.size 1 (some A) 1 [u]) (hn : ls.length ≤ 1048576) (hb : base ≤ W.heap.size) (hu : u.oneCell' = true) :
    ∃ v' w', (Builtin.append_ #[24, 24] 24 #[v, .slice (some A) 1 1]).run Tryd.prog W = .ok v' w' ∧ PgOwn w' base v' (ls ++ [l]) ∧ W.grownBy w' v.ownBlock := by
  obtain ⟨i0, hi, hz0, hz1, hz2⟩ := info_parts lineInfo
  obtain ⟨vs, h1, h2⟩ := hp
  obtain ⟨v', w', h3, h4, h5, h6⟩ := run_append_any (P := Tryd.prog) W base 24 24 27 i0 (.slice none 0 0) 1 24 Tryd.underlying24 hi hz0 hz1 hz2 rfl (by omega) v ls.length _ h1 W.heap.size (some A) 1 1 [u] hr (by simpa using hu) (by unfold maxLen; omega) (by omega) hb
  have hlen : vs.length = ls.length := by have := h1.1; omega
  refine ⟨v', w', h3, ⟨vs ++ [u], by rw [List.length_append]; exact h4, fun k hk => ?_⟩, h5⟩
  by_cases hkl : k < ls.length
  · obtain ⟨q, h7, h8⟩ := h2 k hkl
    refine ⟨q, by rw [List.getElem?_append_left (by omega)]; exact h7, ?_⟩
    have := own_kept h8 h5 (own_own_ne h8 h1 (by decide))
    simpa [List.getElem_append_left hkl] using this
  · have hk0 : k = ls.length := by rw [List.length_append] at hk; simp at hk; omega
    subst hk0
    refine ⟨u, by rw [List.getElem?_append_right (by omega), hlen, Nat.sub_self]; rfl, ?_⟩
    have := own_kept hl h5 (own_own_ne hl h1 (by decide))
    simpa using this
end
namespace Ce
def dotsOf (f : Nat → Bool) (k : Nat) : List Int := ((List.range k).filter f).map fun k : Nat => (k : Int) + 1
theorem dotsOf_on (f : Nat → Bool) (k : Nat) (h : f k = true) : dotsOf f (k + 1) = dotsOf f k ++ [(k : Int) + 1] := by
  unfold dotsOf
  rw [List.range_succ, List.filter_append, List.map_append]
  simp [h]
theorem dotsOf_off (f : Nat → Bool) (k : Nat) (h : f k = false) : dotsOf f (k + 1) = dotsOf f k := by
  unfold dotsOf
  rw [List.range_succ, List.filter_append, List.map_append]
  simp [h]
theorem dotsOf_len (f : Nat → Bool) (k : Nat) : (dotsOf f k).length ≤ k := by
  unfold dotsOf
  rw [List.length_map]
  exact Nat.le_trans (List.length_filter_le _ _) (by simp)
set_option maxRecDepth 100000 in
theorem of_dotsOf (f : Nat → Bool) : of (dotsOf f 6) = (((cellOf f : Nat) : Int), 0) := by
  have key : goodB (dotsOf f 6) = true ∧ sumB (dotsOf f 6) = cellOf f := by
    have hr : dotsOf f 6 = ((if f 0 then [1] else []) ++ (if f 1 then [2] else []) ++ (if f 2 then [3] else []) ++ (if f 3 then [4] else []) ++ (if f 4 then [5] else []) ++ (if f 5 then [6] else []) : List Int) := by
      unfold dotsOf
      rw [show List.range 6 = [0, 1, 2, 3, 4, 5] from rfl]
      simp only [List.filter_cons, List.filter_nil]
      generalize f 0 = b0
      generalize f 1 = b1
      generalize f 2 = b2
      generalize f 3 = b3
      generalize f 4 = b4
      generalize f 5 = b5
      revert b0 b1 b2 b3 b4 b5
      decide +kernel
    rw [hr]
    unfold cellOf
    generalize f 0 = b0
    generalize f 1 = b1
    generalize f 2 = b2
    generalize f 3 = b3
    generalize f 4 = b4
    generalize f 5 = b5
    revert b0 b1 b2 b3 b4 b5
    decide +kernel
  rw [of_goodB key.1, key.2]
end Ce
theorem dot_pure (W H : Nat) (bits : List Bool) (x y : Nat) (hx : x < W) (hy : y < H) (hl : bits.length = W * H) : ∃ p b, p = y * W ∧ p + x < W * H ∧ bits[p + x]? = some b ∧ Ce.bitTo W H bits (W * H) x y = b := by
  have hlt : y * W + x < W * H := by
    have h := Nat.mul_le_mul_right W (show y + 1 ≤ H from hy)
    rw [Nat.add_mul, Nat.one_mul, Nat.mul_comm H W] at h
    exact Nat.lt_of_lt_of_le (Nat.add_lt_add_left hx _) h
  have hll : y * W + x < bits.length := by rw [hl]; exact hlt
  refine ⟨y * W, bits[y * W + x], rfl, hlt, List.getElem?_eq_getElem hll, ?_⟩
  unfold Ce.bitTo
  rw [decide_eq_true hx, decide_eq_true hy, decide_eq_true hlt, Bool.true_and, Bool.true_and, Bool.true_and, List.getD_eq_getElem?_getD, List.getElem?_eq_getElem hll]
  rfl
set_option maxHeartbeats 400000 in
set_option maxRecDepth 100000 in
theorem dot_in (ad : Addr) (n c q : Nat) (W H x y p : Int) (b : Bool) (w : World) (hc : w.cell? (ad.add q) = some (.bool b)) (h1 : 0 ≤ x) (h2 : 0 ≤ y) (h3 : x < W) (h4 : y < H) (h5 : W ≤ 65536) (h6 : H ≤ 65536) (hp : y * W = p) (h7 : p + x = (q : Int)) (h8 : (q : Int) < (n : Int)) (h9 : (n : Int) ≤ 65536) :
    Calls Tryd.prog 17 #[.agg #[.int .i64 W, .int .i64 H, .slice (some ad) n c], .int .i64 x, .int .i64 y] w fun e w' => e = .returned (.bool b) ∧ Below w.heap.size w w' := by
  have a1 : ¬ (x < 0) := by omega
  have a2 : ¬ (y < 0) := by omega
  have a3 : ¬ (W < 0) := by omega
  have a4 : wrap64 (y * W) = p := by rw [hp]; exact wrap64_in (by rw [← hp]; exact Int.mul_nonneg h2 (by omega)) (by omega)
  have a7 : wrap64 p = p := wrap64_in (by rw [← hp]; exact Int.mul_nonneg h2 (by omega)) (by omega)
  have a5 : wrap64 (p + x) = (q : Int) := by rw [h7]; exact wrap64_in (by omega) (by omega)
  have a6 : (0 : Int) ≤ (q : Int) := by omega
  have HC := hide hc
  clear hc h7
  go_enter Tryd.func17, Tryd.ntmps17
  go_upto_region 1 with fail
  refine name_world fun V hV => ?_
  have HBX := hide (show Blk V w.heap.size 37 #[.int .i64 W, .int .i64 H, .slice (some ad) n c] by rw [← hV.out]; exact Blk.new w _ _)
  have HV := hide (show Below w.heap.size w V by rw [← hV.out]; exact below_alloc w _)
  clear hV
  have q0 : V.cell? ⟨w.heap.size, 0, none⟩ = some (.int .i64 W) := HBX.out.cell 0
  have q1 : V.cell? ⟨w.heap.size, 1, none⟩ = some (.int .i64 H) := HBX.out.cell 1
  have q2 : V.cell? ⟨w.heap.size, 2, none⟩ = some (.slice (some ad) n c) := HBX.out.cell 2
  have q3 : V.cell? (ad.add q) = some (.bool b) := by rw [HV.out.cell (block_lt_of_cell HC.out)]; exact HC.out
  go_wp2
  go_ret
  exact ⟨by first | rfl | simp, HV.out⟩
set_option maxHeartbeats 400000 in
set_option maxRecDepth 100000 in
theorem dot_out (A : Option Addr) (n c : Nat) (W H x y : Int) (w : World) (h1 : 0 ≤ x) (h2 : 0 ≤ y) (h3 : W ≤ x ∨ (x < W ∧ H ≤ y)) :
    Calls Tryd.prog 17 #[.agg #[.int .i64 W, .int .i64 H, .slice A n c], .int .i64 x, .int .i64 y] w fun e w' => e = .returned (.bool false) ∧ Below w.heap.size w w' := by
  rcases h3 with h3 | ⟨h3, h4⟩
  · have a1 : ¬ (x < W) := by omega
    clear h3
    go_enter Tryd.func17, Tryd.ntmps17
    go_upto_region 1 with fail
    refine name_world fun V hV => ?_
    have HBX := hide (show Blk V w.heap.size 37 #[.int .i64 W, .int .i64 H, .slice A n c] by rw [← hV.out]; exact Blk.new w _ _)
    have HV := hide (show Below w.heap.size w V by rw [← hV.out]; exact below_alloc w _)
    clear hV
    have q0 : V.cell? ⟨w.heap.size, 0, none⟩ = some (.int .i64 W) := HBX.out.cell 0
    have q1 : V.cell? ⟨w.heap.size, 1, none⟩ = some (.int .i64 H) := HBX.out.cell 1
    have q2 : V.cell? ⟨w.heap.size, 2, none⟩ = some (.slice A n c) := HBX.out.cell 2
    go_wp2
    go_ret
    exact ⟨by first | rfl | simp, HV.out⟩
  · have a1 : ¬ (y < H) := by omega
    clear h4
    go_enter Tryd.func17, Tryd.ntmps17
    go_upto_region 1 with fail
    refine name_world fun V hV => ?_
    have HBX := hide (show Blk V w.heap.size 37 #[.int .i64 W, .int .i64 H, .slice A n c] by rw [← hV.out]; exact Blk.new w _ _)
    have HV := hide (show Below w.heap.size w V by rw [← hV.out]; exact below_alloc w _)
    clear hV
    have q0 : V.cell? ⟨w.heap.size, 0, none⟩ = some (.int .i64 W) := HBX.out.cell 0
    have q1 : V.cell? ⟨w.heap.size, 1, none⟩ = some (.int .i64 H) := HBX.out.cell 1
    have q2 : V.cell? ⟨w.heap.size, 2, none⟩ = some (.slice A n c) := HBX.out.cell 2
    go_wp2
    go_ret
    exact ⟨by first | rfl | simp, HV.out⟩
/-- Dot of the reference -/
theorem dot_any (A : Option Addr) (n c W H : Nat) (bits : List Bool) (w : World) (hr : Reads w w.heap.size 1 A n (bits.map Value.bool)) (hn : n = W * H) (hW : W ≤ 65536) (hH : H ≤ 65536) (hn6 : n ≤ 65536) (x y : Nat) :
    Calls Tryd.prog 17 #[.agg #[.int .i64 (W : Int), .int .i64 (H : Int), .slice A n c], .int .i64 (x : Int), .int .i64 (y : Int)] w fun e w' => e = .returned (.bool (Ce.bitTo W H bits (W * H) x y)) ∧ Below w.heap.size w w' := by
  have hbl : bits.length = n := by have := hr.1; simpa using this
  by_cases hx : x < W
  · by_cases hy : y < H
    · obtain ⟨p, b, hp, hlt, hb, hres⟩ := dot_pure W H bits x y hx hy (by rw [hbl, hn])
      have hlt' : p + x < n := by rw [hn]; exact hlt
      obtain ⟨ad, rfl, hkl, hc⟩ := reads_item hr (p + x) hlt'
      have hc' : w.cell? (ad.add (p + x)) = some (.bool b) := by
        rw [hc]
        congr 1
        have h := List.getElem?_eq_getElem hkl
        rw [List.getElem?_map, hb] at h
        simp only [Option.map_some] at h
        exact (Option.some.inj h).symm
      have := dot_in ad n c (p + x) (W : Int) (H : Int) (x : Int) (y : Int) (p : Int) b w hc' (by omega) (by omega) (by omega) (by omega) (by omega) (by omega) (by rw [hp]; exact (Int.natCast_mul _ _).symm) (by omega) (by omega) (by omega)
      rw [hres]
      exact this
    · have hres : Ce.bitTo W H bits (W * H) x y = false := by unfold Ce.bitTo; rw [decide_eq_false hy]; simp
      rw [hres]
      exact dot_out A n c W H x y w (by omega) (by omega) (.inr ⟨by omega, by omega⟩)
  · have hres : Ce.bitTo W H bits (W * H) x y = false := by unfold Ce.bitTo; rw [decide_eq_false hx]; simp
    rw [hres]
    exact dot_out A n c W H x y w (by omega) (by omega) (.inl (by omega))
end Go.Proofs.YtdjmfjmijpfijaaDoor
