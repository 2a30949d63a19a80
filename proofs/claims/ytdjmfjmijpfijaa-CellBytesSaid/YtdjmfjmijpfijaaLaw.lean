/-
  What the walks of the laws share: regions that draw their order and hold calls that make memory; bytes turned into a string; an append to a slice whose length is its capacity.
-/
import Derived.Test.YtdjmfjmijpfijaaPure
import Derived.Deep.DeepCutAuto
import Derived.Deep.Upon
import Derived.Test.YtdjmfjmijpfijaaRef1
namespace Go.Proofs.Ytdjmfjmijpfijaa
open Go.RowKit
set_option linter.unusedVariables false
set_option linter.unusedSimpArgs false
section
variable {P : Program} (w : World)
/-- append of bytes to a slice that is full: a new row, or (where nothing is appended) the slice itself -/
theorem run_append_tight (t ty e : TypeId) (i : TypeInfo) (z : Value) (ht : P.underlying t = some (.slice e)) (hi : P.info? e = some i) (hz : i.zero = some z) (hsize : i.size = 1) (hby : i.bytes = 1) (hzs : z.cells.size = 1)
    (B1 : Nat) (ad : Addr) (n : Nat) (xs : List Value) (hr1 : Reads w B1 1 (some ad) n xs) (hn : 0 < n) (hB1 : B1 ≤ w.heap.size)
    (B2 : Nat) (A : Option Addr) (m c : Nat) (news : List Value) (hr2 : Reads w B2 1 A m news) (h1 : ∀ u ∈ news, u.oneCell' = true)
    (h63 : n + m ≤ 17592186044416) :
    ∃ A' c' w', (Builtin.append_ #[t, t] ty #[.slice (some ad) n n, .slice A m c]).run P w = .ok (.slice (some A') (n + m) c') w' ∧ Reads w' w'.heap.size 1 (some A') (n + m) (xs ++ news) ∧ n + m ≤ c' ∧ Below w.heap.size w w' := by
  rcases Nat.eq_zero_or_pos m with hm | hm
  · subst hm
    have hnil : news = [] := List.eq_nil_of_length_eq_zero (by simpa using hr2.1)
    subst hnil
    have hs : Src P i.size t (.slice A 0 c) 0 [] w := by
      cases A with
      | none => exact Src.ofNil w ht c
      | some a2 => exact Src.ofSlice w ht a2 0 c [] (by simp) (by simp) (by simp)
    exact ⟨ad, n, w, run_append_nothing w t t ty e i ht hi (some ad) n n (Nat.le_refl _) _ hs, by simpa using hr1.more hB1, by omega, Below.refl _ _⟩
  · obtain ⟨ad1, e1, hlt1, hc1⟩ := hr1.2 hn
    injection e1 with e1
    subst e1
    obtain ⟨ad2, e2, hlt2, hc2⟩ := hr2.2 hm
    subst e2
    have hl1 : xs.length = n * i.size := by rw [hsize]; exact hr1.1
    have hl2 : news.length = m * i.size := by rw [hsize]; exact hr2.1
    have hr := run_append_grow (P := P) w t ty e i z ht hi hz ad n n xs hl1 hc1 ad2 m c news hl2 hc2 (by omega) (by omega) (growslice_fits (by omega) (by rw [hby]; omega))
    have hge := grownCap_ge w (n + m) n e
    refine ⟨_, _, _, hr, ⟨?_, fun _ => ⟨_, rfl, by simp, fun j u hj => ?_⟩⟩, hge, ?_⟩
    · rw [List.length_append, hl1, hl2, hsize]; omega
    · rw [show ((⟨w.heap.size, 0, none⟩ : Addr).add j) = ⟨w.heap.size, j, none⟩ by simp [Addr.add]; intro h; omega]
      have hj' : j < (xs ++ news).length := by
        rcases Nat.lt_or_ge j (xs ++ news).length with h | h
        · exact h
        · rw [List.getElem?_eq_none h] at hj; cases hj
      refine (cell_of_row _ w.heap.size j _ e (0, 0) (heap_alloc_new w.drew _)).trans ?_
      rw [Array.getElem?_append_left (by simp only [Array.size_append, List.size_toArray]; simpa using hj')]
      simpa using hj
    · exact ⟨rfl, rfl, rfl, by simp, fun k hk => heap_alloc_old w.drew _ hk⟩

theorem wp_append_tight {o : Oper} {a : Act} {K : Act → World → Prop} {Q : Exit → Act → World → Prop} (s x : Operand) (t : TypeId)
    (ho : o.op = .call { callee := .builtin .append, args := #[s, x], argTypes := #[t, t] })
    (e : TypeId) (i : TypeInfo) (z : Value) (ht : P.underlying t = some (.slice e)) (hi : P.info? e = some i) (hz : i.zero = some z) (hsize : i.size = 1) (hby : i.bytes = 1) (hzs : z.cells.size = 1)
    (B1 : Nat) (ad : Addr) (n : Nat) (xs : List Value) (hs : a.eval s = .slice (some ad) n n) (hr1 : Reads w B1 1 (some ad) n xs) (hn : 0 < n) (hB1 : B1 ≤ w.heap.size)
    (B2 : Nat) (A : Option Addr) (m c : Nat) (news : List Value) (hx : a.eval x = .slice A m c) (hr2 : Reads w B2 1 A m news) (h1 : ∀ u ∈ news, u.oneCell' = true)
    (h63 : n + m ≤ 17592186044416)
    (h : ∀ A' c' w', Reads w' w'.heap.size 1 (some A') (n + m) (xs ++ news) → n + m ≤ c' → Below w.heap.size w w' → K (a.put o.dst (.slice (some A') (n + m) c')) w') : o.wp P a w K Q := by
  obtain ⟨A', c', w', hrun, h2, h3, h4⟩ := run_append_tight (P := P) w t o.type e i z ht hi hz hsize hby hzs B1 ad n xs hr1 hn hB1 B2 A m c news hr2 h1 h63
  unfold Oper.wp execOp
  simp only [ho, resolve, invoke, builtin, Sem.run_bind, Sem.run_pure, Result.andThen_ok, List.map_toArray, List.map_cons, List.map_nil, hs, hx, hrun]
  exact h A' c' w' h2 h3 h4

theorem wpList_append_tight {ops : Array Oper} {rest : List Oper} {o : Oper} {a : Act} {Q : Exit → Act → World → Prop} (hgd : o.guard = none) (s x : Operand) (t : TypeId)
    (ho : o.op = .call { callee := .builtin .append, args := #[s, x], argTypes := #[t, t] })
    (e : TypeId) (i : TypeInfo) (z : Value) (ht : P.underlying t = some (.slice e)) (hi : P.info? e = some i) (hz : i.zero = some z) (hsize : i.size = 1) (hby : i.bytes = 1) (hzs : z.cells.size = 1)
    (B1 : Nat) (ad : Addr) (n : Nat) (xs : List Value) (hs : a.eval s = .slice (some ad) n n) (hr1 : Reads w B1 1 (some ad) n xs) (hn : 0 < n) (hB1 : B1 ≤ w.heap.size)
    (B2 : Nat) (A : Option Addr) (m c : Nat) (news : List Value) (hx : a.eval x = .slice A m c) (hr2 : Reads w B2 1 A m news) (h1 : ∀ u ∈ news, u.oneCell' = true)
    (h63 : n + m ≤ 17592186044416)
    (h : ∀ A' c' w', Reads w' w'.heap.size 1 (some A') (n + m) (xs ++ news) → n + m ≤ c' → Below w.heap.size w w' → wpList P ops Q rest (a.put o.dst (.slice (some A') (n + m) c')) w') : wpList P ops Q (o :: rest) a w :=
  wpList_plain hgd fun _ hK => wp_append_tight w s x t ho e i z ht hi hz hsize hby hzs B1 ad n xs hs hr1 hn hB1 B2 A m c news hx hr2 h1 h63 fun A' c' w' h2 h3 h4 => hK _ _ (h A' c' w' h2 h3 h4)

theorem step_append_tight {ops : Array Oper} {o : Oper} {a : Act} {K : Act → World → Prop} {Q : Exit → Act → World → Prop} {E : Prop} (hgd : o.guard = none) (s x : Operand) (t : TypeId)
    (ho : o.op = .call { callee := .builtin .append, args := #[s, x], argTypes := #[t, t] })
    (e : TypeId) (i : TypeInfo) (z : Value) (ht : P.underlying t = some (.slice e)) (hi : P.info? e = some i) (hz : i.zero = some z) (hsize : i.size = 1) (hby : i.bytes = 1) (hzs : z.cells.size = 1)
    (B1 : Nat) (ad : Addr) (n : Nat) (xs : List Value) (hs : a.eval s = .slice (some ad) n n) (hr1 : Reads w B1 1 (some ad) n xs) (hn : 0 < n) (hB1 : B1 ≤ w.heap.size)
    (B2 : Nat) (A : Option Addr) (m c : Nat) (news : List Value) (hx : a.eval x = .slice A m c) (hr2 : Reads w B2 1 A m news) (h1 : ∀ u ∈ news, u.oneCell' = true)
    (h63 : n + m ≤ 17592186044416)
    (h : ∀ A' c' w', Reads w' w'.heap.size 1 (some A') (n + m) (xs ++ news) → n + m ≤ c' → Below w.heap.size w w' → K (a.put o.dst (.slice (some A') (n + m) c')) w') :
    if Region.wanted o (yielded ops a.tmps) = true then Oper.wp P o a w K Q else E := by
  have hw : Region.wanted o (yielded ops a.tmps) = true := by simp [Region.wanted, hgd]
  rw [if_pos hw]
  exact wp_append_tight w s x t ho e i z ht hi hz hsize hby hzs B1 ad n xs hs hr1 hn hB1 B2 A m c news hx hr2 h1 h63 h
end
end Go.Proofs.Ytdjmfjmijpfijaa
