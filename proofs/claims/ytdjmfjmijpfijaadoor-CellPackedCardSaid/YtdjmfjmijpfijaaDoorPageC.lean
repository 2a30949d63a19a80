/-
  Cells: Page of the reference, by contract (some page, small).
-/
import Derived.Test.YtdjmfjmijpfijaaDoorBentC
namespace Go.Proofs.YtdjmfjmijpfijaaDoor
open Go.RowKit
set_option linter.unusedVariables false
set_option linter.unusedSimpArgs false
/-- a page of the call's own whose lines lie in different blocks -/
def PgF (w : World) (base : Nat) (v : Value) (ls : List (List UInt8)) : Prop :=
  ∃ vs : List Value, w.ownsRow base 27 1 v ls.length vs ∧ (∀ k (h : k < ls.length), ∃ u, vs[k]? = some u ∧ w.ownsRow base 5 1 u ls[k].length (BV ls[k])) ∧
    ∀ (j k : Nat) (u u' : Value), j < k → vs[j]? = some u → vs[k]? = some u' → u.ownBlock = none ∨ u.ownBlock ≠ u'.ownBlock
theorem PgF.own {w : World} {base : Nat} {v : Value} {ls : List (List UInt8)} (h : PgF w base v ls) : PgOwn w base v ls := by
  obtain ⟨vs, h1, h2, _⟩ := h
  exact ⟨vs, h1, h2⟩
theorem PgF.nil (w : World) (base : Nat) : PgF w base (.slice none 0 0) [] := ⟨[], World.ownsRow_nil _ _ _ _, fun k h => absurd h (by simp), fun j k u u' _ h => by simp at h⟩
theorem PgF.below {w w' : World} {base : Nat} {v : Value} {ls : List (List UInt8)} (h : PgF w base v ls) (hb : Below w.heap.size w w') : PgF w' base v ls := by
  obtain ⟨vs, h1, h2, h3⟩ := h
  refine ⟨vs, own_under h1 hb, fun k hk => ?_, h3⟩
  obtain ⟨u, h4, h5⟩ := h2 k hk
  exact ⟨u, h4, own_under h5 hb⟩
theorem append_lineF (wd W : World) (base : Nat) (v : Value) (ls : List (List UInt8)) (l : List UInt8) (u : Value) (hp : PgF wd base v ls) (hbel : Below wd.heap.size wd W) (hl : W.ownsRow wd.heap.size 5 1 u l.length (BV l)) (A : Addr) (hr : Reads W W.heap.size 1 (some A) 1 [u]) (hn : ls.length ≤ 1048576) (hb : base ≤ wd.heap.size) (hu : u.oneCell' = true) :
    ∃ v' w', (Builtin.append_ #[24, 24] 24 #[v, .slice (some A) 1 1]).run Tryd.prog W = .ok v' w' ∧ PgF w' base v' (ls ++ [l]) ∧ W.grownBy w' v.ownBlock := by
  obtain ⟨i0, hi, hz0, hz1, hz2⟩ := info_parts lineInfo
  have hsz := hbel.size
  obtain ⟨vs, h1d, h2d, h3⟩ := hp
  have h1 := own_under h1d hbel
  obtain ⟨v', w', h3r, h4, h5, h6⟩ := run_append_any (P := Tryd.prog) W base 24 24 27 i0 (.slice none 0 0) 1 24 Tryd.underlying24 hi hz0 hz1 hz2 rfl (by omega) v ls.length _ h1 W.heap.size (some A) 1 1 [u] hr (by simpa using hu) (by unfold maxLen; omega) (by omega) (by omega)
  have hlen : vs.length = ls.length := by have := h1.1; omega
  refine ⟨v', w', h3r, ⟨vs ++ [u], by rw [List.length_append]; exact h4, fun k hk => ?_, fun j k a b hjk ha hb' => ?_⟩, h5⟩
  · by_cases hkl : k < ls.length
    · obtain ⟨q, h7, h8⟩ := h2d k hkl
      refine ⟨q, by rw [List.getElem?_append_left (by omega)]; exact h7, ?_⟩
      have h8' := own_under h8 hbel
      have := own_kept h8' h5 (own_own_ne h8' h1 (by decide))
      simpa [List.getElem_append_left hkl] using this
    · have hk0 : k = ls.length := by rw [List.length_append] at hk; simp at hk; omega
      subst hk0
      refine ⟨u, by rw [List.getElem?_append_right (by omega), hlen, Nat.sub_self]; rfl, ?_⟩
      have := own_lower (own_kept hl h5 (own_own_ne hl h1 (by decide))) hb
      simpa using this
  · by_cases hkl : k < vs.length
    · rw [List.getElem?_append_left (by omega)] at ha hb'
      exact h3 j k a b hjk ha hb'
    · have hk0 : k = vs.length := by
        rcases Nat.lt_or_ge k (vs ++ [u]).length with hh | hh
        · simp at hh; omega
        · rw [List.getElem?_eq_none hh] at hb'; cases hb'
      subst hk0
      rw [List.getElem?_append_right (by omega), Nat.sub_self] at hb'
      have hub : b = u := by simpa using hb'.symm
      subst hub
      rw [List.getElem?_append_left hjk] at ha
      obtain ⟨q, h7, h8⟩ := h2d j (by omega)
      rw [ha] at h7
      injection h7 with h7
      subst h7
      cases hoa : a.ownBlock with
      | none => exact .inl rfl
      | some g =>
        right
        intro he
        have hlt := (h8.lt g hoa).2
        have hge := (hl.lt g he.symm).1
        omega
theorem wpList_append_lineF {ops : Array Oper} {rest : List Oper} {o : Oper} {a : Act} {Q : Exit → Act → World → Prop} (wd W : World) (hgd : o.guard = none) (s x : Operand) (t : TypeId) (ht : t = 24)
    (ho : o.op = .call { callee := .builtin .append, args := #[s, x], argTypes := #[t, t] }) (hot : o.type = 24)
    (base : Nat) (v : Value) (ls : List (List UInt8)) (l : List UInt8) (u : Value) (hs : a.eval s = v) (hp : PgF wd base v ls) (hbel : Below wd.heap.size wd W) (hl : W.ownsRow wd.heap.size 5 1 u l.length (BV l)) (A : Addr) (hx : a.eval x = .slice (some A) 1 1) (hr : Reads W W.heap.size 1 (some A) 1 [u]) (hn : ls.length ≤ 1048576) (hb : base ≤ wd.heap.size) (hu : u.oneCell' = true)
    (h : ∀ v' w', PgF w' base v' (ls ++ [l]) → W.grownBy w' v.ownBlock → wpList Tryd.prog ops Q rest (a.put o.dst v') w') : wpList Tryd.prog ops Q (o :: rest) a W := by
  subst ht
  refine wpList_plain hgd fun _ hK => ?_
  obtain ⟨v', w', hrun, h2, h3⟩ := append_lineF wd W base v ls l u hp hbel hl A hr hn hb hu
  unfold Oper.wp execOp
  simp only [ho, hot, resolve, invoke, builtin, Sem.run_bind, Sem.run_pure, Result.andThen_ok, List.map_toArray, List.map_cons, List.map_nil, hs, hx, hrun]
  exact hK _ _ (h v' w' h2 h3)
/-- a byte more on the page's last line -/
theorem page_last (W : World) (base gp c k : Nat) (ls : List (List UInt8)) (hk : k + 1 = ls.length) (hp : PgF W base (.slice (some ⟨gp, 0, none⟩) ls.length c) ls) (b : UInt8) (A : Addr) (hr : Reads W W.heap.size 1 (some A) 1 [.int .u8 ((b.toNat : Nat) : Int)]) (hll : ∀ l ∈ ls, l.length ≤ 1000) (hb : base ≤ W.heap.size) :
    ∃ (u : Value) (A' : Option Addr) (m' c' : Nat) (w2 : World) (ls' : List (List UInt8)), W.cell? ⟨gp, k, none⟩ = some u ∧ (Builtin.append_ #[27, 27] 27 #[u, .slice (some A) 1 1]).run Tryd.prog W = .ok (.slice A' m' c') w2 ∧ w2.cell? ⟨gp, k, none⟩ = some u ∧ w2.frozen? ⟨gp, k, none⟩ = false ∧
      PgOwn (w2.setCell ⟨gp, k, none⟩ (.slice A' m' c')) base (.slice (some ⟨gp, 0, none⟩) ls.length c) ls' ∧ ls'.length = ls.length ∧ (∀ l ∈ ls', l.length ≤ 1001) ∧ Below base W (w2.setCell ⟨gp, k, none⟩ (.slice A' m' c')) := by
  obtain ⟨i0, hi, hz0, hz1, hz2⟩ := info_parts byteInfo
  obtain ⟨vs, h1, h2, h3⟩ := hp
  have hkl : k < ls.length := by omega
  have hlen : vs.length = ls.length := by have := h1.1; omega
  obtain ⟨u, hu, hl⟩ := h2 k hkl
  have hlk := hll _ (List.getElem_mem hkl)
  obtain ⟨v', w2, hrun, h4, h5, h6⟩ := run_append_any (P := Tryd.prog) W base 27 27 5 i0 (.int .u8 0) 1 1 Tryd.underlying27 hi hz0 hz1 hz2 rfl (by omega) u _ _ hl W.heap.size (some A) 1 1 [.int .u8 ((b.toNat : Nat) : Int)] hr (by simp [Value.oneCell']) (by unfold maxLen; omega) (by omega) hb
  obtain ⟨A', c', rfl, _, _⟩ := own_slice h4
  have hne1 := own_own_ne h1 hl (by decide)
  have h1' := own_kept h1 h5 hne1
  have hst := h1'.stored k (.slice A' (ls[k].length + 1) c')
  have hcell : W.cell? ⟨gp, k, none⟩ = some u := by rw [h1.cellAt k (by omega)]; exact hu
  refine ⟨u, A', _, c', w2, ls.set k (ls[k] ++ [b]), hcell, hrun, by rw [h1'.cellAt k (by omega)]; exact hu, h1'.frozenAt k, ⟨vs.set k (.slice A' (ls[k].length + 1) c'), by rw [List.length_set]; exact hst.1, fun j hj => ?_⟩, List.length_set .., fun l hl' => ?_, ?_⟩
  · rw [List.length_set] at hj
    by_cases hjk : j = k
    · subst hjk
      refine ⟨_, by rw [List.getElem?_set_self (by omega)], ?_⟩
      have h := own_kept h4 hst.2 (by
        have := own_own_ne h4 h1' (by decide)
        simpa [Value.ownBlock] using this)
      simpa [BV] using h
    · obtain ⟨q, h7, h8⟩ := h2 j hj
      refine ⟨q, by rw [List.getElem?_set_ne (by omega)]; exact h7, ?_⟩
      have hd : q.ownBlock = none ∨ q.ownBlock ≠ u.ownBlock := h3 j k q u (by omega) h7 hu
      have h9 := own_kept h8 h5 hd
      have h := own_kept h9 hst.2 (by
        have := own_own_ne h9 h1' (by decide)
        simpa [Value.ownBlock] using this)
      have he : (ls.set k (ls[k] ++ [b]))[j]'(by rw [List.length_set]; exact hj) = ls[j] := by rw [List.getElem_set_ne (by omega)]
      rw [he]
      exact h
  · rcases List.mem_or_eq_of_mem_set hl' with h | h
    · have := hll l h
      omega
    · subst h
      simp
      omega
  · refine (below_grown h5 hl hb).trans ?_
    exact below_grown (v := .slice (some ⟨gp, 0, none⟩) ls.length c) (by simpa [Value.ownBlock] using hst.2) h1' (Nat.le_trans hb h5.size)
end Go.Proofs.YtdjmfjmijpfijaaDoor
