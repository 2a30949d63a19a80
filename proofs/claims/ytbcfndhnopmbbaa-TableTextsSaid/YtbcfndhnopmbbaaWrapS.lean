/-
  Rows of characters and of pieces of running text that came in, opened.
-/
import Derived.Test.YtbcfndhnopmbbaaWrapT
import Derived.Test.YtbcfndhnopmbbaaTabI
import Derived.Test.YtbcfndhnopmbbaaTxA
import Derived.Deep.SlicePairs
namespace Go.Proofs.Ytbcfndhnopmbbaa
open Go.RowKit Go.ChangeShapes Go.WideShapes Go.ChangeMaps
set_option linter.unusedVariables false
set_option linter.unusedSimpArgs false
section
variable {H : Type} {enc : TypeId × Value → H} {W : World}
set_option maxRecDepth 100000 in
/-- a []api.Sym that came in -/
theorem open_symRow {base : Nat} {v : Value} {d : DataW H} {ps : List MemPlace} (hval : Value.okWide Try.prog W .any base 37 v) (h : DataW.Trod enc Try.prog W 0 (fun _ => true) true 37 v d ps) :
    ∃ A n c, ∃ l : Tb.Text, v = .slice A n c ∧ Reads W W.heap.size 2 A n (SC l) ∧ n ≤ c ∧ c ≤ maxLen ∧ Capped d c ∧ n = l.length ∧ ∀ x ∈ l, Wr.inI x.1 := by
  obtain ⟨a0, len, cap, rfl⟩ := okWide_slice Try.underlying37 hval
  obtain ⟨fuel, hf⟩ := h
  rcases Deep.open_slice_pairs Try.underlying37 Try.underlying67 (by kernel_rfl) rfl rfl (by kernel_rfl) (by kernel_rfl) hf with ⟨hcs, hx⟩ | ⟨a, len', cap', m, k, V0, V1, D0, D1, P0, P1, hcs, _, hl, hm, hmm, hx, hall⟩
  · simp [Value.cells] at hcs
    obtain ⟨rfl, rfl, rfl⟩ := hcs
    simp only [Prod.mk.injEq] at hx
    exact ⟨none, 0, 0, [], rfl, ⟨rfl, fun h => absurd h (by omega)⟩, Nat.le_refl _, by unfold maxLen; omega, .inl ⟨hx.1, rfl⟩, rfl, by simp⟩
  · simp [Value.cells] at hcs
    obtain ⟨rfl, rfl, rfl⟩ := hcs
    simp only [if_true] at hmm
    subst hmm
    simp only [Prod.mk.injEq] at hx
    obtain ⟨f, hfn⟩ := Deep.choose_lt (α := Int × UInt8) (n := len) (p := fun i x => Wr.inI x.1 ∧ W.cell? (a.add (i * 2)) = some (.int .i64 x.1) ∧ W.cell? (a.add (i * 2 + 1)) = some (.int .u8 (x.2.toNat : Int))) (fun i hi => by
      obtain ⟨c0, c1, t0, t1⟩ := hall i (by omega)
      obtain ⟨N, h1, _, h3⟩ := DataW.trod_int Try.underlying3 t0
      obtain ⟨M, h4, _, h6⟩ := DataW.trod_int Try.underlying5 t1
      simp only [List.cons.injEq, and_true] at h1 h4
      exact ⟨(N, UInt8.ofNat M.toNat), inI_of_wf h3, by rw [c0, h1], by rw [c1, h4]; exact congrArg (fun z => some (Value.int .u8 z)) (byte_of_wf h6)⟩)
    have hlen : ((List.range len).map f).length = len := by simp
    refine ⟨some a, len, m, (List.range len).map f, rfl, ⟨by rw [SC_len, hlen], fun hn => ⟨a, rfl, ?_, fun j u hj => ?_⟩⟩, hl, hm, .inr ⟨_, _, hx.1, by simp; omega⟩, by simp, ?_⟩
    · have := block_lt_of_cell (hfn 0 hn).2.1
      rwa [block_of_add] at this
    · have hjl : j < len * 2 := by
        have h := (List.getElem?_eq_some_iff.1 hj).1
        rw [SC_len, hlen] at h
        exact h
      have hi : j / 2 < len := by omega
      have hq : j = (j / 2) * 2 + j % 2 := by omega
      rw [hq] at hj ⊢
      rw [SC_get _ _ _ (by rw [hlen]; exact hi) (by omega)] at hj
      simp only [List.getElem_map, List.getElem_range] at hj
      have h2 : j % 2 = 0 ∨ j % 2 = 1 := by omega
      obtain ⟨_, e0, e1⟩ := hfn (j / 2) hi
      rcases h2 with h2 | h2
      · rw [h2] at hj ⊢
        rw [Nat.add_zero, e0]
        exact hj
      · rw [h2] at hj ⊢
        rw [e1]
        exact hj
    · intro x hx
      obtain ⟨i, hi, rfl⟩ := List.mem_map.1 hx
      exact (hfn i (List.mem_range.1 hi)).1
set_option maxRecDepth 100000 in
/-- a []api.Run that came in -/
theorem open_runRow {base : Nat} {v : Value} {d : DataW H} {ps : List MemPlace} (hval : Value.okWide Try.prog W .any base 36 v) (h : DataW.Trod enc Try.prog W 0 (fun _ => true) true 36 v d ps) :
    ∃ A n c, ∃ l : List Tb.Run, v = .slice A n c ∧ Reads W W.heap.size 2 A n (RNC l) ∧ n ≤ c ∧ c ≤ maxLen ∧ Capped d c ∧ n = l.length := by
  obtain ⟨a0, len, cap, rfl⟩ := okWide_slice Try.underlying36 hval
  obtain ⟨fuel, hf⟩ := h
  rcases Deep.open_slice_pairs Try.underlying36 Try.underlying91 (by kernel_rfl) rfl rfl (by kernel_rfl) (by kernel_rfl) hf with ⟨hcs, hx⟩ | ⟨a, len', cap', m, k, V0, V1, D0, D1, P0, P1, hcs, _, hl, hm, hmm, hx, hall⟩
  · simp [Value.cells] at hcs
    obtain ⟨rfl, rfl, rfl⟩ := hcs
    simp only [Prod.mk.injEq] at hx
    exact ⟨none, 0, 0, [], rfl, ⟨rfl, fun h => absurd h (by omega)⟩, Nat.le_refl _, by unfold maxLen; omega, .inl ⟨hx.1, rfl⟩, rfl⟩
  · simp [Value.cells] at hcs
    obtain ⟨rfl, rfl, rfl⟩ := hcs
    simp only [if_true] at hmm
    subst hmm
    simp only [Prod.mk.injEq] at hx
    obtain ⟨f, hfn⟩ := Deep.choose_lt (α := Tb.Run) (n := len) (p := fun i x => W.cell? (a.add (i * 2)) = some (.int .i64 x.1) ∧ W.cell? (a.add (i * 2 + 1)) = some (.string (S x.2))) (fun i hi => by
      obtain ⟨c0, c1, t0, t1⟩ := hall i (by omega)
      obtain ⟨N, h1, _, _⟩ := DataW.trod_int Try.underlying3 t0
      obtain ⟨b, h4, _⟩ := DataW.trod_string Try.underlying9 t1
      simp only [List.cons.injEq, and_true] at h1 h4
      exact ⟨(N, b.data.toList), by rw [c0, h1], by rw [c1, h4, S_of]⟩)
    have hlen : ((List.range len).map f).length = len := by simp
    refine ⟨some a, len, m, (List.range len).map f, rfl, ⟨by rw [RNC_len, hlen], fun hn => ⟨a, rfl, ?_, fun j u hj => ?_⟩⟩, hl, hm, .inr ⟨_, _, hx.1, by simp; omega⟩, by simp⟩
    · have := block_lt_of_cell (hfn 0 hn).1
      rwa [block_of_add] at this
    · have hjl : j < len * 2 := by
        have h := (List.getElem?_eq_some_iff.1 hj).1
        rw [RNC_len, hlen] at h
        exact h
      have hi : j / 2 < len := by omega
      have hq : j = (j / 2) * 2 + j % 2 := by omega
      rw [hq] at hj ⊢
      rw [RNC_get _ _ _ (by rw [hlen]; exact hi) (by omega)] at hj
      simp only [List.getElem_map, List.getElem_range] at hj
      have h2 : j % 2 = 0 ∨ j % 2 = 1 := by omega
      obtain ⟨e0, e1⟩ := hfn (j / 2) hi
      rcases h2 with h2 | h2
      · rw [h2] at hj ⊢
        rw [Nat.add_zero, e0]
        exact hj
      · rw [h2] at hj ⊢
        rw [e1]
        exact hj
end
end Go.Proofs.Ytbcfndhnopmbbaa
