/-
  Tables: a text made of a string; are of the law, by contract.
-/
import Derived.Test.YtbcfndhnopmbbaaTabW0
namespace Go.Proofs.Ytbcfndhnopmbbaa
open Go.RowKit
set_option linter.unusedVariables false
set_option linter.unusedSimpArgs false
theorem symInfo3 : (Try.prog.info? 67).map (fun i => (i.zero, i.size, i.bytes)) = some (some (.agg #[.int .i64 0, .int .u8 0]), 2, 16) := by kernel_rfl
theorem SC_one (es : Tb.Text) : ∀ v ∈ SC es, v.oneCell' = true := by
  intro v hv
  unfold SC at hv
  obtain ⟨x, _, hx⟩ := List.mem_flatMap.1 hv
  simp only [syC, List.mem_cons, List.not_mem_nil, or_false] at hx
  rcases hx with rfl | rfl <;> rfl
/-- a character more at the end of a row of characters -/
theorem syms_push (W : World) (base g : Nat) (v : Value) (l : Tb.Text) (x : Int × UInt8) (hown : W.ownsRow base 67 2 v l.length (SC l)) (hg : Blk W g 67 #[.int .i64 x.1, .int .u8 (x.2.toNat : Int)]) (hbase : base ≤ W.heap.size) (hlen : l.length ≤ 100000) (ty : TypeId) :
    ∃ v' W', (Builtin.append_ #[37, 37] ty #[v, .slice (some ⟨g, 0, none⟩) 1 1]).run Try.prog W = .ok v' W' ∧ W'.ownsRow base 67 2 v' (l ++ [x]).length (SC (l ++ [x])) ∧ W.grownBy W' v.ownBlock ∧ (v'.ownBlock = v.ownBlock ∨ v'.ownBlock = some W.heap.size) := by
  obtain ⟨j0, hj, hy0, hy1, hy2⟩ := info_parts symInfo3
  obtain ⟨v', w', hrun, hown', hgrow', hat'⟩ := run_append_any (P := Try.prog) W base 37 ty 67 j0 (.agg #[.int .i64 0, .int .u8 0]) 2 16 Try.underlying37 hj hy0 hy1 hy2 rfl (by omega)
    v l.length (SC l) hown W.heap.size (some ⟨g, 0, none⟩) 1 1 (syC x)
    ⟨rfl, fun _ => ⟨_, rfl, hg.lt, fun j u hu => by
      have h2 := Blk.cell hg j
      rw [show ((⟨g, 0, none⟩ : Addr).add j) = ⟨g, j, none⟩ by unfold Addr.add; split <;> simp_all, h2, ← hu]
      show (syC x).toArray[j]? = _
      rw [List.getElem?_toArray]⟩⟩
    (fun u hu => SC_one [x] u (by unfold SC; simpa using hu)) (by unfold maxLen; omega) (by omega) hbase
  refine ⟨v', w', hrun, ?_, hgrow', hat'⟩
  rw [SC_append, List.length_append]
  have e : SC [x] = syC x := by unfold SC; simp
  rw [e]
  exact hown'
theorem text_of_own {w : World} {b n : Nat} {v : Value} {l : Tb.Text} (h : w.ownsRow b 67 2 v n (SC l)) (hl : l.length ≤ 1048576) :
    ∃ A c, v = .slice A l.length c ∧ l.length ≤ c ∧ TextAt w w.heap.size A l := by
  obtain ⟨A, c, rfl, hnc, _⟩ := own_slice h
  have hn : n = l.length := by have := h.1; rw [SC_len] at this; omega
  subst hn
  exact ⟨A, c, rfl, hnc, Reads.of_own h, hl⟩
def txt0 (s : List UInt8) : Tb.Text := s.map fun c => (0, c)
set_option maxHeartbeats 2000000 in
set_option maxRecDepth 100000 in
theorem text_any (s : List UInt8) (w : World) (hs : s.length ≤ 1000) :
    Calls Try.prog 42 #[.string (S s)] w fun e w' => ∃ A c, e = .returned (.slice A (txt0 s).length c) ∧ (txt0 s).length ≤ c ∧ TextAt w' w'.heap.size A (txt0 s) ∧ Below w.heap.size w w' := by
  have HSX := hide (fun (i : Nat) (hi : i < s.length) (W : World) => run_index_S s i hi W)
  obtain ⟨n, hn⟩ : ∃ n, n = s.length := ⟨_, rfl⟩
  have hsz : (S s).size = n := by rw [S_size, hn]
  have HN := hide hn
  rw [← hn] at hs
  have hni : (n : Int) ≤ 1000 := by omega
  have HW := hide (Below.refl w.heap.size w)
  clear hn
  generalize S s = sv at *
  go_enter Try.func42, Try.ntmps42
  go_wp2
  go_loopw [3, 4] (fun s3 q wr => ∃ (i : Nat) (y3 : Value), i ≤ n ∧ q = .int .i64 (i : Int) ∧ y3 = s3 ∧ wr.ownsRow w.heap.size 67 2 y3 (txt0 (s.take i)).length (SC (txt0 (s.take i))) ∧ Below w.heap.size w wr) (fun _ q _ => n - (intOf q).toNat)
  case atStart => exact ⟨0, _, by omega, rfl, rfl, by rw [List.take_zero]; exact own_nil _ _ _ _, HW.out⟩
  case round =>
    obtain ⟨i, y3, hi, rfl, rfl, hown, hbel⟩ := hrel
    obtain ⟨wd, rfl⟩ : ∃ wd, wd = wr := ⟨wr, rfl⟩
    have hi0 : (0 : Int) ≤ (i : Int) := by omega
    by_cases hlt : i < n
    · have hil : i < s.length := by rw [← HN.out]; exact hlt
      have hix := fun W => HSX.out i hil W
      have hi1 : (i : Int) < (n : Int) := by omega
      have HT := hide (show txt0 (s.take (i + 1)) = txt0 (s.take i) ++ [(0, s.getD i 0)] by
        unfold txt0
        rw [List.take_succ_eq_append_getElem hil, List.map_append]
        simp [List.getD, hil])
      have hbs := hbel.size
      have hlen : (txt0 (s.take i)).length ≤ 1000 := by unfold txt0; rw [List.length_map, List.length_take]; omega
      obtain ⟨v', W', hrun, hown', hgrow', _⟩ := syms_push (wd.alloc (.cells #[.int .i64 0, .int .u8 ((s.getD i 0).toNat : Int)] 67)) w.heap.size wd.heap.size y3 (txt0 (s.take i)) (0, s.getD i 0) (own_below hown (below_alloc wd _)) (Blk.new wd _ _) (by simp; omega) (by omega) 37
      have HRUN := hide hrun
      have HO' := hide hown'
      have HB' := hide ((hbel.trans (below_alloc' wd _ hbs)).grown hgrow' (by simp; omega) (fun g hg => (hown.lt g hg).1))
      have HLT := hide hlt
      clear hrun hown' hgrow' hown hbel HSX hil hlt
      generalize (s.getD i 0).toNat = cc at *
      go_wp2_with (at_builtin; refine Lib.wpList_append_run _ rfl _ _ _ _ rfl _ _ rfl rfl _ _ HRUN.out ?_)
      exact ⟨⟨i + 1, _, HLT.out, by go_num, rfl, by rw [HT.out]; exact HO'.out, HB'.out⟩, by have := HLT.out; simp [intOf]; omega⟩
    · obtain rfl : i = n := by omega
      have hnt : ¬ ((i : Int) < (i : Int)) := by omega
      have ho : wd.ownsRow w.heap.size 67 2 y3 (txt0 s).length (SC (txt0 s)) := by
        have h := hown
        rwa [List.take_of_length_le (by have := HN.out; omega)] at h
      obtain ⟨A, c, hv, hc, ht⟩ := text_of_own ho (by unfold txt0; rw [List.length_map]; have := HN.out; omega)
      have HT := hide ht
      have HC := hide hc
      have HB := hide hbel
      subst hv
      clear hlt ho hown hbel ht hc HSX
      go_wp2
      go_ret
      exact ⟨A, c, rfl, HC.out, HT.out, HB.out⟩
end Go.Proofs.Ytbcfndhnopmbbaa
