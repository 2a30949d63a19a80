/-
  Cells: Lines of the reference, by contract.
-/
import Derived.Test.YtdjmfjmijpfijaaPageD
namespace Go.Proofs.Ytdjmfjmijpfijaa
open Go.RowKit
set_option linter.unusedVariables false
set_option linter.unusedSimpArgs false
theorem textInfo : (Try.prog.info? 9).map (fun i => (i.zero, i.size, i.bytes)) = some (some (.string ByteArray.empty), 1, 16) := by kernel_rfl
/-- lines as strings -/
def SV (ls : List (List UInt8)) : List Value := ls.map fun l => .string (S l)
set_option maxHeartbeats 1000000 in
set_option maxRecDepth 100000 in
theorem refLines_any (A : Option Addr) (n c : Nat) (ls : List (List UInt8)) (w : World) (hp : Pg w w.heap.size A n ls) (hn : n ≤ 1048576) :
    Calls Try.prog 8 #[.slice A n c] w fun e w' => ∃ v, e = .returned v ∧ w'.ownsRow w.heap.size 9 1 v ls.length (SV ls) ∧ Below w.heap.size w w' := by
  obtain ⟨i0, hi, hz0, hz1, hz2⟩ := info_parts textInfo
  have HI := hide hi
  have HZ0 := hide hz0
  have HZ1 := hide hz1
  have HZ2 := hide hz2
  have HP := hide hp
  have hnl : n = ls.length := by obtain ⟨_, _, h, _⟩ := hp; exact h.symm
  have HNL := hide hnl
  have HB0 := hide (Below.refl w.heap.size w)
  have hR0 := hide (World.ownsRow_nil w w.heap.size 9 1)
  clear hp hnl hi hz0 hz1 hz2
  go_enter Try.func8, Try.ntmps8
  go_wp2
  go_loopw [4, 3] (fun s4 s3 wr => ∃ i : Nat, i ≤ n ∧ s4 = .int .i64 (i : Int) ∧ wr.ownsRow w.heap.size 9 1 s3 i (SV (ls.take i)) ∧ Below w.heap.size w wr) (fun s4 _ _ => n - (intOf s4).toNat)
  case atStart => exact ⟨0, by omega, rfl, hR0.out, HB0.out⟩
  case round =>
    obtain ⟨i, hi, rfl, hown, hbel⟩ := hrel
    obtain ⟨wd, rfl⟩ : ∃ wd, wd = wr := ⟨wr, rfl⟩
    have HO := hide hown
    have HB := hide hbel
    have hds := hbel.size
    by_cases hlt : i < n
    · obtain ⟨ad, rfl, hkl, A', c', hc0, hc', hr⟩ := HP.out.row i hlt
      have hc : wd.cell? (ad.add i) = some (.slice A' ls[i].length c') := by rw [hbel.cell (block_lt_of_cell hc0)]; exact hc0
      have hi0 : (0 : Int) ≤ (i : Int) := by omega
      have hi1 : (i : Int) < (n : Int) := by omega
      have HLT := hide hlt
      have hcv : (convert 23 9 (.slice A' ls[i].length c')).run Try.prog wd = .ok (.string (S ls[i])) wd := run_conv_reads ((hr.below hbel)) 23 9 5 c' Try.underlying23 Try.underlying5 Try.underlying9
      have HNX := hide (show SV (ls.take (i + 1)) = SV (ls.take i) ++ [.string (S ls[i])] by rw [List.take_succ_eq_append_getElem hkl]; unfold SV; rw [List.map_append]; rfl)
      generalize ls[i] = l at *
      clear hr hc0 hown hbel hlt hc'
      go_wp2_with (at_builtin; refine wpList_append_any _ rfl (.tmp 11) (.tmp 17) 30 rfl w.heap.size 9 i0 (.string ByteArray.empty) 1 16 Try.underlying30 HI.out HZ0.out HZ1.out HZ2.out rfl (by omega) _ i _ rfl (HO.out.alloc _) _ (some ⟨wd.heap.size, 0, none⟩) 1 1 [.string (S l)] rfl (reads_new wd _ _) (by simp [Value.oneCell']) (by unfold maxLen; omega) (by omega) (by simp; omega) ?_; intro v2 w2 hown2 hgrow2 hat2; have HO2 := hide hown2; have HB2 := hide (HB.out.trans ((below_alloc' wd _ hds).trans (below_grown hgrow2 (HO.out.alloc _) (by simp; omega)))); clear hown2 hgrow2 hat2)
      exact ⟨⟨i + 1, HLT.out, by go_num, by rw [HNX.out]; exact HO2.out, HB2.out⟩, by have := HLT.out; simp [intOf]; omega⟩
    · obtain rfl : i = n := by omega
      have hnt : ¬ ((i : Int) < (i : Int)) := by omega
      have HEND := hide (show wd.ownsRow w.heap.size 9 1 _ ls.length (SV ls) by
        have h := hown
        rw [List.take_of_length_le (by have := HNL.out; omega)] at h
        rw [← HNL.out]
        exact h)
      clear hown hbel hlt
      go_wp2
      go_ret
      exact ⟨_, rfl, HEND.out, HB.out⟩
end Go.Proofs.Ytdjmfjmijpfijaa
