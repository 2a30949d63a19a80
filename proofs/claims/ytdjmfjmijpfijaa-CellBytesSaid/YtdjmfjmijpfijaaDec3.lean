/-
  Decoding lists of integers and of strings: the closure that decodes an element, by its contract.
-/
import Derived.Test.YtdjmfjmijpfijaaDec2
import Derived.Deep.QuietTactic
import Derived.BigQuiet
import Derived.Deep.DeepFit
namespace Go.Proofs.Ytdjmfjmijpfijaa
open Go.RowKit
set_option linter.unusedVariables false
set_option linter.unusedSimpArgs false
namespace Wr
theorem decI_used (l : List UInt8) : (decI l).2.1 ≤ l.length := by
  by_cases h0 : (decI l).2.2 = 0
  · exact (enc_dec (l := l) (n := (decI l).1) (u := (decI l).2.1) (by rw [← h0])).2.1
  · rw [decI_err h0]; simp
theorem decB_used (l : List UInt8) : (decB l).2.1 ≤ l.length := by
  unfold decB
  by_cases h0 : (decLen 1 l).2.2 = 0
  · rw [if_neg (by simpa using h0)]
    have := (decLen_ok (by omega) h0).2.2.2.2
    show (decLen 1 l).2.1 + (decLen 1 l).1.toNat ≤ l.length
    omega
  · rw [if_pos (by simpa using h0)]; simp
end Wr
set_option maxHeartbeats 400000 in
set_option maxRecDepth 100000 in
theorem nextStr_far (pg pb pu ad : Addr) (n c used : Nat) (l : List UInt8) (w : World)
    (hg : w.cell? pg = some (.func (.func 33) #[] #[])) (hb : w.cell? pb = some (.slice (some ad) n c)) (hu : w.cell? pu = some (.int .i64 (used : Int))) (hf : w.frozen? pu = false)
    (hr : Reads w w.heap.size 1 (some ad) n (BV l)) (hm : n ≤ maxLen) (hnc : n ≤ c) (hun : used ≤ n) (hcu : ¬ c = used) :
    Calls Try.prog 43 #[.pointer (some pg), .pointer (some pb), .pointer (some pu)] w fun e w' =>
      e = .returned (.tuple #[.string (S (Wr.decB (l.drop used)).1), .int .i64 (Wr.decB (l.drop used)).2.2]) ∧ ∃ m, w' = (w.drewN m).setCell pu (.int .i64 ((used + (Wr.decB (l.drop used)).2.1 : Nat) : Int)) := by
  have hn : n = l.length := by have := hr.1; simp [BV] at this; omega
  have hcut := reads_rest hr used hun
  have H : ∀ k, Calls Try.prog 33 #[.slice (some (ad.add used)) (n - used) (c - used)] (w.drewN k) fun e w' => e = .returned (.tuple #[.string (S (Wr.decB (l.drop used)).1), .int .i64 (Wr.decB (l.drop used)).2.1, .int .i64 (Wr.decB (l.drop used)).2.2]) ∧ w.drewN k = w' :=
    fun k => getBytes_any _ _ _ _ _ (hcut.drewN k) (by unfold maxLen at *; omega) (by omega)
  have hle : (Wr.decB (l.drop used)).2.1 ≤ n - used := by
    have := Wr.decB_used (l.drop used)
    rw [List.length_drop] at this
    omega
  have hsum : ((used + (Wr.decB (l.drop used)).2.1 : Nat) : Int) = (used : Int) + ((Wr.decB (l.drop used)).2.1 : Int) := by omega
  rw [hsum]
  generalize Wr.decB (l.drop used) = d at *
  obtain ⟨z, u, er⟩ := d
  simp only at H hle ⊢
  unfold maxLen at hm
  have hbu : used + u ≤ 9223372036854775807 := by omega
  clear hr hn hcut hsum
  have H := hide H
  go_enter Try.func43, Try.ntmps43
  go_wp2
  go_quiet ((go_at_call 33; exact quiet_left (unhide H _)))
  go_wp2
  go_ret2
  exact ⟨rfl, _, rfl⟩

set_option maxHeartbeats 400000 in
set_option maxRecDepth 100000 in
theorem nextStr_end (pg pb pu ad : Addr) (n : Nat) (w : World)
    (hg : w.cell? pg = some (.func (.func 33) #[] #[])) (hb : w.cell? pb = some (.slice (some ad) n n)) (hu : w.cell? pu = some (.int .i64 (n : Int))) (hf : w.frozen? pu = false) (hm : n ≤ maxLen) :
    Calls Try.prog 43 #[.pointer (some pg), .pointer (some pb), .pointer (some pu)] w fun e w' =>
      e = .returned (.tuple #[.string (S (Wr.decB []).1), .int .i64 (Wr.decB []).2.2]) ∧ ∃ m, w' = (w.drewN m).setCell pu (.int .i64 (n : Int)) := by
  have H : ∀ k, Calls Try.prog 33 #[.slice (some ad) 0 0] (w.drewN k) fun e w' => e = .returned (.tuple #[.string (S (Wr.decB []).1), .int .i64 (Wr.decB []).2.1, .int .i64 (Wr.decB []).2.2]) ∧ w.drewN k = w' :=
    fun k => getBytes_any _ _ _ [] _ (reads_zero _ _ _) (by simp) (by simp)
  have hle : (Wr.decB []).2.1 = 0 := by have := Wr.decB_used []; simpa using this
  rw [hle] at H
  generalize Wr.decB [] = d at *
  obtain ⟨z, u, er⟩ := d
  simp only at H ⊢
  unfold maxLen at hm
  clear hle
  have H := hide H
  go_enter Try.func43, Try.ntmps43
  go_wp2
  go_quiet ((go_at_call 33; exact quiet_left (unhide H _)))
  go_wp2
  go_ret2
  exact ⟨rfl, _, rfl⟩

/-- the closure of getList[string]: one element behind what was used -/
theorem nextStr_any (pg pb pu ad : Addr) (n c used : Nat) (l : List UInt8) (w : World)
    (hg : w.cell? pg = some (.func (.func 33) #[] #[])) (hb : w.cell? pb = some (.slice (some ad) n c)) (hu : w.cell? pu = some (.int .i64 (used : Int))) (hf : w.frozen? pu = false)
    (hr : Reads w w.heap.size 1 (some ad) n (BV l)) (hm : n ≤ maxLen) (hnc : n ≤ c) (hun : used ≤ n) :
    Calls Try.prog 43 #[.pointer (some pg), .pointer (some pb), .pointer (some pu)] w fun e w' =>
      e = .returned (.tuple #[.string (S (Wr.decB (l.drop used)).1), .int .i64 (Wr.decB (l.drop used)).2.2]) ∧ ∃ m, w' = (w.drewN m).setCell pu (.int .i64 ((used + (Wr.decB (l.drop used)).2.1 : Nat) : Int)) := by
  by_cases hcu : c = used
  · have hn : n = l.length := by have := hr.1; simp [BV] at this; omega
    obtain rfl : n = c := by omega
    subst hcu
    have hd : l.drop n = [] := List.drop_eq_nil_of_le (by omega)
    have hle : (Wr.decB []).2.1 = 0 := by have := Wr.decB_used []; simpa using this
    rw [hd, hle]
    exact nextStr_end pg pb pu ad n w hg hb hu hf hm
  · exact nextStr_far pg pb pu ad n c used l w hg hb hu hf hr hm hnc hun hcu

end Go.Proofs.Ytdjmfjmijpfijaa
