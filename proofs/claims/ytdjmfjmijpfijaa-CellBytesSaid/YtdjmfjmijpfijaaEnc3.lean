/-
  list at int and at string, Ints and Strings, by their contracts.
-/
import Derived.Test.YtdjmfjmijpfijaaEnc2
import Derived.Test.YtdjmfjmijpfijaaDec4
namespace Go.Proofs.Ytdjmfjmijpfijaa
open Go.RowKit
set_option linter.unusedVariables false
set_option linter.unusedSimpArgs false
namespace Wr
end Wr
set_option maxHeartbeats 400000 in
set_option maxRecDepth 100000 in
theorem listStr_any (A : Option Addr) (n c : Nat) (xs : List (List UInt8)) (w : World) (hr : Reads w w.heap.size 1 A n (xs.map VS)) (hnc : n ≤ c) (hm : n ≤ 1099511627776) (hbig : (Wr.encL Wr.encB xs).length ≤ 8796093022208)  :
    Calls Try.prog 16 #[.slice A n c, .func (.func 17) #[] #[]] w fun e w' => ∃ v, e = .returned v ∧ w'.ownsRow w.heap.size 5 1 v ((Wr.enc xs.length).length + (Wr.encL Wr.encB xs).length) (BV (Wr.enc xs.length ++ Wr.encL Wr.encB xs)) ∧ Below w.heap.size w w' := by
  have hn : n = xs.length := by have := hr.1; simp at this; omega
  have HI := hide (int_any (n : Int) w (by unfold Wr.inI; omega))
  have hE := Wr.enc_le (n : Int)
  have HN := hide hn
  have HR := hide hr
  have HB := hide hbig
  rw [← hn]
  clear hr hn hbig
  generalize hEN : Wr.enc (n : Int) = E at *
  clear hEN
  go_enter Try.func16, Try.ntmps16
  go_wp2_with fail
  refine (unhide HI).mono ?_
  rintro e w1 ⟨v1, rfl, hown1, hb1⟩
  have HO1 := hide hown1
  clear hown1
  go_wp2
  go_loopw [5, 13] (fun v i wr => ∃ k : Nat, k ≤ n ∧ i = .int .i64 (k : Int) ∧ wr.ownsRow w.heap.size 5 1 v (E.length + (Wr.encL Wr.encB (xs.take k)).length) (BV (E ++ Wr.encL Wr.encB (xs.take k))) ∧ Below w.heap.size w wr) (fun _ i _ => n - (intOf i).toNat)
  case atStart => exact ⟨0, Nat.zero_le _, rfl, by simpa [Wr.encL] using HO1.out, hb1⟩
  case round =>
    obtain ⟨k, hk, rfl, hown, hbr⟩ := hrel
    have HOW := hide hown
    have HBR := hide hbr
    have hszr := hbr.size
    clear hb1
    by_cases hlt : k < n
    · obtain ⟨ad, hA, hkl, hcell⟩ := reads_item (HR.out.below hbr) k hlt
      subst hA
      rw [List.getElem_map] at hcell
      have hkl' : k < xs.length := by rw [List.length_map] at hkl; exact hkl
      have hle := Wr.encL_take_le Wr.encB xs (k + 1)
      rw [Wr.encL_take Wr.encB xs k hkl', List.length_append] at hle
      have hB := HB.out
      obtain ⟨A1, c1, hv, _, _⟩ := own_slice hown
      rw [hv] at hown ⊢
      have C := addBytes_any w.heap.size A1 _ c1 xs[k] _ wr hown hszr (by rw [Wr.encB_len] at hle; omega)
      have HST := hide (Wr.encL_take Wr.encB xs k hkl')
      have C := hide C
      generalize xs[k] = x at *
      clear hown hbr hle hB hv hkl hkl'
      go_wp2_with fail
      refine (unhide C).mono ?_
      rintro e w2 ⟨v2, rfl, hown2, hb2⟩
      have HO2 := hide hown2
      clear hown2
      go_wp2
      go_roundw
      case rel =>
        refine ⟨k + 1, by omega, by go_num, ?_, HBR.out.trans hb2⟩
        have := HO2.out
        rw [HST.out, List.length_append, ← Nat.add_assoc, ← List.append_assoc]
        rw [Wr.encB_len, ← Nat.add_assoc]
        unfold Wr.encB
        rw [← List.append_assoc]
        exact this
      case measure => simp [intOf]; omega
    · obtain rfl : k = n := by omega
      clear hown hbr
      go_wp2
      go_ret
      refine ⟨_, rfl, ?_, HBR.out⟩
      have := HOW.out
      rw [List.take_of_length_le (by rw [← HN.out]; exact Nat.le_refl _)] at this
      exact this

set_option maxHeartbeats 400000 in
set_option maxRecDepth 100000 in
/-- Strings, for every list -/
theorem strings_any (A : Option Addr) (n c : Nat) (xs : List (List UInt8)) (w : World) (hr : Reads w w.heap.size 1 A n (xs.map VS)) (hnc : n ≤ c) (hm : n ≤ 1099511627776) (hbig : (Wr.encL Wr.encB xs).length ≤ 8796093022208)  :
    Calls Try.prog 7 #[.slice A n c] w fun e w' => ∃ v, e = .returned v ∧ w'.ownsRow w.heap.size 5 1 v ((Wr.enc xs.length).length + (Wr.encL Wr.encB xs).length) (BV (Wr.enc xs.length ++ Wr.encL Wr.encB xs)) ∧ Below w.heap.size w w' := by
  have H := hide (listStr_any A n c xs w hr hnc hm hbig )
  clear hr hbig
  go_enter Try.func7, Try.ntmps7
  go_wp2_with fail
  refine (unhide H).mono ?_
  rintro e w' ⟨v, rfl, hown, hb⟩
  have HO := hide hown
  clear hown
  go_wp2
  go_ret
  exact ⟨v, rfl, HO.out, hb⟩

end Go.Proofs.Ytdjmfjmijpfijaa
