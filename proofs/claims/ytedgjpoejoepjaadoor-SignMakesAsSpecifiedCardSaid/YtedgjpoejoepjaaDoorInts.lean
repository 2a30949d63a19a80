/-
  wire.Int and wire.Ints by contract (picked out of the texts of layer 1).
-/
import Derived.Test.YtedgjpoejoepjaaDoorWire
import Derived.Test.YtedgjpoejoepjaaDoorSha
namespace Go.Proofs.YtedgjpoejoepjaaDoor
open Go.RowKit
set_option linter.unusedVariables false
set_option linter.unusedSimpArgs false

set_option maxHeartbeats 400000 in
set_option maxRecDepth 100000 in
/-- Int, for every integer -/
theorem int_any (z : Int) (w : World) (hz : Wr.inI z) :
    Calls Tryd.prog 26 #[.int .i64 z] w fun e w' => ∃ v, e = .returned v ∧ w'.ownsRow w.heap.size 5 1 v (Wr.enc z).length (BV (Wr.enc z)) ∧ Below w.heap.size w w' := by
  have HA := hide (fun c (w1 : World) (h : w1.ownsRow w.heap.size 5 1 (.slice (some ⟨w.heap.size, 0, none⟩) 0 c) 0 []) (hs : w.heap.size ≤ w1.heap.size) =>
    addInt_any w.heap.size (some ⟨w.heap.size, 0, none⟩) 0 c z [] w1 h hs (by omega) hz)
  have hz2 := hz
  unfold Wr.inI at hz2
  obtain ⟨i0, hi, hz0, hz1, hz3⟩ := info_parts byteInfo
  have HI := hide hi
  have HZ0 := hide hz0
  have HZ1 := hide hz1
  have HZ2 := hide hz3
  clear hi hz0 hz1 hz3 hz
  go_enter Tryd.func26, Tryd.ntmps26
  go_wp2_with (at_make; refine wpList_make_own _ rfl _ _ 51 rfl w.heap.size 5 i0 (.int .u8 0) 1 Tryd.underlying51 HI.out HZ0.out HZ1.out _ _ _ 9 rfl rfl (by omega) (by rw [HZ2.out]; omega) (by unfold maxLen; omega) (Nat.le_refl _) ?_; intro w1 hown1 hgrow1)
  refine (unhide HA _ w1 hown1 hgrow1.size).mono ?_
  rintro e w2 ⟨v2, rfl, hown2, hb2⟩
  have HO2 := hide hown2
  have HB := hide (((Below.refl w.heap.size w).grown hgrow1 (Nat.le_refl _) (by simp)).trans hb2)
  clear hown1 hgrow1 hown2 hb2
  go_wp2
  go_ret
  refine ⟨v2, rfl, ?_, HB.out⟩
  have := HO2.out
  rw [Nat.zero_add, List.nil_append] at this
  exact this
set_option maxHeartbeats 400000 in
set_option maxRecDepth 100000 in
theorem listInt_any (A : Option Addr) (n c : Nat) (xs : List Int) (w : World) (hr : Reads w w.heap.size 1 A n (xs.map (Value.int .i64))) (hnc : n ≤ c) (hm : n ≤ 1099511627776) (hbig : (Wr.encL Wr.enc xs).length ≤ 8796093022208) (hx : ∀ x ∈ xs, Wr.inI x) :
    Calls Tryd.prog 59 #[.slice A n c, .func (.func 47) #[] #[]] w fun e w' => ∃ v, e = .returned v ∧ w'.ownsRow w.heap.size 5 1 v ((Wr.enc xs.length).length + (Wr.encL Wr.enc xs).length) (BV (Wr.enc xs.length ++ Wr.encL Wr.enc xs)) ∧ Below w.heap.size w w' := by
  have hn : n = xs.length := by have := hr.1; simp at this; omega
  have HI := hide (int_any (n : Int) w (by unfold Wr.inI; omega))
  have hE := Wr.enc_le (n : Int)
  have HN := hide hn
  have HR := hide hr
  have HB := hide hbig
  rw [← hn]
  clear hr hn hbig
  generalize hEN : Wr.enc (n : Int) = E at *
  clear hEN
  go_enter Tryd.func59, Tryd.ntmps59
  go_wp2_with fail
  refine (unhide HI).mono ?_
  rintro e w1 ⟨v1, rfl, hown1, hb1⟩
  have HO1 := hide hown1
  clear hown1
  go_wp2
  go_loopw [5, 13] (fun v i wr => ∃ k : Nat, k ≤ n ∧ i = .int .i64 (k : Int) ∧ wr.ownsRow w.heap.size 5 1 v (E.length + (Wr.encL Wr.enc (xs.take k)).length) (BV (E ++ Wr.encL Wr.enc (xs.take k))) ∧ Below w.heap.size w wr) (fun _ i _ => n - (intOf i).toNat)
  case atStart => exact ⟨0, Nat.zero_le _, rfl, by simpa [Wr.encL] using HO1.out, hb1⟩
  case round =>
    obtain ⟨k, hk, rfl, hown, hbr⟩ := hrel
    have HOW := hide hown
    have HBR := hide hbr
    have hszr := hbr.size
    clear hb1
    by_cases hlt : k < n
    · obtain ⟨ad, hA, hkl, hcell⟩ := reads_item (HR.out.below hbr) k hlt
      subst hA
      rw [List.getElem_map] at hcell
      have hkl' : k < xs.length := by rw [List.length_map] at hkl; exact hkl
      have hle := Wr.encL_take_le Wr.enc xs (k + 1)
      rw [Wr.encL_take Wr.enc xs k hkl', List.length_append] at hle
      have hB := HB.out
      obtain ⟨A1, c1, hv, _, _⟩ := own_slice hown
      rw [hv] at hown ⊢
      have C := addInt_any w.heap.size A1 _ c1 xs[k] _ wr hown hszr (by omega) (hx _ (List.getElem_mem hkl'))
      have HST := hide (Wr.encL_take Wr.enc xs k hkl')
      have C := hide C
      generalize xs[k] = x at *
      clear hown hbr hle hB hv hkl hkl'
      go_wp2_with fail
      refine (unhide C).mono ?_
      rintro e w2 ⟨v2, rfl, hown2, hb2⟩
      have HO2 := hide hown2
      clear hown2
      go_wp2
      go_roundw
      case rel =>
        refine ⟨k + 1, by omega, by go_num, ?_, HBR.out.trans hb2⟩
        have := HO2.out
        rw [HST.out, List.length_append, ← Nat.add_assoc, ← List.append_assoc]
        exact this
      case measure => simp [intOf]; omega
    · obtain rfl : k = n := by omega
      clear hown hbr
      go_wp2
      go_ret
      refine ⟨_, rfl, ?_, HBR.out⟩
      have := HOW.out
      rw [List.take_of_length_le (by rw [← HN.out]; exact Nat.le_refl _)] at this
      exact this
set_option maxHeartbeats 400000 in
set_option maxRecDepth 100000 in
/-- Ints, for every list -/
theorem ints_any (A : Option Addr) (n c : Nat) (xs : List Int) (w : World) (hr : Reads w w.heap.size 1 A n (xs.map (Value.int .i64))) (hnc : n ≤ c) (hm : n ≤ 1099511627776) (hbig : (Wr.encL Wr.enc xs).length ≤ 8796093022208) (hx : ∀ x ∈ xs, Wr.inI x) :
    Calls Tryd.prog 48 #[.slice A n c] w fun e w' => ∃ v, e = .returned v ∧ w'.ownsRow w.heap.size 5 1 v ((Wr.enc xs.length).length + (Wr.encL Wr.enc xs).length) (BV (Wr.enc xs.length ++ Wr.encL Wr.enc xs)) ∧ Below w.heap.size w w' := by
  have H := hide (listInt_any A n c xs w hr hnc hm hbig hx)
  clear hr hbig
  go_enter Tryd.func48, Tryd.ntmps48
  go_wp2_with fail
  refine (unhide H).mono ?_
  rintro e w' ⟨v, rfl, hown, hb⟩
  have HO := hide hown
  clear hown
  go_wp2
  go_ret
  exact ⟨v, rfl, HO.out, hb⟩
end Go.Proofs.YtedgjpoejoepjaaDoor
