/-
  Cells: Back of the reference, few, by contract; CellDots, walked.
-/
import Derived.Test.YtdjmfjmijpfijaaLivesC
namespace Go.Proofs.Ytdjmfjmijpfijaa
open Go.RowKit
set_option linter.unusedVariables false
set_option linter.unusedSimpArgs false
namespace Ce
def flip (x : Int) : Int := if x ≤ 3 then x + 3 else x - 3
def goodB (xs : List Int) : Bool := xs.all (fun x => decide (1 ≤ x) && decide (x ≤ 6)) && decide xs.Nodup
theorem of_goodB {xs : List Int} (h : goodB xs = true) : of xs = ((sumB xs : Int), 0) := by
  unfold goodB at h
  rw [Bool.and_eq_true, List.all_eq_true, decide_eq_true_iff] at h
  refine of_ok (fun x hx => ?_) h.2
  have := h.1 x hx
  rw [Bool.and_eq_true, decide_eq_true_iff, decide_eq_true_iff] at this
  exact this
set_option maxRecDepth 100000 in
theorem facts (c : Nat) (hc : c < 256) : of (dots c) = (((c % 64 : Nat) : Int), 0) ∧ of ((dots c).map flip) = (((back c : Nat) : Int), 0) ∧ back (back c) = c % 64 ∧ (dots (back c)).length = (dots c).length ∧ back c < 64 := by
  have H : ∀ c : Fin 256, goodB (dots c.val) = true ∧ sumB (dots c.val) = c.val % 64 ∧ goodB ((dots c.val).map flip) = true ∧ sumB ((dots c.val).map flip) = back c.val ∧ back (back c.val) = c.val % 64 ∧ (dots (back c.val)).length = (dots c.val).length ∧ back c.val < 64 := by decide +kernel
  obtain ⟨h1, h2, h3, h4, h5, h6, h7⟩ := H ⟨c, hc⟩
  exact ⟨by rw [of_goodB h1, h2], by rw [of_goodB h3, h4], h5, h6, h7⟩
theorem dots_range (c : Nat) : ∀ x ∈ dots c, 1 ≤ x ∧ x ≤ 6 := fun x hx => by
  rw [dots_map, List.mem_map] at hx
  obtain ⟨k, hk, rfl⟩ := hx
  have := dotsN_lt c k hk
  omega
theorem dots_len6 (c : Nat) : (dots c).length ≤ 6 := dotsTo_len c 6
end Ce
theorem reads_take {w : World} {B n : Nat} {A : Option Addr} {xs : List Value} (hr : Reads w B 1 A n xs) (m : Nat) (hm : m ≤ n) : Reads w B 1 A m (xs.take m) := by
  have hl : xs.length = n := by have := hr.1; omega
  refine ⟨by rw [List.length_take]; omega, fun h0 => ?_⟩
  obtain ⟨ad, e, hb, hc⟩ := hr.2 (by omega)
  refine ⟨ad, e, hb, fun j u hj => hc j u ?_⟩
  rw [List.getElem?_take] at hj
  split at hj
  · exact hj
  · cases hj
set_option maxHeartbeats 1000000 in
set_option maxRecDepth 100000 in
theorem refFew_any (A : Option Addr) (n c most : Nat) (l : List UInt8) (w : World) (hr : Reads w w.heap.size 1 A n (BV l)) (hnc : n ≤ c) (hA : A = none → c = 0) (hc : c ≤ maxLen) (hm : most ≤ 1000) :
    Calls Try.prog 18 #[.slice A n c, .int .i64 (most : Int)] w fun e w' => ∃ B d, e = .returned (.slice B (min n most) d) ∧ Reads w' w'.heap.size 1 B (min n most) (BV (l.take (min n most))) ∧ min n most ≤ d ∧ Below w.heap.size w w' := by
  obtain ⟨i0, hi, hz0, hz1, hz2⟩ := info_parts byteInfo
  have HI := hide hi
  have HZ0 := hide hz0
  have HZ1 := hide hz1
  have HZ2 := hide hz2
  have hrt := reads_take hr (min n most) (by omega)
  rw [show (BV l).take (min n most) = BV (l.take (min n most)) by unfold BV; rw [List.map_take]] at hrt
  have HRT := hide hrt
  have hmc : (min n most : Nat) ≤ 1000 := by omega
  have HB0 := hide (Below.refl w.heap.size w)
  have hc9 : (c : Int) ≤ 9223372036854775807 := by unfold maxLen at hc; omega
  have hncI : (n : Int) ≤ (c : Int) := by omega
  have hn0 : (0 : Int) ≤ (n : Int) := by omega
  have hm0 : (0 : Int) ≤ (most : Int) := by omega
  have hm1 : (most : Int) ≤ 1000 := by omega
  clear hi hz0 hz1 hz2 hrt hr hc
  by_cases hle : n ≤ most
  · rw [Nat.min_eq_left hle] at *
    have h1 : ¬ ((most : Int) < (n : Int)) := by omega
    rcases A with _ | ad
    · have hc0 := hA rfl
      subst hc0
      have hn00 : n = 0 := by omega
      subst hn00
      clear hA
      go_enter Try.func18, Try.ntmps18
      go_wp2_with (at_builtin; refine wpList_append_any _ rfl (.tmp 6) (.tmp 12) 23 rfl w.heap.size 5 i0 (.int .u8 0) 1 1 Try.underlying23 HI.out HZ0.out HZ1.out HZ2.out rfl (by omega) _ 0 [] rfl (World.ownsRow_nil _ _ _ _) _ none 0 0 (BV (l.take 0)) rfl HRT.out (BV_one _) (by unfold maxLen; omega) (by omega) (Nat.le_refl _) ?_; intro v2 w2 hown2 hgrow2 hat2; have HO2 := hide hown2; have hgrow3 : w.grownBy w2 none := hgrow2; have HB2 := hide (HB0.out.grown hgrow3 (Nat.le_refl _) (fun k hk => by cases hk)); clear hown2 hgrow2 hat2 hgrow3)
      go_ret
      have ho : w2.ownsRow w.heap.size 5 1 v2 0 (BV (l.take 0)) := HO2.out
      obtain ⟨B, d, hv, hd, _⟩ := own_slice ho
      subst hv
      exact ⟨B, ⟨d, rfl⟩, Reads.of_own ho, HB2.out⟩
    · go_enter Try.func18, Try.ntmps18
      go_wp2_with (at_builtin; refine wpList_append_any _ rfl (.tmp 6) (.tmp 12) 23 rfl w.heap.size 5 i0 (.int .u8 0) 1 1 Try.underlying23 HI.out HZ0.out HZ1.out HZ2.out rfl (by omega) _ 0 [] rfl (World.ownsRow_nil _ _ _ _) _ (some ad) n c (BV (l.take n)) rfl HRT.out (BV_one _) (by unfold maxLen; omega) (by omega) (Nat.le_refl _) ?_; intro v2 w2 hown2 hgrow2 hat2; have HO2 := hide hown2; have hgrow3 : w.grownBy w2 none := hgrow2; have HB2 := hide (HB0.out.grown hgrow3 (Nat.le_refl _) (fun k hk => by cases hk)); clear hown2 hgrow2 hat2 hgrow3)
      go_ret
      have ho := HO2.out
      rw [Nat.zero_add, List.nil_append] at ho
      obtain ⟨B, d, hv, hd, _⟩ := own_slice ho
      subst hv
      exact ⟨B, d, rfl, Reads.of_own ho, hd, HB2.out⟩
  · rw [Nat.min_eq_right (by omega)] at *
    have h1 : ((most : Int) < (n : Int)) := by omega
    rcases A with _ | ad
    · have hc0 := hA rfl
      omega
    · have h2 : (most : Int) ≤ (c : Int) := by omega
      go_enter Try.func18, Try.ntmps18
      go_wp2_with (at_builtin; refine wpList_append_any _ rfl (.tmp 6) (.tmp 12) 23 rfl w.heap.size 5 i0 (.int .u8 0) 1 1 Try.underlying23 HI.out HZ0.out HZ1.out HZ2.out rfl (by omega) _ 0 [] rfl (World.ownsRow_nil _ _ _ _) _ (some ad) most c (BV (l.take most)) rfl HRT.out (BV_one _) (by unfold maxLen; omega) (by omega) (Nat.le_refl _) ?_; intro v2 w2 hown2 hgrow2 hat2; have HO2 := hide hown2; have hgrow3 : w.grownBy w2 none := hgrow2; have HB2 := hide (HB0.out.grown hgrow3 (Nat.le_refl _) (fun k hk => by cases hk)); clear hown2 hgrow2 hat2 hgrow3)
      go_ret
      have ho := HO2.out
      rw [Nat.zero_add, List.nil_append] at ho
      obtain ⟨B, d, hv, hd, _⟩ := own_slice ho
      subst hv
      exact ⟨B, d, rfl, Reads.of_own ho, hd, HB2.out⟩
set_option maxHeartbeats 400000 in
set_option maxRecDepth 100000 in
theorem few_any (A : Option Addr) (n c most : Nat) (l : List UInt8) (w : World) (hr : Reads w w.heap.size 1 A n (BV l)) (hnc : n ≤ c) (hA : A = none → c = 0) (hc : c ≤ maxLen) (hm : most ≤ 1000) :
    Calls Try.prog 10 #[.slice A n c, .int .i64 (most : Int)] w fun e w' => ∃ B d, e = .returned (.slice B (min n most) d) ∧ Reads w' w'.heap.size 1 B (min n most) (BV (l.take (min n most))) ∧ min n most ≤ d ∧ Below w.heap.size w w' := by
  have CF := hide (refFew_any A n c most l w hr hnc hA hc hm)
  clear hr hnc hA hc hm
  go_enter Try.func10, Try.ntmps10
  go_wp2_with (go_at_call 18; refine (unhide CF).mono ?_; rintro e w1 ⟨B, d, rfl, h1, h2, h3⟩; have H1 := hide h1; have H2 := hide h2; have H3 := hide h3; clear h1 h2 h3)
  go_ret
  exact ⟨B, d, rfl, H1.out, H2.out, H3.out⟩
end Go.Proofs.Ytdjmfjmijpfijaa
