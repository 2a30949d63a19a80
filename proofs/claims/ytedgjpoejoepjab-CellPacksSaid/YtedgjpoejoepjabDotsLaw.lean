/-
  Cells: Back of the reference, few, by contract; CellDots, walked.
-/
import Derived.Test.YtedgjpoejoepjabLivesC
namespace Go.Proofs.Ytedgjpoejoepjab
open Go.RowKit
set_option linter.unusedVariables false
set_option linter.unusedSimpArgs false

namespace Ce
def flip (x : Int) : Int := if x ≤ 3 then x + 3 else x - 3
def goodB (xs : List Int) : Bool := xs.all (fun x => decide (1 ≤ x) && decide (x ≤ 6)) && decide xs.Nodup
theorem of_goodB {xs : List Int} (h : goodB xs = true) : of xs = ((sumB xs : Int), 0) := by
  unfold goodB at h
  rw [Bool.and_eq_true, List.all_eq_true, decide_eq_true_iff] at h
  refine of_ok (fun x hx => ?_) h.2
  have := h.1 x hx
  rw [Bool.and_eq_true, decide_eq_true_iff, decide_eq_true_iff] at this
  exact this
set_option maxRecDepth 100000 in
theorem facts (c : Nat) (hc : c < 256) : of (dots c) = (((c % 64 : Nat) : Int), 0) ∧ of ((dots c).map flip) = (((back c : Nat) : Int), 0) ∧ back (back c) = c % 64 ∧ (dots (back c)).length = (dots c).length ∧ back c < 64 := by
  have H : ∀ c : Fin 256, goodB (dots c.val) = true ∧ sumB (dots c.val) = c.val % 64 ∧ goodB ((dots c.val).map flip) = true ∧ sumB ((dots c.val).map flip) = back c.val ∧ back (back c.val) = c.val % 64 ∧ (dots (back c.val)).length = (dots c.val).length ∧ back c.val < 64 := by decide +kernel
  obtain ⟨h1, h2, h3, h4, h5, h6, h7⟩ := H ⟨c, hc⟩
  exact ⟨by rw [of_goodB h1, h2], by rw [of_goodB h3, h4], h5, h6, h7⟩
theorem dots_range (c : Nat) : ∀ x ∈ dots c, 1 ≤ x ∧ x ≤ 6 := fun x hx => by
  rw [dots_map, List.mem_map] at hx
  obtain ⟨k, hk, rfl⟩ := hx
  have := dotsN_lt c k hk
  omega
theorem dots_len6 (c : Nat) : (dots c).length ≤ 6 := dotsTo_len c 6
end Ce
set_option maxHeartbeats 1000000 in
set_option maxRecDepth 100000 in
theorem refBack_any (c : UInt8) (w : World) :
    Calls Try.prog 13 #[.int .u8 ((c.toNat : Nat) : Int)] w fun e w' => e = .returned (.int .u8 ((Ce.back c.toNat : Nat) : Int)) ∧ Below w.heap.size w w' := by
  obtain ⟨i0, hi, hz0, hz1, hz2⟩ := info_parts intInfo
  have HI := hide hi
  have HZ0 := hide hz0
  have HZ1 := hide hz1
  have HZ2 := hide hz2
  have HF := hide (Ce.facts c.toNat c.toNat_lt).2.1
  have CD := hide (fun W => refDots_any c W)
  have HRG := hide (Ce.dots_range c.toNat)
  have hl6 := Ce.dots_len6 c.toNat
  generalize Ce.back c.toNat = bk at *
  generalize c.toNat = n at *
  generalize Ce.dots n = ds at *
  have CD2 := hide (fun W => (show Calls Try.prog 11 #[.int .u8 (n : Int)] W fun e w' => ∃ A cap, e = .returned (.slice A ds.length cap) ∧ Reads w' w'.heap.size 1 A ds.length (ds.map (Value.int .i64)) ∧ Below W.heap.size W w' from
    (CD.out W).mono fun e w' ⟨v, he, hown, hb⟩ => by
      obtain ⟨A, cap, hv, _, _⟩ := own_slice hown
      subst hv
      exact ⟨A, cap, he, Reads.of_own hown, hb⟩))
  have hl6i : (ds.length : Int) ≤ 6 := by omega
  clear CD hi hz0 hz1 hz2
  go_enter Try.func13, Try.ntmps13
  go_wp2_with (go_at_call 11; refine (CD2.out w).mono ?_; rintro e x1 ⟨A1, cap1, rfl, hrd, hb⟩; have HRD := hide hrd; have X1 := hide hb; clear hrd hb)
  have HXX := hide (Below.refl x1.heap.size x1)
  go_loopw [5, 3] (fun s5 s3 wr => ∃ i : Nat, i ≤ ds.length ∧ s5 = .int .i64 (i : Int) ∧ wr.ownsRow x1.heap.size 3 1 s3 i (((ds.take i).map Ce.flip).map (Value.int .i64)) ∧ Below x1.heap.size x1 wr) (fun s5 _ _ => ds.length - (intOf s5).toNat)
  case atStart => exact ⟨0, by omega, rfl, World.ownsRow_nil _ _ _ _, HXX.out⟩
  case round =>
    obtain ⟨i, hi, rfl, hown, hbel⟩ := hrel
    obtain ⟨wd, rfl⟩ : ∃ wd, wd = wr := ⟨wr, rfl⟩
    by_cases hlt : i < ds.length
    · obtain ⟨ad, rfl, hil, hc0⟩ := reads_int HRD.out i hlt
      have hc : wd.cell? (ad.add i) = some (.int .i64 ds[i]) := by rw [hbel.cell (block_lt_of_cell hc0)]; exact hc0
      have hi0 : (0 : Int) ≤ (i : Int) := by omega
      have hi1 : (i : Int) < (ds.length : Int) := by omega
      obtain ⟨hx1, hx6⟩ := HRG.out _ (List.getElem_mem hil)
      have HNX := hide (show ((ds.take (i + 1)).map Ce.flip).map (Value.int .i64) = ((ds.take i).map Ce.flip).map (Value.int .i64) ++ [.int .i64 (Ce.flip ds[i])] by rw [List.take_succ_eq_append_getElem hil, List.map_append, List.map_append]; rfl)
      have hal : ∀ o, (wd.alloc o).cell? (ad.add i) = some (.int .i64 ds[i]) := fun o => by rw [World.cell?_alloc_lt wd o _ (block_lt_of_cell hc)]; exact hc
      generalize ds[i] = x at *
      have HO := hide hown
      have HB := hide hbel
      have HLT := hide hlt
      have hsz := hbel.size
      clear hc0 hown hbel hlt hil
      by_cases h3 : x ≤ 3
      · have hfl : Ce.flip x = x + 3 := by unfold Ce.flip; rw [if_pos h3]
        rw [hfl] at HNX
        go_wp2_with (at_builtin; refine wpList_append_any _ rfl (.tmp 21) (.tmp 27) 22 rfl x1.heap.size 3 i0 (.int .i64 0) 1 8 Try.underlying22 HI.out HZ0.out HZ1.out HZ2.out rfl (by omega) _ i _ rfl (HO.out.alloc _) _ (some ⟨wd.heap.size, 0, none⟩) 1 1 [.int .i64 (x + 3)] rfl (reads_new wd _ _) (by simp [Value.oneCell']) (by unfold maxLen; omega) (by omega) (by simp; omega) ?_; intro v2 w2 hown2 hgrow2 hat2; have HO2 := hide hown2; have HB2 := hide (HB.out.trans ((below_alloc' wd _ hsz).trans (below_grown hgrow2 (HO.out.alloc _) (by simp; omega)))); clear hown2 hgrow2 hat2)
        exact ⟨⟨i + 1, HLT.out, by go_num, by rw [HNX.out]; exact HO2.out, HB2.out⟩, by have := HLT.out; simp [intOf]; omega⟩
      · have hfl : Ce.flip x = x - 3 := by unfold Ce.flip; rw [if_neg h3]
        rw [hfl] at HNX
        go_wp2_with (at_builtin; refine wpList_append_any _ rfl (.tmp 29) (.tmp 35) 22 rfl x1.heap.size 3 i0 (.int .i64 0) 1 8 Try.underlying22 HI.out HZ0.out HZ1.out HZ2.out rfl (by omega) _ i _ rfl (HO.out.alloc _) _ (some ⟨wd.heap.size, 0, none⟩) 1 1 [.int .i64 (x - 3)] rfl (reads_new wd _ _) (by simp [Value.oneCell']) (by unfold maxLen; omega) (by omega) (by simp; omega) ?_; intro v2 w2 hown2 hgrow2 hat2; have HO2 := hide hown2; have HB2 := hide (HB.out.trans ((below_alloc' wd _ hsz).trans (below_grown hgrow2 (HO.out.alloc _) (by simp; omega)))); clear hown2 hgrow2 hat2)
        exact ⟨⟨i + 1, HLT.out, by go_num, by rw [HNX.out]; exact HO2.out, HB2.out⟩, by have := HLT.out; simp [intOf]; omega⟩
    · obtain rfl : i = ds.length := by omega
      obtain ⟨A2, c2, rfl, hc2, _⟩ := own_slice hown
      have CO := hide (refOf_any A2 ds.length c2 (ds.map Ce.flip) wd (by have := Reads.of_own hown; rwa [List.take_length] at this) (by omega))
      rw [HF.out] at CO
      have HB := hide (X1.out.trans (hbel.mono X1.out.size))
      have hsz := HB.out.size
      clear hown hbel hlt
      go_wp2_with (go_at_call 8; refine (unhide CO).mono ?_; rintro e x2 ⟨rfl, hb⟩; have X2 := hide (HB.out.trans (hb.mono hsz)); clear hb)
      go_ret
      exact ⟨rfl, X2.out⟩
theorem reads_take {w : World} {B n : Nat} {A : Option Addr} {xs : List Value} (hr : Reads w B 1 A n xs) (m : Nat) (hm : m ≤ n) : Reads w B 1 A m (xs.take m) := by
  have hl : xs.length = n := by have := hr.1; omega
  refine ⟨by rw [List.length_take]; omega, fun h0 => ?_⟩
  obtain ⟨ad, e, hb, hc⟩ := hr.2 (by omega)
  refine ⟨ad, e, hb, fun j u hj => hc j u ?_⟩
  rw [List.getElem?_take] at hj
  split at hj
  · exact hj
  · cases hj
set_option maxHeartbeats 1000000 in
set_option maxRecDepth 100000 in
theorem refFew_any (A : Option Addr) (n c most : Nat) (l : List UInt8) (w : World) (hr : Reads w w.heap.size 1 A n (BV l)) (hnc : n ≤ c) (hA : A = none → c = 0) (hc : c ≤ maxLen) (hm : most ≤ 1000) :
    Calls Try.prog 42 #[.slice A n c, .int .i64 (most : Int)] w fun e w' => ∃ B d, e = .returned (.slice B (min n most) d) ∧ Reads w' w'.heap.size 1 B (min n most) (BV (l.take (min n most))) ∧ min n most ≤ d ∧ Below w.heap.size w w' := by
  obtain ⟨i0, hi, hz0, hz1, hz2⟩ := info_parts byteInfo
  have HI := hide hi
  have HZ0 := hide hz0
  have HZ1 := hide hz1
  have HZ2 := hide hz2
  have hrt := reads_take hr (min n most) (by omega)
  rw [show (BV l).take (min n most) = BV (l.take (min n most)) by unfold BV; rw [List.map_take]] at hrt
  have HRT := hide hrt
  have hmc : (min n most : Nat) ≤ 1000 := by omega
  have HB0 := hide (Below.refl w.heap.size w)
  have hc9 : (c : Int) ≤ 9223372036854775807 := by unfold maxLen at hc; omega
  have hncI : (n : Int) ≤ (c : Int) := by omega
  have hn0 : (0 : Int) ≤ (n : Int) := by omega
  have hm0 : (0 : Int) ≤ (most : Int) := by omega
  have hm1 : (most : Int) ≤ 1000 := by omega
  clear hi hz0 hz1 hz2 hrt hr hc
  by_cases hle : n ≤ most
  · rw [Nat.min_eq_left hle] at *
    have h1 : ¬ ((most : Int) < (n : Int)) := by omega
    rcases A with _ | ad
    · have hc0 := hA rfl
      subst hc0
      have hn00 : n = 0 := by omega
      subst hn00
      clear hA
      go_enter Try.func42, Try.ntmps42
      go_wp2_with (at_builtin; refine wpList_append_any _ rfl (.tmp 6) (.tmp 12) 23 rfl w.heap.size 5 i0 (.int .u8 0) 1 1 Try.underlying23 HI.out HZ0.out HZ1.out HZ2.out rfl (by omega) _ 0 [] rfl (World.ownsRow_nil _ _ _ _) _ none 0 0 (BV (l.take 0)) rfl HRT.out (BV_one _) (by unfold maxLen; omega) (by omega) (Nat.le_refl _) ?_; intro v2 w2 hown2 hgrow2 hat2; have HO2 := hide hown2; have hgrow3 : w.grownBy w2 none := hgrow2; have HB2 := hide (HB0.out.grown hgrow3 (Nat.le_refl _) (fun k hk => by cases hk)); clear hown2 hgrow2 hat2 hgrow3)
      go_ret
      have ho : w2.ownsRow w.heap.size 5 1 v2 0 (BV (l.take 0)) := HO2.out
      obtain ⟨B, d, hv, hd, _⟩ := own_slice ho
      subst hv
      exact ⟨B, ⟨d, rfl⟩, Reads.of_own ho, HB2.out⟩
    · go_enter Try.func42, Try.ntmps42
      go_wp2_with (at_builtin; refine wpList_append_any _ rfl (.tmp 6) (.tmp 12) 23 rfl w.heap.size 5 i0 (.int .u8 0) 1 1 Try.underlying23 HI.out HZ0.out HZ1.out HZ2.out rfl (by omega) _ 0 [] rfl (World.ownsRow_nil _ _ _ _) _ (some ad) n c (BV (l.take n)) rfl HRT.out (BV_one _) (by unfold maxLen; omega) (by omega) (Nat.le_refl _) ?_; intro v2 w2 hown2 hgrow2 hat2; have HO2 := hide hown2; have hgrow3 : w.grownBy w2 none := hgrow2; have HB2 := hide (HB0.out.grown hgrow3 (Nat.le_refl _) (fun k hk => by cases hk)); clear hown2 hgrow2 hat2 hgrow3)
      go_ret
      have ho := HO2.out
      rw [Nat.zero_add, List.nil_append] at ho
      obtain ⟨B, d, hv, hd, _⟩ := own_slice ho
      subst hv
      exact ⟨B, d, rfl, Reads.of_own ho, hd, HB2.out⟩
  · rw [Nat.min_eq_right (by omega)] at *
    have h1 : ((most : Int) < (n : Int)) := by omega
    rcases A with _ | ad
    · have hc0 := hA rfl
      omega
    · have h2 : (most : Int) ≤ (c : Int) := by omega
      go_enter Try.func42, Try.ntmps42
      go_wp2_with (at_builtin; refine wpList_append_any _ rfl (.tmp 6) (.tmp 12) 23 rfl w.heap.size 5 i0 (.int .u8 0) 1 1 Try.underlying23 HI.out HZ0.out HZ1.out HZ2.out rfl (by omega) _ 0 [] rfl (World.ownsRow_nil _ _ _ _) _ (some ad) most c (BV (l.take most)) rfl HRT.out (BV_one _) (by unfold maxLen; omega) (by omega) (Nat.le_refl _) ?_; intro v2 w2 hown2 hgrow2 hat2; have HO2 := hide hown2; have hgrow3 : w.grownBy w2 none := hgrow2; have HB2 := hide (HB0.out.grown hgrow3 (Nat.le_refl _) (fun k hk => by cases hk)); clear hown2 hgrow2 hat2 hgrow3)
      go_ret
      have ho := HO2.out
      rw [Nat.zero_add, List.nil_append] at ho
      obtain ⟨B, d, hv, hd, _⟩ := own_slice ho
      subst hv
      exact ⟨B, d, rfl, Reads.of_own ho, hd, HB2.out⟩
set_option maxHeartbeats 400000 in
set_option maxRecDepth 100000 in
theorem few_any (A : Option Addr) (n c most : Nat) (l : List UInt8) (w : World) (hr : Reads w w.heap.size 1 A n (BV l)) (hnc : n ≤ c) (hA : A = none → c = 0) (hc : c ≤ maxLen) (hm : most ≤ 1000) :
    Calls Try.prog 15 #[.slice A n c, .int .i64 (most : Int)] w fun e w' => ∃ B d, e = .returned (.slice B (min n most) d) ∧ Reads w' w'.heap.size 1 B (min n most) (BV (l.take (min n most))) ∧ min n most ≤ d ∧ Below w.heap.size w w' := by
  have CF := hide (refFew_any A n c most l w hr hnc hA hc hm)
  clear hr hnc hA hc hm
  go_enter Try.func15, Try.ntmps15
  go_wp2_with (go_at_call 42; refine (unhide CF).mono ?_; rintro e w1 ⟨B, d, rfl, h1, h2, h3⟩; have H1 := hide h1; have H2 := hide h2; have H3 := hide h3; clear h1 h2 h3)
  go_ret
  exact ⟨B, d, rfl, H1.out, H2.out, H3.out⟩
set_option maxHeartbeats 2000000 in
set_option maxRecDepth 100000 in
theorem dots_walk (c : UInt8) (A B : Option Addr) (n k m k2 : Nat) (xs : List Int) (l : List UInt8) (w : World) (hr : Reads w w.heap.size 1 A n (xs.map (Value.int .i64))) (hnk : n ≤ k) (hkA : A = none → k = 0) (hk : k ≤ maxLen)
    (hl : Reads w w.heap.size 1 B m (BV l)) (hmk : m ≤ k2) (hkB : B = none → k2 = 0) (hk2 : k2 ≤ maxLen) :
    Calls Try.prog 3 #[.int .u8 ((c.toNat : Nat) : Int), .slice A n k, .slice B m k2] w fun e w' => e = .returned (.bool true) ∧ Below w.heap.size w w' := by
  have HLV := hide lives_any
  obtain ⟨p, hp⟩ : ∃ p, p = min n 8 := ⟨_, rfl⟩
  have hrt := reads_take hr p (by omega)
  rw [show (xs.map (Value.int .i64)).take p = (xs.take p).map (Value.int .i64) by rw [List.map_take]] at hrt
  have CO := hide (fun (W : World) (d : Nat) (hb : Below w.heap.size w W) => of_any A p d (xs.take p) W ((hrt.below hb).more hb.size) (by omega))
  have CR := hide (fun (W : World) (d : Nat) (hb : Below w.heap.size w W) => refOf_any A p d (xs.take p) W ((hrt.below hb).more hb.size) (by omega))
  have CF := hide (fun (W : World) (hb : Below w.heap.size w W) => (show Calls Try.prog 15 #[.slice B m k2, .int .i64 40] W fun e w' => ∃ B d, e = .returned (.slice B (min m 40) d) ∧ Reads w' w'.heap.size 1 B (min m 40) (BV (l.take (min m 40))) ∧ min m 40 ≤ d ∧ Below W.heap.size W w' from few_any B m k2 40 l W ((hl.below hb).more hb.size) hmk hkB hk2 (by omega)))
  obtain ⟨q, hq⟩ : ∃ q, q = min m 40 := ⟨_, rfl⟩
  rw [← hq] at CF
  have hq40 : q ≤ 40 := by omega
  have CV := hide (fun (W : World) (A' : Option Addr) (d : Nat) (hr : Reads W W.heap.size 1 A' q (BV (l.take q))) => valid_any A' q d (l.take q) W hr (by omega))
  have CRV := hide (fun (W : World) (A' : Option Addr) (d : Nat) (hr : Reads W W.heap.size 1 A' q (BV (l.take q))) => refValid_any A' q d (l.take q) W hr (by omega))
  obtain ⟨hf1, _, hf3, hf4, hf5⟩ := Ce.facts c.toNat c.toNat_lt
  have hb256 := c.toNat_lt
  have CB := hide (fun W => back_any c W)
  have CRB := hide (fun W => refBack_any c W)
  have hbk : (UInt8.ofNat (Ce.back c.toNat)).toNat = Ce.back c.toNat := by rw [UInt8.toNat_ofNat']; omega
  have CBB := hide (fun W => (show Calls Try.prog 12 #[.int .u8 ((Ce.back c.toNat : Nat) : Int)] W fun e w' => e = .returned (.int .u8 ((c.toNat % 64 : Nat) : Int)) ∧ W = w' from by
    have := back_any (UInt8.ofNat (Ce.back c.toNat)) W
    rwa [hbk, hf3] at this))
  have CD := hide (fun W => (show Calls Try.prog 10 #[.int .u8 ((c.toNat : Nat) : Int)] W fun e w' => ∃ A cap, e = .returned (.slice A (Ce.dots c.toNat).length cap) ∧ Reads w' w'.heap.size 1 A (Ce.dots c.toNat).length ((Ce.dots c.toNat).map (Value.int .i64)) ∧ Below W.heap.size W w' from
    (dots_any c W).mono fun e w' ⟨v, he, hown, hb⟩ => by
      obtain ⟨A, cap, hv, _, _⟩ := own_slice hown
      subst hv
      exact ⟨A, cap, he, Reads.of_own hown, hb⟩))
  have CRD := hide (fun W => (show Calls Try.prog 11 #[.int .u8 ((c.toNat : Nat) : Int)] W fun e w' => ∃ A cap, e = .returned (.slice A (Ce.dots c.toNat).length cap) ∧ Reads w' w'.heap.size 1 A (Ce.dots c.toNat).length ((Ce.dots c.toNat).map (Value.int .i64)) ∧ Below W.heap.size W w' from
    (refDots_any c W).mono fun e w' ⟨v, he, hown, hb⟩ => by
      obtain ⟨A, cap, hv, _, _⟩ := own_slice hown
      subst hv
      exact ⟨A, cap, he, Reads.of_own hown, hb⟩))
  have CDB := hide (fun W => (show Calls Try.prog 10 #[.int .u8 ((Ce.back c.toNat : Nat) : Int)] W fun e w' => ∃ A cap, e = .returned (.slice A (Ce.dots c.toNat).length cap) ∧ Below W.heap.size W w' from by
    have := dots_any (UInt8.ofNat (Ce.back c.toNat)) W
    rw [hbk] at this
    refine this.mono fun e w' ⟨v, he, hown, hb⟩ => ?_
    rw [hf4] at hown
    obtain ⟨A, cap, hv, _, _⟩ := own_slice hown
    subst hv
    exact ⟨A, cap, he, hb⟩))
  have CS := hide (fun (W : World) (A1 A2 : Option Addr) (d1 d2 : Nat) (h1 : Reads W W.heap.size 1 A1 (Ce.dots c.toNat).length ((Ce.dots c.toNat).map (Value.int .i64))) (h2 : Reads W W.heap.size 1 A2 (Ce.dots c.toNat).length ((Ce.dots c.toNat).map (Value.int .i64))) => sameInts_eq A1 A2 (Ce.dots c.toNat).length d1 d2 (Ce.dots c.toNat) W h1 h2 (by have := Ce.dots_len6 c.toNat; unfold maxLen; omega))
  have COD := hide (fun (W : World) (A1 : Option Addr) (d1 : Nat) (h1 : Reads W W.heap.size 1 A1 (Ce.dots c.toNat).length ((Ce.dots c.toNat).map (Value.int .i64))) => (show Calls Try.prog 7 #[.slice A1 (Ce.dots c.toNat).length d1] W fun e w' => e = .returned (.tuple #[.int .u8 ((c.toNat % 64 : Nat) : Int), .int .i64 0]) ∧ Below W.heap.size W w' from by
    have := of_any A1 (Ce.dots c.toNat).length d1 (Ce.dots c.toNat) W h1 (by have := Ce.dots_len6 c.toNat; omega)
    rwa [hf1] at this))
  have hdl := Ce.dots_len6 c.toNat
  have hc0 : (0 : Int) ≤ ((c.toNat : Nat) : Int) := by omega
  have hc1 : ((c.toNat : Nat) : Int) < 256 := by omega
  have hrem : ((c.toNat : Nat) : Int) % 64 = ((c.toNat % 64 : Nat) : Int) := by omega
  generalize (Ce.of (xs.take p)).1 = o1 at *
  generalize (Ce.of (xs.take p)).2 = o2 at *
  generalize Ce.valid (l.take q) = vb at *
  generalize Ce.back c.toNat = bk at *
  generalize Ce.dots c.toNat = ds at *
  generalize c.toNat % 64 = c6 at *
  generalize c.toNat = cn at *
  have e1 : (o1 != o1) = false := by simp
  have e2 : (o2 != o2) = false := by simp
  have e3 : (vb != vb) = false := by simp
  have e4 : (((bk : Nat) : Int) != ((bk : Nat) : Int)) = false := by simp
  have e5 : (((c6 : Nat) : Int) == ((c6 : Nat) : Int)) = true := by simp
  have e6 : (((ds.length : Nat) : Int) == ((ds.length : Nat) : Int)) = true := by simp
  have HB0 := hide (Below.refl w.heap.size w)
  have hnkI : (n : Int) ≤ (k : Int) := by omega
  have hn0 : (0 : Int) ≤ (n : Int) := by omega
  have hkm : (k : Int) ≤ 9223372036854775807 := by unfold maxLen at hk; omega
  have HHQ := hide hq
  clear hr hl hrt hk hk2 hmk hkB hf1 hf3 hf4 hf5 hb256 hbk hq
  rcases A with _ | ad
  · have hk0 := hkA rfl
    subst hk0
    have hn00 : n = 0 := by omega
    subst hn00
    have hp0 : p = 0 := by omega
    subst hp0
    clear hp hkA
    go_enter Try.func3, Try.ntmps3
    go_wp2_with (first
    | (go_at_call 7; (with_reducible refine (unhide CO w _ HB0.out).mono ?_); rintro e w1 ⟨rfl, hb⟩; have H1 := hide (HB0.out.trans (hb.mono HB0.out.size)); clear hb)
    | (go_at_call 8; (with_reducible refine (unhide CR w1 _ H1.out).mono ?_); rintro e w2 ⟨rfl, hb⟩; have H2 := hide (H1.out.trans (hb.mono H1.out.size)); clear hb)
    | (go_at_call 10; (with_reducible refine (CD.out w2).mono ?_); rintro e w3 ⟨A3, d3, rfl, hr3, hb⟩; have H3 := hide (H2.out.trans (hb.mono H2.out.size)); have R3 := hide hr3; clear hr3; clear hb)
    | (go_at_call 11; (with_reducible refine (CRD.out w3).mono ?_); rintro e w4 ⟨A4, d4, rfl, hr4, hb⟩; have H4 := hide (H3.out.trans (hb.mono H3.out.size)); have R4 := hide hr4; have R3 := hide ((R3.out.below hb).more hb.size); clear hr4; clear hb)
    | (go_at_call 9; (with_reducible refine (unhide CS w4 _ _ _ _ R3.out R4.out).mono ?_); rintro e w5 ⟨rfl, hb⟩; have H5 := hide (H4.out.trans (hb.mono H4.out.size)); clear hb)
    | (go_at_call_of 12 (Value.int .u8 (cn : Int)); (with_reducible refine (CB.out _).mono ?_); rintro e w' ⟨rfl, rfl⟩)
    | (go_at_call_of 12 (Value.int .u8 (bk : Int)); (with_reducible refine (CBB.out _).mono ?_); rintro e w' ⟨rfl, rfl⟩)
    | (go_at_call 13; (with_reducible refine (CRB.out w5).mono ?_); rintro e w6 ⟨rfl, hb⟩; have H6 := hide (H5.out.trans (hb.mono H5.out.size)); clear hb)
    | (go_at_call 15; (with_reducible refine (unhide CF w6 H6.out).mono ?_); rintro e w7 ⟨B7, d7, rfl, hr7, _, hb⟩; have H7 := hide (H6.out.trans (hb.mono H6.out.size)); have R7 := hide hr7; clear hr7; clear hb)
    | (go_at_call 14; (with_reducible refine (unhide CV w7 _ _ R7.out).mono ?_); rintro e w8 ⟨rfl, hb⟩; have H8 := hide (H7.out.trans (hb.mono H7.out.size)); clear hb)
    | (go_at_call 15; (with_reducible refine (unhide CF w8 H8.out).mono ?_); rintro e w9 ⟨B9, d9, rfl, hr9, _, hb⟩; have H9 := hide (H8.out.trans (hb.mono H8.out.size)); have R9 := hide hr9; clear hr9; clear hb)
    | (go_at_call 16; (with_reducible refine (unhide CRV w9 _ _ R9.out).mono ?_); rintro e w10 ⟨rfl, hb⟩; have H10 := hide (H9.out.trans (hb.mono H9.out.size)); clear hb)
    | (go_at_call 10; (with_reducible refine (CD.out w10).mono ?_); rintro e w11 ⟨A11, d11, rfl, hr11, hb⟩; have H11 := hide (H10.out.trans (hb.mono H10.out.size)); have R11 := hide hr11; clear hr11; clear hb)
    | (go_at_call 7; (with_reducible refine (unhide COD w11 _ _ R11.out).mono ?_); rintro e w12 ⟨rfl, hb⟩; have H12 := hide (H11.out.trans (hb.mono H11.out.size)); clear hb)
    | (go_at_call 10; (with_reducible refine (CDB.out w12).mono ?_); rintro e w13 ⟨A13, d13, rfl, hb⟩; have H13 := hide (H12.out.trans (hb.mono H12.out.size)); clear hb)
    | (go_at_call 10; (with_reducible refine (CD.out w13).mono ?_); rintro e w14 ⟨A14, d14, rfl, hr14, hb⟩; have H14 := hide (H13.out.trans (hb.mono H13.out.size)); clear hr14; clear hb)
    | (go_at_call 17; (with_reducible refine (unhide HLV w14).mono ?_); rintro e w15 ⟨rfl, hb⟩; have H15 := hide (H14.out.trans (hb.mono H14.out.size)); clear hb))
    go_ret
    exact ⟨rfl, H15.out⟩
  · by_cases h8 : n ≤ 8
    · obtain rfl : p = n := by omega
      have h81 : ¬ ((8 : Int) < (p : Int)) := by omega
      clear hp hkA
      go_enter Try.func3, Try.ntmps3
      go_wp2_with (first
      | (go_at_call 7; (with_reducible refine (unhide CO w _ HB0.out).mono ?_); rintro e w1 ⟨rfl, hb⟩; have H1 := hide (HB0.out.trans (hb.mono HB0.out.size)); clear hb)
      | (go_at_call 8; (with_reducible refine (unhide CR w1 _ H1.out).mono ?_); rintro e w2 ⟨rfl, hb⟩; have H2 := hide (H1.out.trans (hb.mono H1.out.size)); clear hb)
      | (go_at_call 10; (with_reducible refine (CD.out w2).mono ?_); rintro e w3 ⟨A3, d3, rfl, hr3, hb⟩; have H3 := hide (H2.out.trans (hb.mono H2.out.size)); have R3 := hide hr3; clear hr3; clear hb)
      | (go_at_call 11; (with_reducible refine (CRD.out w3).mono ?_); rintro e w4 ⟨A4, d4, rfl, hr4, hb⟩; have H4 := hide (H3.out.trans (hb.mono H3.out.size)); have R4 := hide hr4; have R3 := hide ((R3.out.below hb).more hb.size); clear hr4; clear hb)
      | (go_at_call 9; (with_reducible refine (unhide CS w4 _ _ _ _ R3.out R4.out).mono ?_); rintro e w5 ⟨rfl, hb⟩; have H5 := hide (H4.out.trans (hb.mono H4.out.size)); clear hb)
      | (go_at_call_of 12 (Value.int .u8 (cn : Int)); (with_reducible refine (CB.out _).mono ?_); rintro e w' ⟨rfl, rfl⟩)
      | (go_at_call_of 12 (Value.int .u8 (bk : Int)); (with_reducible refine (CBB.out _).mono ?_); rintro e w' ⟨rfl, rfl⟩)
      | (go_at_call 13; (with_reducible refine (CRB.out w5).mono ?_); rintro e w6 ⟨rfl, hb⟩; have H6 := hide (H5.out.trans (hb.mono H5.out.size)); clear hb)
      | (go_at_call 15; (with_reducible refine (unhide CF w6 H6.out).mono ?_); rintro e w7 ⟨B7, d7, rfl, hr7, _, hb⟩; have H7 := hide (H6.out.trans (hb.mono H6.out.size)); have R7 := hide hr7; clear hr7; clear hb)
      | (go_at_call 14; (with_reducible refine (unhide CV w7 _ _ R7.out).mono ?_); rintro e w8 ⟨rfl, hb⟩; have H8 := hide (H7.out.trans (hb.mono H7.out.size)); clear hb)
      | (go_at_call 15; (with_reducible refine (unhide CF w8 H8.out).mono ?_); rintro e w9 ⟨B9, d9, rfl, hr9, _, hb⟩; have H9 := hide (H8.out.trans (hb.mono H8.out.size)); have R9 := hide hr9; clear hr9; clear hb)
      | (go_at_call 16; (with_reducible refine (unhide CRV w9 _ _ R9.out).mono ?_); rintro e w10 ⟨rfl, hb⟩; have H10 := hide (H9.out.trans (hb.mono H9.out.size)); clear hb)
      | (go_at_call 10; (with_reducible refine (CD.out w10).mono ?_); rintro e w11 ⟨A11, d11, rfl, hr11, hb⟩; have H11 := hide (H10.out.trans (hb.mono H10.out.size)); have R11 := hide hr11; clear hr11; clear hb)
      | (go_at_call 7; (with_reducible refine (unhide COD w11 _ _ R11.out).mono ?_); rintro e w12 ⟨rfl, hb⟩; have H12 := hide (H11.out.trans (hb.mono H11.out.size)); clear hb)
      | (go_at_call 10; (with_reducible refine (CDB.out w12).mono ?_); rintro e w13 ⟨A13, d13, rfl, hb⟩; have H13 := hide (H12.out.trans (hb.mono H12.out.size)); clear hb)
      | (go_at_call 10; (with_reducible refine (CD.out w13).mono ?_); rintro e w14 ⟨A14, d14, rfl, hr14, hb⟩; have H14 := hide (H13.out.trans (hb.mono H13.out.size)); clear hr14; clear hb)
      | (go_at_call 17; (with_reducible refine (unhide HLV w14).mono ?_); rintro e w15 ⟨rfl, hb⟩; have H15 := hide (H14.out.trans (hb.mono H14.out.size)); clear hb))
      go_ret
      exact ⟨rfl, H15.out⟩
    · have hp8 : p = 8 := by omega
      subst hp8
      have h81 : ((8 : Int) < (n : Int)) := by omega
      have h82 : ((8 : Int) ≤ (k : Int)) := by omega
      clear hp hkA
      go_enter Try.func3, Try.ntmps3
      go_wp2_with (first
      | (go_at_call 7; (with_reducible refine (unhide CO w _ HB0.out).mono ?_); rintro e w1 ⟨rfl, hb⟩; have H1 := hide (HB0.out.trans (hb.mono HB0.out.size)); clear hb)
      | (go_at_call 8; (with_reducible refine (unhide CR w1 _ H1.out).mono ?_); rintro e w2 ⟨rfl, hb⟩; have H2 := hide (H1.out.trans (hb.mono H1.out.size)); clear hb)
      | (go_at_call 10; (with_reducible refine (CD.out w2).mono ?_); rintro e w3 ⟨A3, d3, rfl, hr3, hb⟩; have H3 := hide (H2.out.trans (hb.mono H2.out.size)); have R3 := hide hr3; clear hr3; clear hb)
      | (go_at_call 11; (with_reducible refine (CRD.out w3).mono ?_); rintro e w4 ⟨A4, d4, rfl, hr4, hb⟩; have H4 := hide (H3.out.trans (hb.mono H3.out.size)); have R4 := hide hr4; have R3 := hide ((R3.out.below hb).more hb.size); clear hr4; clear hb)
      | (go_at_call 9; (with_reducible refine (unhide CS w4 _ _ _ _ R3.out R4.out).mono ?_); rintro e w5 ⟨rfl, hb⟩; have H5 := hide (H4.out.trans (hb.mono H4.out.size)); clear hb)
      | (go_at_call_of 12 (Value.int .u8 (cn : Int)); (with_reducible refine (CB.out _).mono ?_); rintro e w' ⟨rfl, rfl⟩)
      | (go_at_call_of 12 (Value.int .u8 (bk : Int)); (with_reducible refine (CBB.out _).mono ?_); rintro e w' ⟨rfl, rfl⟩)
      | (go_at_call 13; (with_reducible refine (CRB.out w5).mono ?_); rintro e w6 ⟨rfl, hb⟩; have H6 := hide (H5.out.trans (hb.mono H5.out.size)); clear hb)
      | (go_at_call 15; (with_reducible refine (unhide CF w6 H6.out).mono ?_); rintro e w7 ⟨B7, d7, rfl, hr7, _, hb⟩; have H7 := hide (H6.out.trans (hb.mono H6.out.size)); have R7 := hide hr7; clear hr7; clear hb)
      | (go_at_call 14; (with_reducible refine (unhide CV w7 _ _ R7.out).mono ?_); rintro e w8 ⟨rfl, hb⟩; have H8 := hide (H7.out.trans (hb.mono H7.out.size)); clear hb)
      | (go_at_call 15; (with_reducible refine (unhide CF w8 H8.out).mono ?_); rintro e w9 ⟨B9, d9, rfl, hr9, _, hb⟩; have H9 := hide (H8.out.trans (hb.mono H8.out.size)); have R9 := hide hr9; clear hr9; clear hb)
      | (go_at_call 16; (with_reducible refine (unhide CRV w9 _ _ R9.out).mono ?_); rintro e w10 ⟨rfl, hb⟩; have H10 := hide (H9.out.trans (hb.mono H9.out.size)); clear hb)
      | (go_at_call 10; (with_reducible refine (CD.out w10).mono ?_); rintro e w11 ⟨A11, d11, rfl, hr11, hb⟩; have H11 := hide (H10.out.trans (hb.mono H10.out.size)); have R11 := hide hr11; clear hr11; clear hb)
      | (go_at_call 7; (with_reducible refine (unhide COD w11 _ _ R11.out).mono ?_); rintro e w12 ⟨rfl, hb⟩; have H12 := hide (H11.out.trans (hb.mono H11.out.size)); clear hb)
      | (go_at_call 10; (with_reducible refine (CDB.out w12).mono ?_); rintro e w13 ⟨A13, d13, rfl, hb⟩; have H13 := hide (H12.out.trans (hb.mono H12.out.size)); clear hb)
      | (go_at_call 10; (with_reducible refine (CD.out w13).mono ?_); rintro e w14 ⟨A14, d14, rfl, hr14, hb⟩; have H14 := hide (H13.out.trans (hb.mono H13.out.size)); clear hr14; clear hb)
      | (go_at_call 17; (with_reducible refine (unhide HLV w14).mono ?_); rintro e w15 ⟨rfl, hb⟩; have H15 := hide (H14.out.trans (hb.mono H14.out.size)); clear hb))
      go_ret
      exact ⟨rfl, H15.out⟩
end Go.Proofs.Ytedgjpoejoepjab
