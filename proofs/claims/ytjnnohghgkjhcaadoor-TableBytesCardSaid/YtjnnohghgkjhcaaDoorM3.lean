/-
  Decoding lists of integers and of strings: the closure that decodes an element, by its contract.
-/
import Derived.Test.YtjnnohghgkjhcaaDoorM2
import Derived.Deep.QuietTactic
import Derived.BigQuiet
import Derived.Deep.DeepFit
import Derived.Deep.LoopGhost
import Derived.WalkSmall
import Derived.Deep.DeepCutAuto
import Derived.Deep.Upon
import Derived.Laws.IdiomStrings
import Derived.Test.YtjnnohghgkjhcaaDoorM1
import Derived.Maps.Own
import Derived.DeepKeys4
namespace Go.Proofs.YtjnnohghgkjhcaaDoor
open Go.RowKit
set_option linter.unusedVariables false
set_option linter.unusedSimpArgs false
namespace Wr
theorem decI_used (l : List UInt8) : (decI l).2.1 ≤ l.length := by
 by_cases h0 : (decI l).2.2 = 0
 ·exact (enc_dec (l := l) (n := (decI l).1) (u := (decI l).2.1) (by rw [← h0])).2.1
 ·rw [decI_err h0]; simp
theorem decB_used (l : List UInt8) : (decB l).2.1 ≤ l.length := by
 unfold decB
 by_cases h0 : (decLen 1 l).2.2 = 0
 ·rw [if_neg (by simpa using h0)]
  have := (decLen_ok (by omega) h0).2.2.2.2
  show (decLen 1 l).2.1 + (decLen 1 l).1.toNat ≤ l.length
  omega
 ·rw [if_pos (by simpa using h0)]; simp
end Wr
set_option maxHeartbeats 400000 in
set_option maxRecDepth 100000 in
theorem nextStr_far (pg pb pu ad : Addr) (n c used : Nat) (l : List UInt8) (w : World)
  (hg : w.cell? pg = some (.func (.func 58) #[] #[])) (hb : w.cell? pb = some (.slice (some ad) n c)) (hu : w.cell? pu = some (.int .i64 (used : Int))) (hf : w.frozen? pu = false)
  (hr : Reads w w.heap.size 1 (some ad) n (BV l)) (hm : n ≤ maxLen) (hnc : n ≤ c) (hun : used ≤ n) (hcu : ¬ c = used) :
  Calls Tryd.prog 69 #[.pointer (some pg), .pointer (some pb), .pointer (some pu)] w fun e w' =>
   e = .returned (.tuple #[.string (S (Wr.decB (l.drop used)).1), .int .i64 (Wr.decB (l.drop used)).2.2]) ∧ ∃ m, w' = (w.drewN m).setCell pu (.int .i64 ((used + (Wr.decB (l.drop used)).2.1 : Nat) : Int)) := by
 have hn : n = l.length := by have := hr.1; simp [BV] at this; omega
 have hcut := reads_rest hr used hun
 have H : ∀ k, Calls Tryd.prog 58 #[.slice (some (ad.add used)) (n - used) (c - used)] (w.drewN k) fun e w' => e = .returned (.tuple #[.string (S (Wr.decB (l.drop used)).1), .int .i64 (Wr.decB (l.drop used)).2.1, .int .i64 (Wr.decB (l.drop used)).2.2]) ∧ w.drewN k = w' :=
  fun k => getBytes_any _ _ _ _ _ (hcut.drewN k) (by unfold maxLen at *; omega) (by omega)
 have hle : (Wr.decB (l.drop used)).2.1 ≤ n - used := by
  have := Wr.decB_used (l.drop used)
  rw [List.length_drop] at this
  omega
 have hsum : ((used + (Wr.decB (l.drop used)).2.1 : Nat) : Int) = (used : Int) + ((Wr.decB (l.drop used)).2.1 : Int) := by omega
 rw [hsum]
 generalize Wr.decB (l.drop used) = d at *
 obtain ⟨z, u, er⟩ := d
 simp only at H hle ⊢
 unfold maxLen at hm
 have hbu : used + u ≤ 9223372036854775807 := by omega
 clear hr hn hcut hsum
 have H := hide H
 go_enter Tryd.func69, Tryd.ntmps69
 go_wp2
 go_quiet ((go_at_call 58; exact quiet_left (unhide H _)))
 go_wp2
 go_ret2
 exact ⟨rfl, _, rfl⟩
set_option maxHeartbeats 400000 in
set_option maxRecDepth 100000 in
theorem nextStr_end (pg pb pu ad : Addr) (n : Nat) (w : World)
  (hg : w.cell? pg = some (.func (.func 58) #[] #[])) (hb : w.cell? pb = some (.slice (some ad) n n)) (hu : w.cell? pu = some (.int .i64 (n : Int))) (hf : w.frozen? pu = false) (hm : n ≤ maxLen) :
  Calls Tryd.prog 69 #[.pointer (some pg), .pointer (some pb), .pointer (some pu)] w fun e w' =>
   e = .returned (.tuple #[.string (S (Wr.decB []).1), .int .i64 (Wr.decB []).2.2]) ∧ ∃ m, w' = (w.drewN m).setCell pu (.int .i64 (n : Int)) := by
 have H : ∀ k, Calls Tryd.prog 58 #[.slice (some ad) 0 0] (w.drewN k) fun e w' => e = .returned (.tuple #[.string (S (Wr.decB []).1), .int .i64 (Wr.decB []).2.1, .int .i64 (Wr.decB []).2.2]) ∧ w.drewN k = w' :=
  fun k => getBytes_any _ _ _ [] _ (reads_zero _ _ _) (by simp) (by simp)
 have hle : (Wr.decB []).2.1 = 0 := by have := Wr.decB_used []; simpa using this
 rw [hle] at H
 generalize Wr.decB [] = d at *
 obtain ⟨z, u, er⟩ := d
 simp only at H ⊢
 unfold maxLen at hm
 clear hle
 have H := hide H
 go_enter Tryd.func69, Tryd.ntmps69
 go_wp2
 go_quiet ((go_at_call 58; exact quiet_left (unhide H _)))
 go_wp2
 go_ret2
 exact ⟨rfl, _, rfl⟩
theorem nextStr_any (pg pb pu ad : Addr) (n c used : Nat) (l : List UInt8) (w : World)
  (hg : w.cell? pg = some (.func (.func 58) #[] #[])) (hb : w.cell? pb = some (.slice (some ad) n c)) (hu : w.cell? pu = some (.int .i64 (used : Int))) (hf : w.frozen? pu = false)
  (hr : Reads w w.heap.size 1 (some ad) n (BV l)) (hm : n ≤ maxLen) (hnc : n ≤ c) (hun : used ≤ n) :
  Calls Tryd.prog 69 #[.pointer (some pg), .pointer (some pb), .pointer (some pu)] w fun e w' =>
   e = .returned (.tuple #[.string (S (Wr.decB (l.drop used)).1), .int .i64 (Wr.decB (l.drop used)).2.2]) ∧ ∃ m, w' = (w.drewN m).setCell pu (.int .i64 ((used + (Wr.decB (l.drop used)).2.1 : Nat) : Int)) := by
 by_cases hcu : c = used
 ·have hn : n = l.length := by have := hr.1; simp [BV] at this; omega
  obtain rfl : n = c := by omega
  subst hcu
  have hd : l.drop n = [] := List.drop_eq_nil_of_le (by omega)
  have hle : (Wr.decB []).2.1 = 0 := by have := Wr.decB_used []; simpa using this
  rw [hd, hle]
  exact nextStr_end pg pb pu ad n w hg hb hu hf hm
 ·exact nextStr_far pg pb pu ad n c used l w hg hb hu hf hr hm hnc hun hcu
namespace Wr
def decLoop {α : Type} (get : List UInt8 → α × Nat × Int) : Nat → List UInt8 → List α × Nat × Int
 | 0, _ => ([], 0, 0)
 | k + 1, l =>
  if (get l).2.2 ≠ 0 then ([], 0, (get l).2.2)
  else if (decLoop get k (l.drop (get l).2.1)).2.2 ≠ 0 then ([], 0, (decLoop get k (l.drop (get l).2.1)).2.2)
  else ((get l).1 :: (decLoop get k (l.drop (get l).2.1)).1, (get l).2.1 + (decLoop get k (l.drop (get l).2.1)).2.1, 0)
def comb {α : Type} (vs : List α) (us : Nat) (r : List α × Nat × Int) : List α × Nat × Int :=
 if r.2.2 ≠ 0 then ([], 0, r.2.2) else (vs ++ r.1, us + r.2.1, 0)
def decList {α : Type} (size : Nat) (get : List UInt8 → α × Nat × Int) (l : List UInt8) : List α × Nat × Int :=
 if (decLen size l).2.2 ≠ 0 then ([], 0, (decLen size l).2.2)
 else comb [] (decLen size l).2.1 (decLoop get (decLen size l).1.toNat (l.drop (decLen size l).2.1))
theorem comb_err {α : Type} (get : List UInt8 → α × Nat × Int) (vs : List α) (us k : Nat) (l : List UInt8) (h : (get l).2.2 ≠ 0) : comb vs us (decLoop get (k + 1) l) = ([], 0, (get l).2.2) := by
 simp [comb, decLoop, h]
theorem comb_ok {α : Type} (get : List UInt8 → α × Nat × Int) (vs : List α) (us k : Nat) (l : List UInt8) (h : (get l).2.2 = 0) :
  comb vs us (decLoop get (k + 1) l) = comb (vs ++ [(get l).1]) (us + (get l).2.1) (decLoop get k (l.drop (get l).2.1)) := by
 unfold comb
 simp only [decLoop, h]
 by_cases h2 : (decLoop get k (l.drop (get l).2.1)).2.2 = 0
 ·simp [h2, Nat.add_assoc]
 ·simp [h2]
theorem comb_end {α : Type} (get : List UInt8 → α × Nat × Int) (vs : List α) (us : Nat) (l : List UInt8) : comb vs us (decLoop get 0 l) = (vs, us, 0) := by simp [comb, decLoop]
end Wr
theorem StrInfo : (Tryd.prog.info? 9).map (fun i => (i.zero, i.size, i.bytes)) = some (some (.string ByteArray.empty), 1, 16) := by kernel_rfl
structure MidStr (w : World) (ad : Addr) (n c z : Nat) (l : List UInt8) (R : List (List UInt8) × Nat × Int) (k us : Nat) (vs : List (List UInt8)) (wr : World) : Prop where
 len : vs.length = k
 le : us ≤ n
 rest : Wr.comb vs us (Wr.decLoop Wr.decB (z - k) (l.drop us)) = R
 b : Blk wr w.heap.size 23 #[.slice (some ad) n c]
 g : Blk wr (w.heap.size + 1) 81 #[.func (.func 58) #[] #[]]
 u : Blk wr (w.heap.size + 1 + 1) 3 #[.int .i64 (us : Int)]
 own : wr.ownsRow (w.heap.size + 1 + 1 + 1) 9 1 (.slice (some ⟨w.heap.size + 1 + 1 + 1, 0, none⟩) z z) z (filled z k (vs.map VS) (.string ByteArray.empty))
 old : Below w.heap.size w wr
theorem MidStr.next {w : World} {ad : Addr} {n c z : Nat} {l : List UInt8} {R : List (List UInt8) × Nat × Int} {k us : Nat} {vs : List (List UInt8)} {wr : World} (h : MidStr w ad n c z l R k us vs wr) (hk : k < z) (hl : n = l.length)
  (h0 : (Wr.decB (l.drop us)).2.2 = 0) (m : Nat) :
  MidStr w ad n c z l R (k + 1) (us + (Wr.decB (l.drop us)).2.1) (vs ++ [(Wr.decB (l.drop us)).1])
   (((wr.drewN m).setCell ⟨w.heap.size + 1 + 1, 0, none⟩ (.int .i64 ((us + (Wr.decB (l.drop us)).2.1 : Nat) : Int))).setCell ⟨w.heap.size + 1 + 1 + 1, k, none⟩ (VS (Wr.decB (l.drop us)).1)) := by
 obtain ⟨h1, h2, h3, h4, h5, h6, h7, h8⟩ := h
 have hu := Wr.decB_used (l.drop us)
 rw [List.length_drop] at hu
 have hown : ((wr.drewN m).setCell ⟨w.heap.size + 1 + 1, 0, none⟩ (.int .i64 ((us + (Wr.decB (l.drop us)).2.1 : Nat) : Int))).ownsRow (w.heap.size + 1 + 1 + 1) 9 1 (.slice (some ⟨w.heap.size + 1 + 1 + 1, 0, none⟩) z z) z (filled z k (vs.map VS) (.string ByteArray.empty)) :=
  ownsRow_setCell_below (w := wr.drewN m) h7 (by show w.heap.size + 1 + 1 < w.heap.size + 1 + 1 + 1; omega) _
 refine ⟨by simp [h1], by omega, ?_, ?_, ?_, ?_, ?_, ?_⟩
 ·rw [← h3, show z - k = (z - (k + 1)) + 1 by omega, Wr.comb_ok _ _ _ _ _ h0, List.drop_drop]
 ·exact ((h4.drewN m).far (by show w.heap.size ≠ w.heap.size + 1 + 1; omega) _).far (by show w.heap.size ≠ w.heap.size + 1 + 1 + 1; omega) _
 ·exact ((h5.drewN m).far (by show w.heap.size + 1 ≠ w.heap.size + 1 + 1; omega) _).far (by show w.heap.size + 1 ≠ w.heap.size + 1 + 1 + 1; omega) _
 ·have := ((h6.drewN m).set_ 0 (.int .i64 ((us + (Wr.decB (l.drop us)).2.1 : Nat) : Int))).far (p := ⟨w.heap.size + 1 + 1 + 1, k, none⟩) (by show w.heap.size + 1 + 1 ≠ w.heap.size + 1 + 1 + 1; omega) (VS (Wr.decB (l.drop us)).1)
  simpa using this
 ·have := (hown.stored k (VS (Wr.decB (l.drop us)).1)).1
  rw [filled_set z k _ _ _ (by simpa using h1) hk] at this
  simpa using this
 ·exact ((below_drewN h8 m).setCell (by show w.heap.size ≤ w.heap.size + 1 + 1; omega) _).setCell (by show w.heap.size ≤ w.heap.size + 1 + 1 + 1; omega) _
set_option maxHeartbeats 400000 in
set_option maxRecDepth 100000 in
theorem getListStr_err (A : Option Addr) (n c size : Nat) (l : List UInt8) (w : World) (hr : Reads w w.heap.size 1 A n (BV l)) (hm : n ≤ maxLen) (hnc : n ≤ c) (hs1 : 1 ≤ size) (hs2 : size ≤ 16) (he : (Wr.decLen size l).2.2 ≠ 0) :
  Calls Tryd.prog 57 #[.slice A n c, .int .i64 (size : Int), .func (.func 58) #[] #[]] w fun e w' =>
   e = .returned (.tuple #[.slice none 0 0, .int .i64 0, .int .i64 (Wr.decLen size l).2.2]) ∧ Below w.heap.size w w' := by
 have hr2 : ∀ o o', Reads ((w.alloc o).alloc o') ((w.alloc o).alloc o').heap.size 1 A n (BV l) := fun o o' => (((hr.alloc (Nat.le_refl _) o).alloc (by simp) o').more (by simp; omega))
 have H := fun o o' => getLength_any A n c l size ((w.alloc o).alloc o') (hr2 o o') hm hnc hs1 hs2
 generalize Wr.decLen size l = d at *
 obtain ⟨z, u, er⟩ := d
 simp only at H he ⊢
 have hb' : (er != 0) = true := by rw [bne_iff_ne]; exact he
 have H := hide H
 clear hr hr2 he
 unfold maxLen at hm
 go_enter Tryd.func57, Tryd.ntmps57
 go_wp2_with fail
 refine (unhide H _ _).mono ?_
 rintro e w' ⟨rfl, rfl⟩
 go_wp2
 go_ret3
 exact ⟨rfl, ((((Below.refl _ _).alloc (Nat.le_refl _) _).alloc (by simp) _).alloc (by simp; omega) _)⟩
set_option maxHeartbeats 400000 in
set_option maxRecDepth 100000 in
theorem getListStr_ok (ad : Addr) (n c size : Nat) (l : List UInt8) (w : World) (hr : Reads w w.heap.size 1 (some ad) n (BV l)) (hm : n ≤ maxLen) (hnc : n ≤ c) (hs1 : 1 ≤ size) (hs2 : size ≤ 16) (z u : Nat) (hd : Wr.decLen size l = ((z : Int), u, 0)) (hz : z ≤ 17592186044416) (hun : u ≤ n)
  (R : List (List UInt8) × Nat × Int) (hR : Wr.comb [] u (Wr.decLoop Wr.decB z (l.drop u)) = R) :
  Calls Tryd.prog 57 #[.slice (some ad) n c, .int .i64 (size : Int), .func (.func 58) #[] #[]] w fun e w' =>
   ∃ v, e = .returned (.tuple #[v, .int .i64 R.2.1, .int .i64 R.2.2]) ∧ w'.ownsRow w.heap.size 9 1 v R.1.length (R.1.map VS) ∧ Below w.heap.size w w' := by
 have hn : n = l.length := by have := hr.1; simp [BV] at this; omega
 have hr2 : ∀ o o', Reads ((w.alloc o).alloc o') ((w.alloc o).alloc o').heap.size 1 (some ad) n (BV l) := fun o o' => (((hr.alloc (Nat.le_refl _) o).alloc (by simp) o').more (by simp; omega))
 have H := fun o o' => getLength_any (some ad) n c l size ((w.alloc o).alloc o') (hr2 o o') hm hnc hs1 hs2
 rw [hd] at H
 have H := hide H
 have HN := hide hn
 have HR := hide hr
 have HM := hide hm
 have HE := hide hR
 clear hr hr2 hn hd hR
 unfold maxLen at hm
 obtain ⟨i0, hi, hz0, hz1, hz2⟩ := info_parts StrInfo
 have HI := hide hi
 have HZ0 := hide hz0
 have HZ1 := hide hz1
 have HZ2 := hide hz2
 clear hi hz0 hz1 hz2
 go_enter Tryd.func57, Tryd.ntmps57
 go_wp2_with fail
 refine (unhide H _ _).mono ?_
 rintro e w' ⟨rfl, rfl⟩
 go_wp2_with (at_make; refine wpList_make_full _ rfl _ _ 57 rfl (w.heap.size + 1 + 1 + 1) 9 i0 (.string ByteArray.empty) 1 Tryd.underlying57 HI.out HZ0.out HZ1.out _ _ _ _ z rfl rfl rfl rfl (by rw [HZ2.out]; omega) (by unfold maxLen; omega) (by simp) ?_; intro w1 hown1 hgrow1)
 have hs3 : (((w.alloc (.cells #[.slice (some ad) n c] 23)).alloc (.cells #[.func (.func 58) #[] #[]] 81)).alloc (.cells #[.int .i64 (u : Int)] 3)).heap.size = w.heap.size + 1 + 1 + 1 := by simp
 have hM0 : MidStr w ad n c z l R 0 u [] w1 := by
  refine ⟨rfl, hun, HE.out, ?_, ?_, ?_, ?_, ?_⟩
  ·exact (((Blk.new w _ _).alloc _).alloc _).grown hgrow1 (by simp)
  ·have := ((Blk.new (w.alloc (.cells #[.slice (some ad) n c] 23)) 81 #[.func (.func 58) #[] #[]]).alloc (.cells #[.int .i64 (u : Int)] 3)).grown hgrow1 (by simp)
   simpa using this
  ·have := (Blk.new ((w.alloc (.cells #[.slice (some ad) n c] 23)).alloc (.cells #[.func (.func 58) #[] #[]] 81)) 3 #[.int .i64 (u : Int)]).grown hgrow1 (by simp)
   simpa using this
  ·rw [hs3] at hown1
   simpa [filled, toList_madeCells_one, Value.cells] using hown1
  ·exact ((((Below.refl _ _).alloc (Nat.le_refl _) _).alloc (by simp) _).alloc (by simp; omega) _).grown hgrow1 (by simp; omega) (by simp)
 clear hown1 hgrow1 hs3
 go_loopw [30] (fun i wr => ∃ (k us : Nat) (vs : List (List UInt8)), k ≤ z ∧ i = .int .i64 (k : Int) ∧ MidStr w ad n c z l R k us vs wr) (fun i _ => z - (intOf i).toNat)
 case atStart => exact ⟨0, u, [], Nat.zero_le _, rfl, hM0⟩
 case round =>
  obtain ⟨k, us, vs, hk, rfl, hmid⟩ := hrel
  clear hM0
  by_cases hlt : k < z
  ·have hrw : Reads wr wr.heap.size 1 (some ad) n (BV l) := (HR.out.below hmid.old).more hmid.old.size
   obtain ⟨v, uu, er, hd⟩ : ∃ v uu er, Wr.decB (l.drop us) = (v, uu, er) := ⟨_, _, _, rfl⟩
   have C := nextStr_any ⟨w.heap.size + 1, 0, none⟩ ⟨w.heap.size, 0, none⟩ ⟨w.heap.size + 1 + 1, 0, none⟩ ad n c us l wr (by rw [hmid.g.cell]; rfl) (by rw [hmid.b.cell]; rfl) (by rw [hmid.u.cell]; rfl) (hmid.u.frozen 0) hrw HM.out hnc hmid.le
   have hnext := hmid.next hlt HN.out
   have hend := Wr.comb_err Wr.decB vs us (z - k - 1) (l.drop us)
   have hrest := hmid.rest
   rw [show z - k = z - k - 1 + 1 by omega] at hrest
   rw [hrest] at hend
   rw [hd] at C hnext hend
   simp only at C hnext hend
   clear hd hrest
   have C := hide C
   have HX := hide hnext
   have HY := hide hend
   clear hnext hend hrw
   go_wp2_with fail
   refine (unhide C).mono ?_
   rintro e w5 ⟨rfl, m, hw5⟩
   have hown5 : w5.ownsRow (w.heap.size + 1 + 1 + 1) 9 1 (.slice (some ⟨w.heap.size + 1 + 1 + 1, 0, none⟩) z z) z (filled z k (vs.map VS) (.string ByteArray.empty)) := by
    rw [hw5]
    exact ownsRow_setCell_below (w := wr.drewN m) hmid.own (by show w.heap.size + 1 + 1 < w.heap.size + 1 + 1 + 1; omega) _
   have hc5 : w5.cell? ⟨w.heap.size + 1 + 1 + 1, k, none⟩ = some (.string ByteArray.empty) := by
    rw [hown5.cellAt k (by omega)]
    exact filled_get z k _ _ (by simpa using hmid.len) hlt
   have hf5 := hown5.frozenAt k
   have hold5 : Below w.heap.size w w5 := by rw [hw5]; exact (below_drewN hmid.old m).setCell (by show w.heap.size ≤ w.heap.size + 1 + 1; omega) _
   have HW := hide hw5
   clear hw5 hown5
   by_cases h0 : er = 0
   ·subst h0
    go_wp2
    go_roundw
    case rel => exact ⟨k + 1, us + uu, vs ++ [v], by omega, by go_num, by rw [HW.out]; exact HX.out (by first | rfl | trivial) m⟩
    case measure => simp [intOf]; omega
   ·have hb' : (er != 0) = true := by rw [bne_iff_ne]; exact h0
    have HZ := hide (HY.out h0)
    clear h0
    go_wp2
    go_ret3
    refine ⟨.slice none 0 0, ?_, ?_, ?_⟩
    ·rw [HZ.out]; rfl
    ·rw [HZ.out]; exact World.ownsRow_nil _ _ _ _
    ·exact hold5.setCell (by show w.heap.size ≤ w.heap.size + 1 + 1 + 1; omega) _
  ·obtain rfl : k = z := by omega
   have hcu : wr.cell? ⟨w.heap.size + 1 + 1, 0, none⟩ = some (.int .i64 (us : Int)) := by rw [hmid.u.cell]; rfl
   have hR : R = (vs, us, 0) := by
    have := hmid.rest
    rw [Nat.sub_self, Wr.comb_end] at this
    exact this.symm
   have HR2 := hide hR
   clear hR
   go_wp2
   go_quiet (fail)
   go_wp2
   go_ret3
   have hown := hmid.own
   rw [filled_full] at hown
   refine ⟨.slice (some ⟨w.heap.size + 1 + 1 + 1, 0, none⟩) k k, ?_, ?_, ?_⟩
   ·rw [HR2.out]; rfl
   ·rw [HR2.out]
    show World.ownsRow _ _ _ _ _ vs.length _
    rw [hmid.len]
    exact own_lower (own_drewN hown _) (by omega)
   ·exact below_drewN hmid.old _
theorem getListStr_any (A : Option Addr) (n c size : Nat) (l : List UInt8) (w : World) (hr : Reads w w.heap.size 1 A n (BV l)) (hm : n ≤ 17592186044416) (hnc : n ≤ c) (hs1 : 1 ≤ size) (hs2 : size ≤ 16) :
  Calls Tryd.prog 57 #[.slice A n c, .int .i64 (size : Int), .func (.func 58) #[] #[]] w fun e w' =>
   ∃ v, e = .returned (.tuple #[v, .int .i64 (Wr.decList size Wr.decB l).2.1, .int .i64 (Wr.decList size Wr.decB l).2.2]) ∧ w'.ownsRow w.heap.size 9 1 v (Wr.decList size Wr.decB l).1.length ((Wr.decList size Wr.decB l).1.map VS) ∧ Below w.heap.size w w' := by
 have hn : n = l.length := by have := hr.1; simp [BV] at this; omega
 unfold Wr.decList
 by_cases he : (Wr.decLen size l).2.2 = 0
 ·obtain ⟨_, _, h1, h2, h3⟩ := Wr.decLen_ok hs1 he
  rw [if_neg (by simpa using he)]
  have h4 : (Wr.decLen size l).1.toNat ≤ size * (Wr.decLen size l).1.toNat := Nat.le_mul_of_pos_left _ (by omega)
  obtain ⟨ad, rfl, _, _⟩ := hr.2 (by omega)
  exact getListStr_ok ad n c size l w hr (by unfold maxLen; omega) hnc hs1 hs2 (Wr.decLen size l).1.toNat (Wr.decLen size l).2.1 (by rw [Int.toNat_of_nonneg h1, ← he]) (by omega) (by omega) _ rfl
 ·rw [if_pos (by simpa using he)]
  refine (getListStr_err A n c size l w hr (by unfold maxLen; omega) hnc hs1 hs2 he).mono fun e w' h => ?_
  exact ⟨_, h.1, World.ownsRow_nil _ _ _ _, h.2⟩
set_option maxHeartbeats 400000 in
set_option maxRecDepth 100000 in
theorem getStrings_any (A : Option Addr) (n c : Nat) (l : List UInt8) (w : World) (hr : Reads w w.heap.size 1 A n (BV l)) (hm : n ≤ 17592186044416) (hnc : n ≤ c) :
  Calls Tryd.prog 34 #[.slice A n c] w fun e w' =>
   ∃ v, e = .returned (.tuple #[v, .int .i64 (Wr.decList 1 Wr.decB l).2.1, .int .i64 (Wr.decList 1 Wr.decB l).2.2]) ∧ w'.ownsRow w.heap.size 9 1 v (Wr.decList 1 Wr.decB l).1.length ((Wr.decList 1 Wr.decB l).1.map VS) ∧ Below w.heap.size w w' := by
 have H := hide (getListStr_any A n c 1 l w hr hm hnc (by omega) (by omega))
 generalize Wr.decList 1 Wr.decB l = R at *
 clear hr
 go_enter Tryd.func34, Tryd.ntmps34
 go_wp2_with fail
 refine (unhide H).mono ?_
 rintro e w' ⟨v, rfl, hown, hb⟩
 have HO := hide hown
 clear hown
 go_wp2
 go_ret3
 exact ⟨v, rfl, HO.out, hb⟩
namespace Wr
end Wr
set_option maxHeartbeats 400000 in
set_option maxRecDepth 100000 in
theorem listStr_any (A : Option Addr) (n c : Nat) (xs : List (List UInt8)) (w : World) (hr : Reads w w.heap.size 1 A n (xs.map VS)) (hnc : n ≤ c) (hm : n ≤ 1099511627776) (hbig : (Wr.encL Wr.encB xs).length ≤ 8796093022208)  :
  Calls Tryd.prog 51 #[.slice A n c, .func (.func 50) #[] #[]] w fun e w' => ∃ v, e = .returned v ∧ w'.ownsRow w.heap.size 5 1 v ((Wr.enc xs.length).length + (Wr.encL Wr.encB xs).length) (BV (Wr.enc xs.length ++ Wr.encL Wr.encB xs)) ∧ Below w.heap.size w w' := by
 have hn : n = xs.length := by have := hr.1; simp at this; omega
 have HI := hide (int_any (n : Int) w (by unfold Wr.inI; omega))
 have hE := Wr.enc_le (n : Int)
 have HN := hide hn
 have HR := hide hr
 have HB := hide hbig
 rw [← hn]
 clear hr hn hbig
 generalize hEN : Wr.enc (n : Int) = E at *
 clear hEN
 go_enter Tryd.func51, Tryd.ntmps51
 go_wp2_with fail
 refine (unhide HI).mono ?_
 rintro e w1 ⟨v1, rfl, hown1, hb1⟩
 have HO1 := hide hown1
 clear hown1
 go_wp2
 go_loopw [5, 13] (fun v i wr => ∃ k : Nat, k ≤ n ∧ i = .int .i64 (k : Int) ∧ wr.ownsRow w.heap.size 5 1 v (E.length + (Wr.encL Wr.encB (xs.take k)).length) (BV (E ++ Wr.encL Wr.encB (xs.take k))) ∧ Below w.heap.size w wr) (fun _ i _ => n - (intOf i).toNat)
 case atStart => exact ⟨0, Nat.zero_le _, rfl, by simpa [Wr.encL] using HO1.out, hb1⟩
 case round =>
  obtain ⟨k, hk, rfl, hown, hbr⟩ := hrel
  have HOW := hide hown
  have HBR := hide hbr
  have hszr := hbr.size
  clear hb1
  by_cases hlt : k < n
  ·obtain ⟨ad, hA, hkl, hcell⟩ := reads_item (HR.out.below hbr) k hlt
   subst hA
   rw [List.getElem_map] at hcell
   have hkl' : k < xs.length := by rw [List.length_map] at hkl; exact hkl
   have hle := Wr.encL_take_le Wr.encB xs (k + 1)
   rw [Wr.encL_take Wr.encB xs k hkl', List.length_append] at hle
   have hB := HB.out
   obtain ⟨A1, c1, hv, _, _⟩ := own_slice hown
   rw [hv] at hown ⊢
   have C := addBytes_any w.heap.size A1 _ c1 xs[k] _ wr hown hszr (by rw [Wr.encB_len] at hle; omega)
   have HST := hide (Wr.encL_take Wr.encB xs k hkl')
   have C := hide C
   generalize xs[k] = x at *
   clear hown hbr hle hB hv hkl hkl'
   go_wp2_with fail
   refine (unhide C).mono ?_
   rintro e w2 ⟨v2, rfl, hown2, hb2⟩
   have HO2 := hide hown2
   clear hown2
   go_wp2
   go_roundw
   case rel =>
    refine ⟨k + 1, by omega, by go_num, ?_, HBR.out.trans hb2⟩
    have := HO2.out
    rw [HST.out, List.length_append, ← Nat.add_assoc, ← List.append_assoc]
    rw [Wr.encB_len, ← Nat.add_assoc]
    unfold Wr.encB
    rw [← List.append_assoc]
    exact this
   case measure => simp [intOf]; omega
  ·obtain rfl : k = n := by omega
   clear hown hbr
   go_wp2
   go_ret
   refine ⟨_, rfl, ?_, HBR.out⟩
   have := HOW.out
   rw [List.take_of_length_le (by rw [← HN.out]; exact Nat.le_refl _)] at this
   exact this
set_option maxHeartbeats 400000 in
set_option maxRecDepth 100000 in
theorem strings_any (A : Option Addr) (n c : Nat) (xs : List (List UInt8)) (w : World) (hr : Reads w w.heap.size 1 A n (xs.map VS)) (hnc : n ≤ c) (hm : n ≤ 1099511627776) (hbig : (Wr.encL Wr.encB xs).length ≤ 8796093022208)  :
  Calls Tryd.prog 25 #[.slice A n c] w fun e w' => ∃ v, e = .returned v ∧ w'.ownsRow w.heap.size 5 1 v ((Wr.enc xs.length).length + (Wr.encL Wr.encB xs).length) (BV (Wr.enc xs.length ++ Wr.encL Wr.encB xs)) ∧ Below w.heap.size w w' := by
 have H := hide (listStr_any A n c xs w hr hnc hm hbig )
 clear hr hbig
 go_enter Tryd.func25, Tryd.ntmps25
 go_wp2_with fail
 refine (unhide H).mono ?_
 rintro e w' ⟨v, rfl, hown, hb⟩
 have HO := hide hown
 clear hown
 go_wp2
 go_ret
 exact ⟨v, rfl, HO.out, hb⟩
end Go.Proofs.YtjnnohghgkjhcaaDoor
namespace Go.Proofs.YtjnnohghgkjhcaaDoor
set_option linter.unusedVariables false
set_option linter.unusedSimpArgs false
namespace Wr
theorem decLen_enc {size : Nat} (k : Nat) (hk : k ≤ 9223372036854775807) (rest : List UInt8) : decLen size (enc k ++ rest) = if ((rest.length : Nat) : Int) / (size : Int) < (k : Int) then (0, 0, 3) else ((k : Int), (enc k).length, 0) := by
 have hd := dec_enc (z := (k : Int)) (by unfold inI; omega) rest
 unfold decLen
 rw [hd]
 simp only [ne_eq, not_true_eq_false, if_false]
 rw [if_neg (by omega), List.length_append, Nat.add_sub_cancel_left]
theorem decLen_short {size : Nat} (k : Nat) (i : Nat) (hi : i < (enc (k : Int)).length) : decLen size ((enc (k : Int)).take i) = (0, 0, 3) := by
 have hd := dec_short (z := (k : Int)) i hi
 unfold decLen
 rw [hd]
 simp
structure Codec {α : Type} (size : Nat) (get : List UInt8 → α × Nat × Int) (e : α → List UInt8) (ok : α → Prop) : Prop where
 full : ∀ x tail, ok x → get (e x ++ tail) = (x, (e x).length, 0)
 canon : ∀ l, (get l).2.2 = 0 → ok (get l).1 ∧ (get l).2.1 ≤ l.length ∧ l.take (get l).2.1 = e (get l).1
 short : ∀ x i, ok x → i < (e x).length → (get ((e x).take i)).2.2 = 3
 least : ∀ x, ok x → size ≤ (e x).length
theorem codecInt : Codec 1 decI enc inI where
 full := fun x tail h => dec_enc h tail
 canon := fun l h => by
  obtain ⟨h1, h2, _, _, h3⟩ := enc_dec (l := l) (n := (decI l).1) (u := (decI l).2.1) (by rw [← h])
  exact ⟨h1, h2, h3⟩
 short := fun x i _ hi => by rw [dec_short i hi]
 least := fun x _ => enc_pos x
theorem encL_cons {α : Type} (e : α → List UInt8) (x : α) (l : List α) : encL e (x :: l) = e x ++ encL e l := by simp [encL]
section
variable {α : Type} {size : Nat} {get : List UInt8 → α × Nat × Int} {e : α → List UInt8} {ok : α → Prop}
theorem encL_least (h : ∀ x, ok x → size ≤ (e x).length) (xs : List α) (hx : ∀ x ∈ xs, ok x) : xs.length * size ≤ (encL e xs).length := by
 induction xs with
 | nil => simp
 | cons x xs ih =>
  rw [encL_cons, List.length_append, List.length_cons, Nat.succ_mul]
  have := h x (hx x (List.mem_cons.2 (Or.inl rfl)))
  have := ih (fun y hy => hx y (List.mem_cons.2 (Or.inr hy)))
  omega
theorem loop_full (hf : ∀ x tail, ok x → get (e x ++ tail) = (x, (e x).length, 0)) (xs : List α) (hx : ∀ x ∈ xs, ok x) (tail : List UInt8) : decLoop get xs.length (encL e xs ++ tail) = (xs, (encL e xs).length, 0) := by
 induction xs with
 | nil => rfl
 | cons x xs ih =>
  rw [encL_cons, List.append_assoc, List.length_cons, decLoop, hf x _ (hx x (List.mem_cons.2 (Or.inl rfl)))]
  simp only [List.drop_left]
  rw [ih (fun y hy => hx y (List.mem_cons.2 (Or.inr hy)))]
  simp
theorem list_full (hf : ∀ x tail, ok x → get (e x ++ tail) = (x, (e x).length, 0)) (hl : ∀ x, ok x → size ≤ (e x).length) (hs : 1 ≤ size) (xs : List α) (hx : ∀ x ∈ xs, ok x) (hn : xs.length ≤ 9223372036854775807) (tail : List UInt8) :
  decList size get (enc xs.length ++ encL e xs ++ tail) = (xs, (enc xs.length).length + (encL e xs).length, 0) := by
 have hle := encL_least hl xs hx
 unfold decList
 rw [List.append_assoc, decLen_enc _ hn]
 rw [if_neg (c := _ < (xs.length : Int))]
 ·simp only [ne_eq, not_true_eq_false, if_false, Int.toNat_natCast, List.drop_left]
  rw [loop_full hf xs hx]
  simp [comb]
 ·rw [List.length_append]
  have h1 : xs.length ≤ ((encL e xs).length + tail.length) / size := by rw [Nat.le_div_iff_mul_le (by omega)]; omega
  have h2 : (((encL e xs).length + tail.length : Nat) : Int) / (size : Int) = ((((encL e xs).length + tail.length) / size : Nat) : Int) := by simp
  rw [h2]; omega
theorem loop_canon (hc : ∀ l, (get l).2.2 = 0 → ok (get l).1 ∧ (get l).2.1 ≤ l.length ∧ l.take (get l).2.1 = e (get l).1) (k : Nat) : ∀ (l : List UInt8), (decLoop get k l).2.2 = 0 →
  (∀ x ∈ (decLoop get k l).1, ok x) ∧ (decLoop get k l).1.length = k ∧ (decLoop get k l).2.1 ≤ l.length ∧ l.take (decLoop get k l).2.1 = encL e (decLoop get k l).1 := by
 induction k with
 | zero => intro l _; simp [decLoop, encL_nil]
 | succ k ih =>
  intro l h
  unfold decLoop at h ⊢
  by_cases h1 : (get l).2.2 = 0
  ·rw [if_neg (by simpa using h1)] at h ⊢
   by_cases h2 : (decLoop get k (l.drop (get l).2.1)).2.2 = 0
   ·rw [if_neg (by simpa using h2)] at h ⊢
    obtain ⟨a1, a2, a3⟩ := hc l h1
    obtain ⟨b1, b2, b3, b4⟩ := ih _ h2
    rw [List.length_drop] at b3
    refine ⟨?_, by simp [b2], by simp only []; omega, ?_⟩
    ·intro x hx
     rcases List.mem_cons.1 hx with rfl | hx
     ·exact a1
     ·exact b1 x hx
    ·simp only [encL_cons]
     rw [List.take_add, a3, b4]
   ·rw [if_pos (by simpa using h2)] at h
    exact absurd h h2
  ·rw [if_pos (by simpa using h1)] at h
   exact absurd h h1
theorem list_canon (hc : ∀ l, (get l).2.2 = 0 → ok (get l).1 ∧ (get l).2.1 ≤ l.length ∧ l.take (get l).2.1 = e (get l).1) (hs : 1 ≤ size) (l : List UInt8) (h : (decList size get l).2.2 = 0) :
  (∀ x ∈ (decList size get l).1, ok x) ∧ (decList size get l).2.1 ≤ l.length ∧ l.take (decList size get l).2.1 = enc (decList size get l).1.length ++ encL e (decList size get l).1 := by
 unfold decList at h ⊢
 by_cases h1 : (decLen size l).2.2 = 0
 ·rw [if_neg (by simpa using h1)] at h ⊢
  obtain ⟨d1, d2, d3, d4, d5⟩ := decLen_ok hs h1
  obtain ⟨e1, e2, _, _, e3⟩ := enc_dec (l := l) (n := (decI l).1) (u := (decI l).2.1) (by rw [← d2])
  unfold comb at h ⊢
  by_cases h2 : (decLoop get (decLen size l).1.toNat (l.drop (decLen size l).2.1)).2.2 = 0
  ·rw [if_neg (by simpa using h2)]
   obtain ⟨b1, b2, b3, b4⟩ := loop_canon hc _ _ h2
   rw [List.length_drop] at b3
   refine ⟨by simpa using b1, by simp only []; rw [d1] at d5 b3 ⊢; omega, ?_⟩
   simp only [List.nil_append]
   rw [List.take_add, b4, b2, Int.toNat_of_nonneg d3]
   rw [d1, e3]
  ·rw [if_pos (by simpa using h2)] at h
   exact absurd h h2
 ·rw [if_pos (by simpa using h1)] at h
  exact absurd h h1
theorem loop_short (C : Codec size get e ok) (xs : List α) (hx : ∀ x ∈ xs, ok x) : ∀ (i : Nat), i < (encL e xs).length → (decLoop get xs.length ((encL e xs).take i)).2.2 = 3 := by
 induction xs with
 | nil => intro i hi; simp [encL_nil] at hi
 | cons x xs ih =>
  intro i hi
  have hxo := hx x (List.mem_cons.2 (Or.inl rfl))
  rw [encL_cons, List.length_append] at hi
  rw [encL_cons, List.length_cons, decLoop]
  by_cases h1 : i < (e x).length
  ·rw [List.take_append_of_le_length (by omega)]
   have := C.short x i hxo h1
   rw [if_pos (by rw [this]; decide)]
   exact this
  ·have ht : (e x ++ encL e xs).take i = e x ++ (encL e xs).take (i - (e x).length) := by
    rw [List.take_append]
    rw [List.take_of_length_le (by omega)]
   rw [ht, C.full x _ hxo]
   simp only [ne_eq, not_true_eq_false, if_false, List.drop_left]
   have := ih (fun y hy => hx y (List.mem_cons.2 (Or.inr hy))) (i - (e x).length) (by omega)
   rw [if_pos (by rw [this]; decide)]
   exact this
theorem list_short (C : Codec size get e ok) (xs : List α) (hx : ∀ x ∈ xs, ok x) (hn : xs.length ≤ 9223372036854775807) (i : Nat) (hi : i < (enc xs.length ++ encL e xs).length) : (decList size get ((enc xs.length ++ encL e xs).take i)).2.2 = 3 := by
 rw [List.length_append] at hi
 unfold decList
 by_cases h1 : i < (enc (xs.length : Int)).length
 ·rw [List.take_append_of_le_length (by omega), decLen_short _ _ h1]
  simp
 ·have ht : (enc (xs.length : Int) ++ encL e xs).take i = enc (xs.length : Int) ++ (encL e xs).take (i - (enc (xs.length : Int)).length) := by
   rw [List.take_append]
   rw [List.take_of_length_le (by omega)]
  rw [ht, decLen_enc _ hn]
  by_cases h2 : ((((encL e xs).take (i - (enc (xs.length : Int)).length)).length : Nat) : Int) / (size : Int) < (xs.length : Int)
  ·rw [if_pos h2]; simp
  ·rw [if_neg h2]
   simp only [ne_eq, not_true_eq_false, if_false, Int.toNat_natCast, List.drop_left]
   have := loop_short C xs hx (i - (enc (xs.length : Int)).length) (by omega)
   unfold comb
   rw [if_pos (by rw [this]; decide)]
   exact this
end
def okB (s : List UInt8) : Prop := s.length ≤ 9223372036854775807
theorem codecBytes : Codec 1 decB encB okB where
 full := fun s tail h => by
  unfold decB encB
  rw [List.append_assoc, decLen_enc _ h]
  rw [if_neg (c := _ < (s.length : Int)) (by rw [List.length_append]; omega)]
  simp
 canon := fun l h => by
  unfold decB at h ⊢
  by_cases h1 : (decLen 1 l).2.2 = 0
  ·rw [if_neg (by simpa using h1)] at h ⊢
   obtain ⟨d1, d2, d3, d4, d5⟩ := decLen_ok (size := 1) (by omega) h1
   obtain ⟨e1, e2, _, _, e3⟩ := enc_dec (l := l) (n := (decI l).1) (u := (decI l).2.1) (by rw [← d2])
   have hlen : ((l.drop (decLen 1 l).2.1).take (decLen 1 l).1.toNat).length = (decLen 1 l).1.toNat := by rw [List.length_take, List.length_drop]; omega
   refine ⟨?_, by simp only []; omega, ?_⟩
   ·unfold okB; simp only []; rw [hlen, d1]; unfold inI at e1; omega
   ·unfold encB
    simp only []
    rw [hlen, List.take_add, Int.toNat_of_nonneg d3, d1, e3]
  ·rw [if_pos (by simpa using h1)] at h
   exact absurd h h1
 short := fun s i h hi => by
  unfold decB
  unfold encB at hi ⊢
  rw [List.length_append] at hi
  by_cases h1 : i < (enc (s.length : Int)).length
  ·rw [List.take_append_of_le_length (by omega), decLen_short _ _ h1]
   simp
  ·have ht : (enc (s.length : Int) ++ s).take i = enc (s.length : Int) ++ s.take (i - (enc (s.length : Int)).length) := by
    rw [List.take_append]
    rw [List.take_of_length_le (by omega)]
   rw [ht, decLen_enc _ h]
   rw [if_pos (c := _ < (s.length : Int)) (by rw [List.length_take]; omega)]
   simp
 least := fun s _ => by unfold encB; rw [List.length_append]; have := enc_pos (s.length : Int); omega
end Wr
end Go.Proofs.YtjnnohghgkjhcaaDoor
namespace Go.Proofs.YtjnnohghgkjhcaaDoor
open Go.RowKit
set_option linter.unusedVariables false
set_option linter.unusedSimpArgs false
namespace Wr
def thenD {α β : Type} (d : α × β) (g : List UInt8 → α × Nat × Int) (h : List UInt8 → β × Nat × Int) (l : List UInt8) : (α × β) × Nat × Int :=
 if (g l).2.2 ≠ 0 then (d, 0, (g l).2.2)
 else if (h (l.drop (g l).2.1)).2.2 ≠ 0 then (d, 0, (h (l.drop (g l).2.1)).2.2)
 else (((g l).1, (h (l.drop (g l).2.1)).1), (g l).2.1 + (h (l.drop (g l).2.1)).2.1, 0)
def thenE {α β : Type} (e : α → List UInt8) (f : β → List UInt8) (x : α × β) : List UInt8 := e x.1 ++ f x.2
def thenOk {α β : Type} (p : α → Prop) (q : β → Prop) (x : α × β) : Prop := p x.1 ∧ q x.2
theorem Codec.andThen {α β : Type} {s t : Nat} {g : List UInt8 → α × Nat × Int} {h : List UInt8 → β × Nat × Int} {e : α → List UInt8} {f : β → List UInt8} {p : α → Prop} {q : β → Prop}
  (A : Codec s g e p) (B : Codec t h f q) (d : α × β) : Codec (s + t) (thenD d g h) (thenE e f) (thenOk p q) where
 full := fun x tail hx => by
  have h1 := A.full x.1 (f x.2 ++ tail) hx.1
  have h2 := B.full x.2 tail hx.2
  unfold thenD thenE
  rw [List.append_assoc, h1]
  simp only [ne_eq, not_true_eq_false, if_false, List.drop_left]
  rw [h2]
  simp
 canon := fun l hl => by
  unfold thenD at hl ⊢
  by_cases h1 : (g l).2.2 = 0
  ·rw [if_neg (by simpa using h1)] at hl ⊢
   by_cases h2 : (h (l.drop (g l).2.1)).2.2 = 0
   ·rw [if_neg (by simpa using h2)]
    obtain ⟨a1, a2, a3⟩ := A.canon l h1
    obtain ⟨b1, b2, b3⟩ := B.canon _ h2
    rw [List.length_drop] at b2
    refine ⟨⟨a1, b1⟩, by simp only []; omega, ?_⟩
    simp only [thenE]
    rw [List.take_add, a3, b3]
   ·rw [if_pos (by simpa using h2)] at hl
    exact absurd hl h2
  ·rw [if_pos (by simpa using h1)] at hl
   exact absurd hl h1
 short := fun x i hx hi => by
  unfold thenE at hi ⊢
  rw [List.length_append] at hi
  unfold thenD
  by_cases h1 : i < (e x.1).length
  ·rw [List.take_append_of_le_length (by omega)]
   have := A.short x.1 i hx.1 h1
   rw [if_pos (by rw [this]; decide)]
   exact this
  ·have ht : (e x.1 ++ f x.2).take i = e x.1 ++ (f x.2).take (i - (e x.1).length) := by
    rw [List.take_append, List.take_of_length_le (by omega)]
   rw [ht, A.full x.1 _ hx.1]
   simp only [ne_eq, not_true_eq_false, if_false, List.drop_left]
   have := B.short x.2 (i - (e x.1).length) hx.2 (by omega)
   rw [if_pos (by rw [this]; decide)]
   exact this
 least := fun x hx => by
  unfold thenE
  rw [List.length_append]
  have := A.least x.1 hx.1
  have := B.least x.2 hx.2
  omega
abbrev Ru := List UInt8 × Int × List UInt8
def decR : List UInt8 → Ru × Nat × Int := thenD ([], 0, []) decB (thenD (0, []) decI decB)
def encR : Ru → List UInt8 := thenE encB (thenE enc encB)
def okR : Ru → Prop := thenOk okB (thenOk inI okB)
theorem codecRule : Codec 3 decR encR okR := codecBytes.andThen (codecInt.andThen codecBytes (0, [])) ([], 0, [])
def decN {α : Type} (get : List UInt8 → α × Nat × Int) (l : List UInt8) : List α × Nat × Int :=
 if (decI l).2.2 ≠ 0 then ([], 0, (decI l).2.2)
 else if (decI l).1 < 0 then ([], 0, 2)
 else comb [] (decI l).2.1 (decLoop get (decI l).1.toNat (l.drop (decI l).2.1))
def encN {α : Type} (e : α → List UInt8) (xs : List α) : List UInt8 := enc xs.length ++ encL e xs
def okN {α : Type} (ok : α → Prop) (xs : List α) : Prop := (∀ x ∈ xs, ok x) ∧ xs.length ≤ 9223372036854775807
theorem codecN {α : Type} {size : Nat} {get : List UInt8 → α × Nat × Int} {e : α → List UInt8} {ok : α → Prop} (C : Codec size get e ok) : Codec 1 (decN get) (encN e) (okN ok) where
 full := fun xs tail hx => by
  have hI : inI ((xs.length : Nat) : Int) := by have := hx.2; unfold inI; omega
  unfold decN encN
  rw [List.append_assoc, dec_enc hI]
  simp only [ne_eq, not_true_eq_false, if_false, List.drop_left, Int.toNat_natCast]
  rw [if_neg (by omega), loop_full C.full xs hx.1]
  simp [comb]
 canon := fun l hl => by
  unfold decN at hl ⊢
  by_cases h1 : (decI l).2.2 = 0
  ·rw [if_neg (by simpa using h1)] at hl ⊢
   by_cases h2 : (decI l).1 < 0
   ·rw [if_pos h2] at hl; exact absurd hl (show ¬ ((2 : Int) = 0) by decide)
   ·rw [if_neg h2] at hl ⊢
    obtain ⟨e1, e2, _, _, e3⟩ := enc_dec (l := l) (n := (decI l).1) (u := (decI l).2.1) (by rw [← h1])
    unfold comb at hl ⊢
    by_cases h3 : (decLoop get (decI l).1.toNat (l.drop (decI l).2.1)).2.2 = 0
    ·rw [if_neg (by simpa using h3)]
     obtain ⟨b1, b2, b3, b4⟩ := loop_canon C.canon _ _ h3
     rw [List.length_drop] at b3
     unfold inI at e1
     refine ⟨⟨by simpa using b1, ?_⟩, by simp only []; omega, ?_⟩
     ·simp only [List.nil_append]; rw [b2]; omega
     ·simp only [List.nil_append, encN]
      rw [List.take_add, b4, b2, Int.toNat_of_nonneg (by omega), e3]
    ·rw [if_pos (by simpa using h3)] at hl
     exact absurd hl h3
  ·rw [if_pos (by simpa using h1)] at hl
   exact absurd hl h1
 short := fun xs i hx hi => by
  have hI : inI ((xs.length : Nat) : Int) := by have := hx.2; unfold inI; omega
  unfold encN at hi ⊢
  rw [List.length_append] at hi
  unfold decN
  by_cases h1 : i < (enc (xs.length : Int)).length
  ·rw [List.take_append_of_le_length (by omega), dec_short i h1]
   simp
  ·have ht : (enc (xs.length : Int) ++ encL e xs).take i = enc (xs.length : Int) ++ (encL e xs).take (i - (enc (xs.length : Int)).length) := by
    rw [List.take_append, List.take_of_length_le (by omega)]
   rw [ht, dec_enc hI]
   simp only [ne_eq, not_true_eq_false, if_false, Int.toNat_natCast, List.drop_left]
   rw [if_neg (by omega)]
   have := loop_short C xs hx.1 (i - (enc (xs.length : Int)).length) (by omega)
   unfold comb
   rw [if_pos (by rw [this]; decide)]
   exact this
 least := fun xs _ => by
  unfold encN
  rw [List.length_append]
  have := enc_pos (xs.length : Int)
  omega
def dec5 (l : List UInt8) : List (List UInt8) × Nat × Int :=
 if (decList 1 decB l).2.2 ≠ 0 then ([], 0, (decList 1 decB l).2.2)
 else if (decList 1 decB l).1.length ≠ 5 then ([], 0, 2)
 else decList 1 decB l
def ok5 (xs : List (List UInt8)) : Prop := (∀ x ∈ xs, okB x) ∧ xs.length = 5
theorem codec5 : Codec 1 dec5 (encN encB) ok5 where
 full := fun xs tail hx => by
  have h := list_full (size := 1) codecBytes.full codecBytes.least (by omega) xs hx.1 (by rw [hx.2]; decide) tail
  unfold dec5 encN
  rw [h]
  simp only [ne_eq, not_true_eq_false, if_false, hx.2, List.length_append]
 canon := fun l hl => by
  unfold dec5 at hl ⊢
  by_cases h1 : (decList 1 decB l).2.2 = 0
  ·rw [if_neg (by simpa using h1)] at hl ⊢
   by_cases h2 : (decList 1 decB l).1.length = 5
   ·rw [if_neg (by simpa using h2)]
    obtain ⟨a1, a2, a3⟩ := list_canon (size := 1) codecBytes.canon (by omega) l h1
    exact ⟨⟨a1, h2⟩, a2, a3⟩
   ·rw [if_pos (by simpa using h2)] at hl; exact absurd hl (show ¬ ((2 : Int) = 0) by decide)
  ·rw [if_pos (by simpa using h1)] at hl
   exact absurd hl h1
 short := fun xs i hx hi => by
  have h := list_short codecBytes xs hx.1 (by rw [hx.2]; decide) i hi
  unfold dec5 encN
  rw [if_pos (by rw [h]; decide)]
  exact h
 least := fun xs _ => by
  unfold encN
  rw [List.length_append]
  have := enc_pos (xs.length : Int)
  omega
abbrev Ta := (List Ru × List Ru) × List (List UInt8)
def decT : List UInt8 → Ta × Nat × Int := thenD (([], []), []) (thenD ([], []) (decN decR) (decN decR)) dec5
def encT : Ta → List UInt8 := thenE (thenE (encN encR) (encN encR)) (encN encB)
def okT : Ta → Prop := thenOk (thenOk (okN okR) (okN okR)) ok5
theorem codecTables : Codec 3 decT encT okT := ((codecN codecRule).andThen (codecN codecRule) ([], [])).andThen codec5 (([], []), [])
end Wr
set_option maxHeartbeats 400000 in
set_option maxRecDepth 100000 in
theorem same_eqF (A B : Option Addr) (n c d : Nat) (xs : List Value) (f : Nat → Int) (w : World) (hx : ∀ k, (h : k < xs.length) → xs[k] = .int .u8 (f k)) (ha : Reads w w.heap.size 1 A n xs) (hb : Reads w w.heap.size 1 B n xs) (hm : n ≤ maxLen) :
  Calls Tryd.prog 7 #[.slice A n c, .slice B n d] w fun e w' => e = .returned (.bool true) ∧ ∃ k, w' = w.drewN k := by
 have hn0 : ((n : Int) != n) = false := by simp
 have HA := hide ha
 have HB := hide hb
 have HX := hide hx
 clear ha hb hx
 unfold maxLen at hm
 go_enter Tryd.func7, Tryd.ntmps7
 go_wp2
 go_loopw [5] (fun i wr => ∃ k m : Nat, k ≤ n ∧ i = .int .i64 (k : Int) ∧ wr = w.drewN m) (fun i _ => n - (intOf i).toNat)
 case atStart => exact ⟨0, 0, Nat.zero_le _, rfl, rfl⟩
 case round =>
  obtain ⟨k, m, hk, rfl, hwr⟩ := hrel
  subst hwr
  by_cases hlt : k < n
  ·obtain ⟨ad, hA, hkl, hca⟩ := reads_item HA.out k hlt
   obtain ⟨bd, hB, _, hcb⟩ := reads_item HB.out k hlt
   rw [HX.out k hkl] at hca hcb
   subst hA hB
   go_wp2
   go_quiet (fail)
   go_wp2
   go_roundw
   case rel => exact ⟨k + 1, _, by omega, by go_num, rfl⟩
   case measure => simp [intOf]; omega
  ·obtain rfl : k = n := by omega
   go_wp2
   go_ret
   exact ⟨rfl, _, rfl⟩
set_option maxHeartbeats 400000 in
set_option maxRecDepth 100000 in
theorem same_ne (A B : Option Addr) (n m c d : Nat) (l r : List UInt8) (w : World) (ha : Reads w w.heap.size 1 A n (BV l)) (hb : Reads w w.heap.size 1 B m (BV r)) (hm : n ≤ maxLen) (hne : l ≠ r) :
  Calls Tryd.prog 7 #[.slice A n c, .slice B m d] w fun e w' => e = .returned (.bool false) ∧ ∃ k, w' = w.drewN k := by
 have hn : n = l.length := by have := ha.1; simp [BV] at this; omega
 have hn2 : m = r.length := by have := hb.1; simp [BV] at this; omega
 have HN := hide hn
 have HN2 := hide hn2
 have HA := hide ha
 have HB := hide hb
 have HNE := hide hne
 clear ha hb hne hn hn2
 unfold maxLen at hm
 by_cases hnm : n = m
 ·subst hnm
  have hn0 : ((n : Int) != n) = false := by simp
  go_enter Tryd.func7, Tryd.ntmps7
  go_wp2
  go_loopw [5] (fun i wr => ∃ k q : Nat, k ≤ n ∧ i = .int .i64 (k : Int) ∧ wr = w.drewN q ∧ Hid (l.take k = r.take k)) (fun i _ => n - (intOf i).toNat)
  case atStart => exact ⟨0, 0, Nat.zero_le _, rfl, rfl, by simp [Hid]⟩
  case round =>
   obtain ⟨k, q, hk, rfl, hwr, HT⟩ := hrel
   subst hwr
   by_cases hlt : k < n
   ·obtain ⟨ad, hA, hkl, hca⟩ := reads_item HA.out k hlt
    obtain ⟨bd, hB, hkr, hcb⟩ := reads_item HB.out k hlt
    rw [BV_len] at hkl hkr
    have e1 : (BV l)[k]'(by rw [BV_len]; exact hkl) = .int .u8 ((l[k]).toNat : Int) := by simp [BV]
    have e2 : (BV r)[k]'(by rw [BV_len]; exact hkr) = .int .u8 ((r[k]).toNat : Int) := by simp [BV]
    rw [e1] at hca
    rw [e2] at hcb
    have hst : l[k].toNat = r[k].toNat → l.take (k + 1) = r.take (k + 1) := fun h => by
     rw [List.take_succ_eq_append_getElem hkl, List.take_succ_eq_append_getElem hkr, HT.out, UInt8.toNat_inj.1 h]
    generalize l[k].toNat = x at *
    generalize r[k].toNat = y at *
    have HST := hide hst
    subst hA hB
    clear e1 e2 hst
    by_cases hxy : x = y
    ·have hb1 : ((x : Int) != y) = false := by simp [hxy]
     have HS := hide (HST.out hxy)
     clear hxy
     go_wp2
     go_quiet (fail)
     go_wp2
     go_roundw
     case rel => exact ⟨k + 1, _, by omega, by go_num, rfl, HS⟩
     case measure => simp [intOf]; omega
    ·have hb1 : ((x : Int) != y) = true := by rw [bne_iff_ne]; omega
     clear hxy
     go_wp2
     go_quiet (fail)
     go_wp2
     go_ret
     exact ⟨rfl, _, World.drewN_drewN _ _ _⟩
   ·exfalso
    obtain rfl : k = n := by omega
    have := HT.out
    rw [List.take_of_length_le (by have := HN.out; omega), List.take_of_length_le (by have := HN2.out; omega)] at this
    exact HNE.out this
 ·have hn0 : ((n : Int) != m) = true := by rw [bne_iff_ne]; omega
  clear hnm
  go_enter Tryd.func7, Tryd.ntmps7
  go_wp2
  go_ret
  exact ⟨rfl, 0, rfl⟩
section
variable {P : Program} (w : World)
end
set_option maxHeartbeats 1000000 in
set_option maxRecDepth 100000 in
theorem refStrings_any (A : Option Addr) (n c : Nat) (xs : List (List UInt8)) (w : World) (hr : Reads w w.heap.size 1 A n (xs.map VS)) (hm : n ≤ 1048576) (hbig : (Wr.encL Wr.encB xs).length ≤ 1099511627776) :
  Calls Tryd.prog 28 #[.slice A n c] w fun e w' => ∃ v, e = .returned v ∧ w'.ownsRow w.heap.size 5 1 v (Wr.enc xs.length ++ Wr.encL Wr.encB xs).length (BV (Wr.enc xs.length ++ Wr.encL Wr.encB xs)) ∧ Below w.heap.size w w' := by
 obtain ⟨i0, hi, hz0, hz1, hz2⟩ := info_parts byteInfo
 have HI := hide hi
 have HZ0 := hide hz0
 have HZ1 := hide hz1
 have HZ2 := hide hz2
 clear hi hz0 hz1 hz2
 have hl : n = xs.length := by have := hr.1; simpa using this.symm
 have HE := hide (fun W => refInt_any (n : Int) W (by unfold Wr.inI; omega))
 rw [← hl]
 have e9 := Wr.enc_le (n : Int)
 have HS := hide hr
 have HN := hide hl
 clear hr hl
 generalize Wr.enc (n : Int) = y at *
 go_enter Tryd.func28, Tryd.ntmps28
 go_wp2_with (go_at_call 26; refine (unhide HE w).mono ?_; rintro e w1 ⟨v1, rfl, hown1, hb1⟩; have HO1 := hide hown1; have HB1 := hide hb1; clear hown1 hb1)
 go_loopw [3, 4] (fun v i wr => ∃ j : Nat, j ≤ n ∧ i = .int .i64 (j : Int) ∧ wr.ownsRow w.heap.size 5 1 v (y ++ Wr.encL Wr.encB (xs.take j)).length (BV (y ++ Wr.encL Wr.encB (xs.take j))) ∧ Below w.heap.size w wr) (fun _ i _ => n - (intOf i).toNat)
 case atStart =>
  refine ⟨0, Nat.zero_le _, rfl, ?_, HB1.out⟩
  rw [List.take_zero, Wr.encL_nil, List.append_nil]
  exact HO1.out
 case round =>
  obtain ⟨j, hj, rfl, hown, hb⟩ := hrel
  by_cases hlt : j < n
  ·obtain ⟨ad, rfl, hx0, hc⟩ := reads_item HS.out j hlt
   have hjx : j < xs.length := by have := HN.out; omega
   have hc2 : w.cell? (ad.add j) = some (.string (S xs[j])) := by rw [hc]; simp [VS]
   have hcw : wr.cell? (ad.add j) = some (.string (S xs[j])) := by rw [hb.cell (block_lt_of_cell hc2)]; exact hc2
   have hle := Wr.encL_take_le Wr.encB xs j
   have hle2 := Wr.encL_take_le Wr.encB xs (j + 1)
   have hst := Wr.encL_take Wr.encB xs j hjx
   have HK := hide (show ∀ W : World, Calls Tryd.prog 27 #[.string (S xs[j])] W fun e w' => ∃ v, e = .returned v ∧ w'.ownsRow W.heap.size 5 1 v (Wr.encB xs[j]).length (BV (Wr.encB xs[j])) ∧ Below W.heap.size W w' from fun W => refBytes_any xs[j] W (by rw [hst, List.length_append, Wr.encB_len] at hle2; omega))
   have hln : (y ++ Wr.encL Wr.encB (xs.take j)).length ≤ 1099511627785 := by rw [List.length_append]; omega
   have hln2 : (Wr.encB xs[j]).length ≤ 1099511627776 := by rw [hst, List.length_append] at hle2; omega
   have hpos : 1 ≤ (Wr.encB xs[j]).length := by unfold Wr.encB; rw [List.length_append]; have := Wr.enc_pos (xs[j].length : Int); omega
   have HST := hide hst
   have HA := hide (BV_append (y ++ Wr.encL Wr.encB (xs.take j)) (Wr.encB xs[j]))
   have HO := hide hown
   have HB := hide hb
   have H1 := hide (BV_one (Wr.encB xs[j]))
   clear hown hb hc hc2 hst hx0 hle hle2
   generalize hcur : y ++ Wr.encL Wr.encB (xs.take j) = cur at *
   generalize hnew : Wr.encB xs[j] = new at *
   go_wp2_with (first
    | (go_at_call 27; refine (unhide HK wr).mono ?_; rintro e w5 ⟨v5, rfl, hown5, hb5⟩; obtain ⟨g5, k5, rfl, hk5, hr5⟩ := own_form hown5 hpos; have HR5 := hide hr5; have HO5 := hide (own_below HO.out hb5); have HB5 := hide (below_then HB.out hb5); clear hown5 hr5 hb5)
    | (at_builtin; refine wpList_append_any _ rfl (.tmp 14) (.tmp 19) 23 rfl w.heap.size 5 i0 (.int .u8 0) 1 1 Tryd.underlying23 HI.out HZ0.out HZ1.out HZ2.out rfl (by omega) _ cur.length (BV cur) rfl HO5.out w5.heap.size (some ⟨g5, 0, none⟩) new.length k5 (BV new) rfl HR5.out H1.out (by unfold maxLen; omega) (by omega) HB5.out.size ?_; intro v6 w6 hown6 hgrow6 hat6; have HO6 := hide hown6; have HB6 := hide (HB5.out.trans (below_grown hgrow6 HO5.out HB5.out.size)); clear hown6 hgrow6 hat6))
   refine ⟨⟨j + 1, by omega, by go_num, ?_, HB6.out⟩, ?_⟩
   ·rw [HST.out, ← List.append_assoc, hcur, List.length_append, HA.out]
    exact HO6.out
   ·simp [intOf]; omega
  ·obtain rfl : j = n := by omega
   have HO := hide hown
   have HB := hide hb
   clear hown hb
   go_wp2
   go_ret
   refine ⟨_, rfl, ?_, HB.out⟩
   have h := HO.out
   rwa [List.take_of_length_le (by have := HN.out; omega)] at h
def VC (c : UInt8) : Value := .int .u8 (c.toNat : Int)
section
variable (c : UInt8) (w : World)
set_option maxHeartbeats 400000 in
theorem small_any : Calls Tryd.prog 75 #[VC c] w fun e w' => e = .returned (.bool (Tb.small c)) ∧ w = w' := by
 unfold VC
 have HS := hide (show Tb.small c = decide (97 ≤ c.toNat ∧ c.toNat ≤ 122) from rfl)
 generalize Tb.small c = r at *
 generalize c.toNat = n at *
 by_cases h1 : (97 : Int) ≤ (n : Int)
 ·by_cases h2 : (n : Int) ≤ 122
  ·go_enter Tryd.func75, Tryd.ntmps75
   go_wp2
   go_ret
   exact ⟨by rw [HS.out, decide_eq_true (by omega)]; rfl, rfl⟩
  ·go_enter Tryd.func75, Tryd.ntmps75
   go_wp2
   go_ret
   exact ⟨by rw [HS.out, decide_eq_false (by omega)]; rfl, rfl⟩
 ·go_enter Tryd.func75, Tryd.ntmps75
  go_wp2
  go_ret
  exact ⟨by rw [HS.out, decide_eq_false (by omega)]; rfl, rfl⟩
set_option maxHeartbeats 400000 in
theorem digit_any : Calls Tryd.prog 43 #[VC c] w fun e w' => e = .returned (.bool (Tb.digit c)) ∧ w = w' := by
 unfold VC
 have HS := hide (show Tb.digit c = decide (48 ≤ c.toNat ∧ c.toNat ≤ 57) from rfl)
 generalize Tb.digit c = r at *
 generalize c.toNat = n at *
 by_cases h1 : (48 : Int) ≤ (n : Int)
 ·by_cases h2 : (n : Int) ≤ 57
  ·go_enter Tryd.func43, Tryd.ntmps43
   go_wp2
   go_ret
   exact ⟨by rw [HS.out, decide_eq_true (by omega)]; rfl, rfl⟩
  ·go_enter Tryd.func43, Tryd.ntmps43
   go_wp2
   go_ret
   exact ⟨by rw [HS.out, decide_eq_false (by omega)]; rfl, rfl⟩
 ·go_enter Tryd.func43, Tryd.ntmps43
  go_wp2
  go_ret
  exact ⟨by rw [HS.out, decide_eq_false (by omega)]; rfl, rfl⟩
set_option maxHeartbeats 400000 in
theorem character_any : Calls Tryd.prog 60 #[VC c] w fun e w' => e = .returned (.bool (Tb.written c)) ∧ w = w' := by
 unfold VC
 have HS := hide (show Tb.written c = decide (32 ≤ c.toNat ∧ c.toNat ≤ 126) from rfl)
 generalize Tb.written c = r at *
 generalize c.toNat = n at *
 by_cases h1 : (32 : Int) ≤ (n : Int)
 ·by_cases h2 : (n : Int) ≤ 126
  ·go_enter Tryd.func60, Tryd.ntmps60
   go_wp2
   go_ret
   exact ⟨by rw [HS.out, decide_eq_true (by omega)]; rfl, rfl⟩
  ·go_enter Tryd.func60, Tryd.ntmps60
   go_wp2
   go_ret
   exact ⟨by rw [HS.out, decide_eq_false (by omega)]; rfl, rfl⟩
 ·go_enter Tryd.func60, Tryd.ntmps60
  go_wp2
  go_ret
  exact ⟨by rw [HS.out, decide_eq_false (by omega)]; rfl, rfl⟩
set_option maxHeartbeats 400000 in
theorem filled_any : Calls Tryd.prog 73 #[VC c] w fun e w' => e = .returned (.bool (Tb.filled c)) ∧ w = w' := by
 unfold VC
 have HS := hide (show Tb.filled c = decide (1 ≤ c.toNat ∧ c.toNat ≤ 63) from rfl)
 generalize Tb.filled c = r at *
 generalize c.toNat = n at *
 by_cases h1 : (1 : Int) ≤ (n : Int)
 ·by_cases h2 : (n : Int) ≤ 63
  ·go_enter Tryd.func73, Tryd.ntmps73
   go_wp2
   go_ret
   exact ⟨by rw [HS.out, decide_eq_true (by omega)]; rfl, rfl⟩
  ·go_enter Tryd.func73, Tryd.ntmps73
   go_wp2
   go_ret
   exact ⟨by rw [HS.out, decide_eq_false (by omega)]; rfl, rfl⟩
 ·go_enter Tryd.func73, Tryd.ntmps73
  go_wp2
  go_ret
  exact ⟨by rw [HS.out, decide_eq_false (by omega)]; rfl, rfl⟩
set_option maxHeartbeats 400000 in
theorem language_any (x : Int) : Calls Tryd.prog 38 #[.int .i64 x] w fun e w' => e = .returned (.bool (Tb.langOk x)) ∧ w = w' := by
 have HS := hide (show Tb.langOk x = decide (0 ≤ x ∧ x < 2) from rfl)
 generalize Tb.langOk x = r at *
 by_cases h1 : (0 : Int) ≤ x
 ·by_cases h2 : x < 2
  ·go_enter Tryd.func38, Tryd.ntmps38
   go_wp2
   go_ret
   exact ⟨by rw [HS.out, decide_eq_true (by omega)]; rfl, rfl⟩
  ·go_enter Tryd.func38, Tryd.ntmps38
   go_wp2
   go_ret
   exact ⟨by rw [HS.out, decide_eq_false (by omega)]; rfl, rfl⟩
 ·go_enter Tryd.func38, Tryd.ntmps38
  go_wp2
  go_ret
  exact ⟨by rw [HS.out, decide_eq_false (by omega)]; rfl, rfl⟩
set_option maxHeartbeats 800000 in
theorem letter_any : Calls Tryd.prog 63 #[VC c] w fun e w' => e = .returned (.tuple #[VC (Tb.low c), .bool (Tb.letter c), .bool (Tb.capital c)]) ∧ w = w' := by
 have CS := hide (small_any c w)
 have HL := hide (show Tb.letter c = (Tb.small c || Tb.capital c) from rfl)
 have HC := hide (show Tb.capital c = decide (65 ≤ c.toNat ∧ c.toNat ≤ 90) from rfl)
 have HW := hide (show Tb.low c = if Tb.capital c then c + 32 else c from rfl)
 have HS := hide (show Tb.small c = decide (97 ≤ c.toNat ∧ c.toNat ≤ 122) from rfl)
 have hA := hide (show (c + 32).toNat = (c.toNat + 32) % 256 by rw [UInt8.toNat_add]; rfl)
 have hc := c.toNat_lt
 by_cases h0 : 97 ≤ c.toNat ∧ c.toNat ≤ 122
 ·have e1 : Tb.small c = true := by rw [HS.out, decide_eq_true h0]
  have e2 : Tb.capital c = false := by rw [HC.out, decide_eq_false (by omega)]
  have e3 := hide (show Tb.letter c = true by rw [HL.out, e1]; rfl)
  have e4 := hide (show Tb.low c = c by rw [HW.out, e2]; rfl)
  rw [e1] at CS
  unfold VC at CS ⊢
  rw [e4.out, e3.out, e2]
  clear HL HC HW HS hA e1 e2 e3 e4 h0
  generalize c.toNat = n at *
  go_enter Tryd.func63, Tryd.ntmps63
  go_wp2_with (go_at_call 75; refine (unhide CS).mono ?_; rintro e w1 ⟨rfl, rfl⟩)
  go_ret3
  exact ⟨rfl, rfl⟩
 ·have e1 : Tb.small c = false := by rw [HS.out, decide_eq_false h0]
  rw [e1] at CS
  by_cases h1 : (65 : Int) ≤ (c.toNat : Int)
  ·by_cases h2 : (c.toNat : Int) ≤ 90
   ·have e2 : Tb.capital c = true := by rw [HC.out, decide_eq_true (by omega)]
    have e3 := hide (show Tb.letter c = true by rw [HL.out, e2, Bool.or_true])
    have e4 := hide (show ((Tb.low c).toNat : Int) = (c.toNat : Int) - 65 + 97 by rw [HW.out, e2, if_pos rfl, hA.out]; omega)
    unfold VC at CS ⊢
    rw [e4.out, e3.out, e2]
    clear HL HC HW HS hA e1 e2 e3 e4 h0
    generalize c.toNat = n at *
    go_enter Tryd.func63, Tryd.ntmps63
    go_wp2_with (go_at_call 75; refine (unhide CS).mono ?_; rintro e w1 ⟨rfl, rfl⟩)
    go_ret3
    exact ⟨by congr 3 <;> (try congr 1) <;> omega, rfl⟩
   ·have e2 : Tb.capital c = false := by rw [HC.out, decide_eq_false (by omega)]
    have e3 := hide (show Tb.letter c = false by rw [HL.out, e1, e2]; rfl)
    have e4 := hide (show Tb.low c = c by rw [HW.out, e2]; rfl)
    unfold VC at CS ⊢
    rw [e4.out, e3.out, e2]
    clear HL HC HW HS hA e1 e2 e3 e4 h0
    generalize c.toNat = n at *
    go_enter Tryd.func63, Tryd.ntmps63
    go_wp2_with (go_at_call 75; refine (unhide CS).mono ?_; rintro e w1 ⟨rfl, rfl⟩)
    go_ret3
    exact ⟨rfl, rfl⟩
  ·have e2 : Tb.capital c = false := by rw [HC.out, decide_eq_false (by omega)]
   have e3 := hide (show Tb.letter c = false by rw [HL.out, e1, e2]; rfl)
   have e4 := hide (show Tb.low c = c by rw [HW.out, e2]; rfl)
   unfold VC at CS ⊢
   rw [e4.out, e3.out, e2]
   clear HL HC HW HS hA e1 e2 e3 e4 h0
   generalize c.toNat = n at *
   go_enter Tryd.func63, Tryd.ntmps63
   go_wp2_with (go_at_call 75; refine (unhide CS).mono ?_; rintro e w1 ⟨rfl, rfl⟩)
   go_ret3
   exact ⟨rfl, rfl⟩
set_option maxHeartbeats 800000 in
theorem mark_any : Calls Tryd.prog 85 #[VC c] w fun e w' => e = .returned (.bool (Tb.mark c)) ∧ w = w' := by
 have CL := hide (letter_any c w)
 have CC := hide (character_any c w)
 have CD := hide (digit_any c w)
 have HM := hide (show Tb.mark c = (Tb.written c && !Tb.letter c && !Tb.digit c) from rfl)
 unfold VC at *
 generalize Tb.mark c = m at *
 generalize Tb.written c = b1 at *
 generalize Tb.letter c = b2 at *
 generalize Tb.digit c = b3 at *
 generalize Tb.capital c = b4 at *
 generalize (Tb.low c).toNat = n2 at *
 generalize c.toNat = n at *
 cases b1 <;> cases b2 <;> cases b3 <;>
 ·rw [HM.out]
  clear HM
  go_enter Tryd.func85, Tryd.ntmps85
  go_wp2_with (first
   | (go_at_call 63; refine (unhide CL).mono ?_; rintro e w1 ⟨rfl, rfl⟩)
   | (go_at_call 60; refine (unhide CC).mono ?_; rintro e w1 ⟨rfl, rfl⟩)
   | (go_at_call 43; refine (unhide CD).mono ?_; rintro e w1 ⟨rfl, rfl⟩))
  go_ret
  exact ⟨rfl, rfl⟩
end
theorem all_take_succ {α : Type} (p : α → Bool) (xs : List α) (i : Nat) (h : i < xs.length) : (xs.take (i + 1)).all p = ((xs.take i).all p && p xs[i]) := by
 rw [List.take_succ_eq_append_getElem h, List.all_append]
 simp
theorem all_bad {α : Type} (p : α → Bool) (xs : List α) (i : Nat) (h : i < xs.length) (hp : p xs[i] = false) : xs.all p = false := by
 rw [List.all_eq_false]
 exact ⟨xs[i], List.getElem_mem h, by simp [hp]⟩
set_option maxHeartbeats 1000000 in
theorem every_filled (A : Option Addr) (n c : Nat) (xs : List UInt8) (w : World) (hr : Reads w w.heap.size 1 A n (BV xs)) (hbig : n ≤ 1048576) :
  Calls Tryd.prog 72 #[.slice A n c, .func (.func 73) #[] #[]] w fun e w' => e = .returned (.bool (xs.all Tb.filled)) ∧ w = w' := by
 have hn : xs.length = n := by have := hr.1; rw [BV_len] at this; omega
 have HN := hide hn
 have hni : (n : Int) ≤ 1048576 := by omega
 have HR := hide hr
 have HALL := hide (show ∃ r, r = xs.all Tb.filled from ⟨_, rfl⟩)
 clear hn hr HALL hbig
 generalize hres : xs.all Tb.filled = res at *
 have HRES := hide hres
 clear hres
 go_enter Tryd.func72, Tryd.ntmps72
 go_wp2
 go_loopw [9] (fun s wr => ∃ i : Nat, i ≤ n ∧ s = .int .i64 (i : Int) ∧ Hid ((xs.take i).all Tb.filled = true) ∧ wr = w) (fun s _ => n - (intOf s).toNat)
 case atStart => exact ⟨0, by omega, rfl, by rw [List.take_zero]; exact rfl, rfl⟩
 case round =>
  obtain ⟨i, hi, rfl, HT, rfl⟩ := hrel
  by_cases hlt : i < n
  ·have hil : i < xs.length := by rw [HN.out]; exact hlt
   obtain ⟨ad, u, rfl, hadb, hu, hcu⟩ := Reads.at_ HR.out hlt
   have hcell : wr.cell? (ad.add i) = some (VC xs[i]) := by
    rw [hcu, ← hu, BV_get xs i hil]; rfl
   have hi0 : (0 : Int) ≤ (i : Int) := by omega
   have hi1 : (i : Int) < (n : Int) := by omega
   have HLT := hide hlt
   have C := hide (filled_any xs[i] wr)
   have HTS := hide (all_take_succ Tb.filled xs i hil)
   have HB := hide (all_bad Tb.filled xs i hil)
   unfold VC at C hcell
   generalize xs[i] = x at *
   clear hu hcu hlt hil
   cases hpx : Tb.filled x with
   | true =>
    have HT2 := hide (show (xs.take (i + 1)).all Tb.filled = true by rw [HTS.out, HT.out, hpx]; rfl)
    rw [hpx] at C
    clear HTS HB hpx HRES
    go_wp2_with (go_at_call 73; refine (unhide C).mono ?_; rintro e w1 ⟨rfl, rfl⟩)
    exact ⟨⟨i + 1, HLT.out, by go_num, HT2, trivial⟩, by have := HLT.out; simp [intOf]; omega⟩
   | false =>
    have HF := hide (show res = false by rw [← HRES.out]; exact HB.out hpx)
    rw [hpx] at C
    clear HTS HB hpx HRES HT
    go_wp2_with (go_at_call 73; refine (unhide C).mono ?_; rintro e w1 ⟨rfl, rfl⟩)
    go_ret
    exact ⟨by rw [HF.out]; rfl, rfl⟩
  ·obtain rfl : i = n := by omega
   have HF := hide (show res = true by
    rw [← HRES.out]
    have h := HT.out
    rwa [List.take_of_length_le (by rw [HN.out]; omega)] at h)
   have hnt : ¬ ((i : Int) < (i : Int)) := by omega
   clear HRES HT hlt
   go_wp2
   go_ret
   exact ⟨by rw [HF.out]; rfl, rfl⟩
set_option maxHeartbeats 1000000 in
theorem every_small (A : Option Addr) (n c : Nat) (xs : List UInt8) (w : World) (hr : Reads w w.heap.size 1 A n (BV xs)) (hbig : n ≤ 1048576) :
  Calls Tryd.prog 72 #[.slice A n c, .func (.func 75) #[] #[]] w fun e w' => e = .returned (.bool (xs.all Tb.small)) ∧ w = w' := by
 have hn : xs.length = n := by have := hr.1; rw [BV_len] at this; omega
 have HN := hide hn
 have hni : (n : Int) ≤ 1048576 := by omega
 have HR := hide hr
 have HALL := hide (show ∃ r, r = xs.all Tb.small from ⟨_, rfl⟩)
 clear hn hr HALL hbig
 generalize hres : xs.all Tb.small = res at *
 have HRES := hide hres
 clear hres
 go_enter Tryd.func72, Tryd.ntmps72
 go_wp2
 go_loopw [9] (fun s wr => ∃ i : Nat, i ≤ n ∧ s = .int .i64 (i : Int) ∧ Hid ((xs.take i).all Tb.small = true) ∧ wr = w) (fun s _ => n - (intOf s).toNat)
 case atStart => exact ⟨0, by omega, rfl, by rw [List.take_zero]; exact rfl, rfl⟩
 case round =>
  obtain ⟨i, hi, rfl, HT, rfl⟩ := hrel
  by_cases hlt : i < n
  ·have hil : i < xs.length := by rw [HN.out]; exact hlt
   obtain ⟨ad, u, rfl, hadb, hu, hcu⟩ := Reads.at_ HR.out hlt
   have hcell : wr.cell? (ad.add i) = some (VC xs[i]) := by
    rw [hcu, ← hu, BV_get xs i hil]; rfl
   have hi0 : (0 : Int) ≤ (i : Int) := by omega
   have hi1 : (i : Int) < (n : Int) := by omega
   have HLT := hide hlt
   have C := hide (small_any xs[i] wr)
   have HTS := hide (all_take_succ Tb.small xs i hil)
   have HB := hide (all_bad Tb.small xs i hil)
   unfold VC at C hcell
   generalize xs[i] = x at *
   clear hu hcu hlt hil
   cases hpx : Tb.small x with
   | true =>
    have HT2 := hide (show (xs.take (i + 1)).all Tb.small = true by rw [HTS.out, HT.out, hpx]; rfl)
    rw [hpx] at C
    clear HTS HB hpx HRES
    go_wp2_with (go_at_call 75; refine (unhide C).mono ?_; rintro e w1 ⟨rfl, rfl⟩)
    exact ⟨⟨i + 1, HLT.out, by go_num, HT2, trivial⟩, by have := HLT.out; simp [intOf]; omega⟩
   | false =>
    have HF := hide (show res = false by rw [← HRES.out]; exact HB.out hpx)
    rw [hpx] at C
    clear HTS HB hpx HRES HT
    go_wp2_with (go_at_call 75; refine (unhide C).mono ?_; rintro e w1 ⟨rfl, rfl⟩)
    go_ret
    exact ⟨by rw [HF.out]; rfl, rfl⟩
  ·obtain rfl : i = n := by omega
   have HF := hide (show res = true by
    rw [← HRES.out]
    have h := HT.out
    rwa [List.take_of_length_le (by rw [HN.out]; omega)] at h)
   have hnt : ¬ ((i : Int) < (i : Int)) := by omega
   clear HRES HT hlt
   go_wp2
   go_ret
   exact ⟨by rw [HF.out]; rfl, rfl⟩
set_option maxHeartbeats 1000000 in
theorem writable_any (A : Option Addr) (n c : Nat) (xs : List UInt8) (w : World) (hr : Reads w w.heap.size 1 A n (BV xs)) (hbig : n ≤ 1048576) :
  Calls Tryd.prog 74 #[.slice A n c] w fun e w' => e = .returned (.bool (Tb.writable xs)) ∧ w = w' := by
 have hn : xs.length = n := by have := hr.1; rw [BV_len] at this; omega
 have C := hide (every_filled A n c xs w hr hbig)
 have HW := hide (show Tb.writable xs = (decide (1 ≤ n ∧ n ≤ 4) && xs.all Tb.filled) by unfold Tb.writable; rw [hn])
 generalize Tb.writable xs = r at *
 generalize xs.all Tb.filled = f at *
 clear hn hr
 by_cases h1 : (1 : Int) ≤ (n : Int)
 ·by_cases h2 : (n : Int) ≤ 4
  ·go_enter Tryd.func74, Tryd.ntmps74
   go_wp2_with (go_at_call 72; refine (unhide C).mono ?_; rintro e w1 ⟨rfl, rfl⟩)
   go_ret
   exact ⟨by rw [HW.out, decide_eq_true (by omega), Bool.true_and]; rfl, rfl⟩
  ·go_enter Tryd.func74, Tryd.ntmps74
   go_wp2
   go_ret
   exact ⟨by rw [HW.out, decide_eq_false (by omega), Bool.false_and]; rfl, rfl⟩
 ·go_enter Tryd.func74, Tryd.ntmps74
  go_wp2
  go_ret
  exact ⟨by rw [HW.out, decide_eq_false (by omega), Bool.false_and]; rfl, rfl⟩
def ruC (r : Tb.Rl) : List Value := [.string (S r.text), .int .i64 r.wh, .slice r.cells.ad r.cells.l.length r.cells.c]
def RC (rs : List Tb.Rl) : List Value := rs.flatMap ruC
theorem RC_len (es : List Tb.Rl) : (RC es).length = es.length * 3 := by
 induction es with
 | nil => rfl
 | cons e r ih =>
  unfold RC at ih ⊢
  rw [List.flatMap_cons, List.length_append, ih, List.length_cons]
  show 3 + _ = _
  omega
theorem RC_get (es : List Tb.Rl) (k j : Nat) (h : k < es.length) (hj : j < 3) : (RC es)[k * 3 + j]? = (ruC es[k])[j]? := by
 induction es generalizing k with
 | nil => exact absurd h (by simp)
 | cons e r ih =>
  unfold RC at ih ⊢
  rw [List.flatMap_cons]
  cases k with
  | zero => rw [List.getElem?_append_left (by show 0 * 3 + j < 3; omega), Nat.zero_mul, Nat.zero_add]; rfl
  | succ k =>
   have h' : k < r.length := by simpa using h
   rw [List.getElem?_append_right (by show 3 ≤ _; omega)]
   show (r.flatMap ruC)[(k + 1) * 3 + j - 3]? = _
   rw [show (k + 1) * 3 + j - 3 = k * 3 + j by omega, ih k h']
   rfl
theorem RC_append (a b : List Tb.Rl) : RC (a ++ b) = RC a ++ RC b := by unfold RC; rw [List.flatMap_append]
def BsAt (w : World) (B : Nat) (b : Tb.Bs) : Prop := Reads w B 1 b.ad b.l.length (BV b.l) ∧ b.l.length ≤ b.c ∧ b.l.length ≤ 1048576
theorem BsAt.below {w w' : World} {B : Nat} {b : Tb.Bs} (h : BsAt w B b) (hb : Below B w w') : BsAt w' B b := ⟨h.1.below hb, h.2⟩
theorem BsAt.more {w : World} {B B' : Nat} {b : Tb.Bs} (h : BsAt w B b) (hB : B ≤ B') : BsAt w B' b := ⟨h.1.more hB, h.2⟩
def RulesAt (w : World) (B : Nat) (A : Option Addr) (rs : List Tb.Rl) : Prop := Reads w B 3 A rs.length (RC rs) ∧ (∀ r ∈ rs, BsAt w B r.cells ∧ r.text.length ≤ 1048576 ∧ Wr.inI r.wh) ∧ rs.length ≤ 1048576
theorem RulesAt.below {w w' : World} {B : Nat} {A : Option Addr} {rs : List Tb.Rl} (h : RulesAt w B A rs) (hb : Below B w w') : RulesAt w' B A rs := ⟨h.1.below hb, fun r hr => ⟨(h.2.1 r hr).1.below hb, (h.2.1 r hr).2⟩, h.2.2⟩
theorem RulesAt.more {w : World} {B B' : Nat} {A : Option Addr} {rs : List Tb.Rl} (h : RulesAt w B A rs) (hB : B ≤ B') : RulesAt w B' A rs := ⟨h.1.more hB, fun r hr => ⟨(h.2.1 r hr).1.more hB, (h.2.1 r hr).2⟩, h.2.2⟩
theorem reads_rule {w : World} {B : Nat} {A : Option Addr} {rs : List Tb.Rl} (h : RulesAt w B A rs) (k : Nat) (hk : k < rs.length) :
  ∃ ad, A = some ad ∧ ad.block < B ∧ ∀ (j : Nat) (v : Value), (ruC rs[k])[j]? = some v → w.cell? ((ad.add (k * 3)).add j) = some v := by
 obtain ⟨ad, hA, hb, hc⟩ := h.1.2 (by omega)
 refine ⟨ad, hA, hb, fun j v hv => ?_⟩
 have hj : j < 3 := (List.getElem?_eq_some_iff.1 hv).1
 rw [add_of_add]
 exact hc _ _ (by rw [RC_get rs k j hk hj]; exact hv)
theorem ruleInfo : (Tryd.prog.info? 45).map (·.size) = some 3 := by kernel_rfl
theorem byteOf_S (l : List UInt8) (i : Nat) (h : i < l.length) (h' : i < (S l).size) : (S l)[i]'h' = l[i] := by
 rfl
theorem name_world {P : Program} {c : Code} {Q : Exit → Act → World → Prop} {a : Act} {w : World} (h : ∀ W, Hid (w = W) → c.wp P Q a W) : c.wp P Q a w := h w rfl
theorem run_loadVar_at {P : Program} (w : World) (a : Addr) (ty : TypeId) (cs : List Value) (d : TypeDesc) (hc : ∀ j v, cs[j]? = some v → w.cell? (a.add j) = some v)
  (hu : P.underlying ty = some d) (hd : d.isRow = true) (hi : (P.info? ty).map (·.size) = some cs.length) : (loadVar ty a).run P w = .ok (.agg cs.toArray) w := by
 have hl : (loadCells a cs.length).run P w = .ok cs.toArray w := run_loadCells_list (P := P) w a cs hc
 cases hq : P.info? ty with
 | none => simp [hq] at hi
 | some i =>
  have hs : i.size = cs.length := by simpa [hq] using hi
  have hagg : (isAgg ty).run P w = .ok true w := by
   unfold isAgg
   rw [Sem.run_bind, run_underlying hu w]
   cases d <;> simp_all
  simp [loadVar, Sem.run_bind, hagg, sizeOf, typeInfo, hq, hs, hl]
theorem wpList_load_at {P : Program} {ops : Array Oper} {rest : List Oper} {op : Oper} {a : Act} {w : World} {Q : Exit → Act → World → Prop} (hgd : op.guard = none) (ty : TypeId) (x : Operand) (ho : op.op = .load ty x)
  (ad : Addr) (hx : a.eval x = .pointer (some ad)) (cs : List Value) (d : TypeDesc) (hc : ∀ j v, cs[j]? = some v → w.cell? (ad.add j) = some v)
  (hu : P.underlying ty = some d) (hd : d.isRow = true) (hi : (P.info? ty).map (·.size) = some cs.length)
  (h : wpList P ops Q rest (a.put op.dst (.agg cs.toArray)) w) : wpList P ops Q (op :: rest) a w :=
 wpList_plain hgd fun _ hK => by
  unfold Oper.wp execOp
  simp only [ho, hx, Instr.loadAt, Instr.sureAddr, Sem.run_bind, Sem.run_pure, Result.andThen_ok, run_loadVar_at w ad ty cs d hc hu hd hi]
  exact hK _ _ h
theorem Tb.right_eq (r : Tb.Rl) : Tb.right r = (Tb.writable r.cells.l && decide (1 ≤ r.text.length ∧ r.text.length ≤ 8) && (if r.text.all Tb.small then decide (0 ≤ r.wh ∧ r.wh ≤ 3) else decide (r.text.length = 1) && Tb.mark (r.text.headD 0) && decide (r.wh = 0))) := rfl
set_option maxHeartbeats 4000000 in
set_option maxRecDepth 100000 in
theorem possible_any (r : Tb.Rl) (w : World) (hb : BsAt w w.heap.size r.cells) (ht : r.text.length ≤ 1048576) :
  Calls Tryd.prog 71 #[.agg #[.string (S r.text), .int .i64 r.wh, .slice r.cells.ad r.cells.l.length r.cells.c]] w fun e w' => e = .returned (.bool (Tb.right r)) ∧ Below w.heap.size w w' := by
 have HR := hide (Tb.right_eq r)
 have HT1 := hide (show 0 < r.text.length → (r.text.headD 0) = r.text.getD 0 0 by cases r.text <;> simp)
 obtain ⟨T, wh, ⟨cl, ca, cc⟩⟩ := r
 simp only [] at *
 have CW := hide (fun (W : World) (h : Below w.heap.size w W) => writable_any ca cl.length cc cl W ((hb.1.below h).more h.size) hb.2.2)
 generalize Tb.right _ = res at *
 generalize Tb.writable cl = wr at *
 generalize cl.length = cn at *
 clear hb
 have HS := hide (S_size T)
 have CT := hide (fun (W : World) => conv_bytes T W)
 have CM := hide (fun (W : World) (h0 : 0 < (S T).size) => (show Calls Tryd.prog 85 #[.int .u8 ((((S T)[0]'h0).toNat : Nat) : Int)] W fun e w' => e = .returned (.bool (Tb.mark (T.headD 0))) ∧ W = w' by
  have h1 : (S T)[0]'h0 = T.headD 0 := by
   rw [byteOf_S T 0 (by rw [S_size] at h0; exact h0)]
   cases T with
   | nil => simp [S_size] at h0
   | cons a b => rfl
  rw [h1]
  exact mark_any _ W))
 go_enter Tryd.func71, Tryd.ntmps71
 go_upto_region 1 with fail
 refine name_world fun V hV => ?_
 have VB := hide (show Blk V w.heap.size 45 #[.string (S T), .int .i64 wh, .slice ca cn cc] by rw [← hV.out]; exact Blk.new w _ _)
 have HV := hide (show Below w.heap.size w V by rw [← hV.out]; exact below_alloc w _)
 have hc0 : V.cell? ⟨w.heap.size, 0, none⟩ = some (.string (S T)) := VB.out.cell 0
 have hc1 : V.cell? ⟨w.heap.size, 1, none⟩ = some (.int .i64 wh) := VB.out.cell 1
 have hc2 : V.cell? ⟨w.heap.size, 2, none⟩ = some (.slice ca cn cc) := VB.out.cell 2
 have hgV := VB.out.lt
 have C1 := hide (CW.out V HV.out)
 clear hV
 cases wr with
 | false =>
  have HF := hide (show res = false by rw [HR.out]; rfl)
  clear HR HT1 CW CT CM
  go_wp2_with (go_at_call 74; refine (unhide C1).mono ?_; rintro e w1 ⟨rfl, rfl⟩)
  go_ret
  exact ⟨by rw [HF.out]; rfl, HV.out⟩
 | true =>
  by_cases h1 : ((S T).size : Int) < 1
  ·have HF := hide (show res = false by rw [HR.out, decide_eq_false (by rw [S_size] at h1; omega)]; rfl)
   clear HR HT1 CW CT CM
   go_wp2_with (go_at_call 74; refine (unhide C1).mono ?_; rintro e w1 ⟨rfl, rfl⟩)
   go_ret
   exact ⟨by rw [HF.out]; rfl, HV.out⟩
  ·by_cases h8 : (8 : Int) < ((S T).size : Int)
   ·have HF := hide (show res = false by rw [HR.out, decide_eq_false (by rw [S_size] at h8; omega)]; rfl)
    clear HR HT1 CW CT CM
    go_wp2_with (go_at_call 74; refine (unhide C1).mono ?_; rintro e w1 ⟨rfl, rfl⟩)
    go_ret
    exact ⟨by rw [HF.out]; rfl, HV.out⟩
   ·obtain ⟨bA, bc, w2, hcv, hrd, hb2⟩ := CT.out V
    have HCV := hide hcv
    have CE := hide (every_small (some bA) (S T).size bc T w2 hrd (by rw [HS.out]; exact ht))
    have B2 := hide hb2
    have H2 := hide (HV.out.trans (hb2.mono HV.out.size))
    have VB2 := VB.out.below hb2 hgV
    have d0 : w2.cell? ⟨w.heap.size, 0, none⟩ = some (.string (S T)) := VB2.cell 0
    have d1 : w2.cell? ⟨w.heap.size, 1, none⟩ = some (.int .i64 wh) := VB2.cell 1
    have HRES := hide (show res = (if T.all Tb.small then decide (0 ≤ wh ∧ wh ≤ 3) else decide (T.length = 1) && Tb.mark (T.headD 0) && decide (wh = 0)) by rw [HR.out, decide_eq_true (by rw [S_size] at h1 h8; omega)]; rfl)
    have CM2 := hide (CM.out w2)
    have HSZ := HS.out
    generalize T.all Tb.small = sm at *
    generalize Tb.mark (T.headD 0) = mk at *
    clear HR HT1 CW CT CM hrd hb2 VB2
    cases sm with
    | true =>
     by_cases h0 : (0 : Int) ≤ wh
     ·by_cases h3 : wh ≤ 3
      ·have HF := hide (show res = true by rw [HRES.out, if_pos rfl, decide_eq_true ⟨h0, h3⟩])
       clear HRES CM2
       go_wp2_with (first
        | (go_at_call 74; refine (unhide C1).mono ?_; rintro e w1 ⟨rfl, rfl⟩)
        | (go_at_call 72; refine (unhide CE).mono ?_; rintro e w1 ⟨rfl, rfl⟩))
       go_ret
       exact ⟨by rw [HF.out]; rfl, H2.out⟩
      ·have HF := hide (show res = false by rw [HRES.out, if_pos rfl, decide_eq_false (by omega)])
       clear HRES CM2
       go_wp2_with (first
        | (go_at_call 74; refine (unhide C1).mono ?_; rintro e w1 ⟨rfl, rfl⟩)
        | (go_at_call 72; refine (unhide CE).mono ?_; rintro e w1 ⟨rfl, rfl⟩))
       go_ret
       exact ⟨by rw [HF.out]; show Ending.returned (.bool (decide (wh ≤ 3))) = _; rw [decide_eq_false (by omega)], H2.out⟩
     ·have HF := hide (show res = false by rw [HRES.out, if_pos rfl, decide_eq_false (by omega)])
      clear HRES CM2
      go_wp2_with (first
       | (go_at_call 74; refine (unhide C1).mono ?_; rintro e w1 ⟨rfl, rfl⟩)
       | (go_at_call 72; refine (unhide CE).mono ?_; rintro e w1 ⟨rfl, rfl⟩))
      go_ret
      exact ⟨by rw [HF.out]; rfl, H2.out⟩
    | false =>
     have HRES' := hide (show res = (decide (T.length = 1) && mk && decide (wh = 0)) by rw [HRES.out]; rfl)
     clear HRES
     by_cases hl : ((S T).size : Int) = 1
     ·have hle : ((((S T).size : Nat) : Int) == 1) = true := by rw [hl]; rfl
      have hlt : 0 < (S T).size := by omega
      have hli : (0 : Int) < ((S T).size : Int) := by omega
      have CM3 := hide (CM2.out hlt)
      have HRES2 := hide (show res = (mk && decide (wh = 0)) by rw [HRES'.out, decide_eq_true (by rw [S_size] at hl; omega), Bool.true_and])
      clear HRES' CM2
      cases mk with
      | false =>
       have HF := hide (show res = false by rw [HRES2.out]; rfl)
       clear HRES2
       go_wp2_with (first
        | (go_at_call 74; refine (unhide C1).mono ?_; rintro e w1 ⟨rfl, rfl⟩)
        | (go_at_call 85; refine (unhide CM3).mono ?_; rintro e w1 ⟨rfl, rfl⟩)
        | (go_at_call 72; refine (unhide CE).mono ?_; rintro e w1 ⟨rfl, rfl⟩))
       go_ret
       exact ⟨by rw [HF.out]; rfl, H2.out⟩
      | true =>
       have HF := hide (show res = (wh == 0) by rw [HRES2.out, Bool.true_and]; by_cases h : wh = 0 <;> simp [h])
       clear HRES2
       go_wp2_with (first
        | (go_at_call 74; refine (unhide C1).mono ?_; rintro e w1 ⟨rfl, rfl⟩)
        | (go_at_call 85; refine (unhide CM3).mono ?_; rintro e w1 ⟨rfl, rfl⟩)
        | (go_at_call 72; refine (unhide CE).mono ?_; rintro e w1 ⟨rfl, rfl⟩))
       go_ret
       exact ⟨by rw [HF.out]; rfl, H2.out⟩
     ·have hle : ((((S T).size : Nat) : Int) == 1) = false := by
       rw [beq_eq_false_iff_ne]
       exact hl
      have HF := hide (show res = false by rw [HRES'.out, decide_eq_false (by rw [S_size] at hl; omega)]; rfl)
      clear HRES' CM2
      go_wp2_with (first
       | (go_at_call 74; refine (unhide C1).mono ?_; rintro e w1 ⟨rfl, rfl⟩)
       | (go_at_call 72; refine (unhide CE).mono ?_; rintro e w1 ⟨rfl, rfl⟩))
      go_ret
      exact ⟨by rw [HF.out]; rfl, H2.out⟩
set_option maxHeartbeats 2000000 in
set_option maxRecDepth 100000 in
theorem every_possible (A : Option Addr) (c : Nat) (rs : List Tb.Rl) (w : World) (hr : RulesAt w w.heap.size A rs) :
  Calls Tryd.prog 70 #[.slice A rs.length c, .func (.func 71) #[] #[]] w fun e w' => e = .returned (.bool (rs.all Tb.right)) ∧ Below w.heap.size w w' := by
 have hbig := hr.2.2
 obtain ⟨n, hn⟩ : ∃ n, n = rs.length := ⟨_, rfl⟩
 have HN := hide hn
 rw [← hn] at hbig ⊢
 have hni : (n : Int) ≤ 1048576 := by omega
 have HR := hide hr
 have CP := hide (fun (r : Tb.Rl) (hm : r ∈ rs) (W : World) (hb : Below w.heap.size w W) => possible_any r W (((hr.2.1 r hm).1.below hb).more hb.size) (hr.2.1 r hm).2.1)
 clear hn hr
 generalize hres : rs.all Tb.right = res at *
 have HRES := hide hres
 have HW := hide (Below.refl w.heap.size w)
 clear hres
 go_enter Tryd.func70, Tryd.ntmps70
 go_wp2
 go_loopw [9] (fun s wr => ∃ i : Nat, i ≤ n ∧ s = .int .i64 (i : Int) ∧ Hid ((rs.take i).all Tb.right = true) ∧ Below w.heap.size w wr) (fun s _ => n - (intOf s).toNat)
 case atStart => exact ⟨0, by omega, rfl, by rw [List.take_zero]; exact rfl, HW.out⟩
 case round =>
  obtain ⟨i, hi, rfl, HT, hbel⟩ := hrel
  obtain ⟨wd, rfl⟩ : ∃ wd, wd = wr := ⟨wr, rfl⟩
  have HB := hide hbel
  by_cases hlt : i < n
  ·have hil : i < rs.length := by rw [← HN.out]; exact hlt
   obtain ⟨ad, rfl, hadb, hcs⟩ := reads_rule HR.out i hil
   have HEC := hide (show ∀ (j : Nat) (v : Value), ([.string (S rs[i].text), .int .i64 rs[i].wh, .slice rs[i].cells.ad rs[i].cells.l.length rs[i].cells.c] : List Value)[j]? = some v → wd.cell? ((ad.add (i * 3)).add j) = some v from fun j v hv => by
    rw [HB.out.cell (by rw [block_of_add, block_of_add]; exact hadb)]
    exact hcs j v hv)
   have hi0 : (0 : Int) ≤ (i : Int) := by omega
   have hi1 : (i : Int) < (n : Int) := by omega
   have HLT := hide hlt
   have C := hide (fun (W : World) (hb : Below w.heap.size w W) => CP.out rs[i] (List.getElem_mem hil) W hb)
   have HTS := hide (all_take_succ Tb.right rs i hil)
   have HBAD := hide (all_bad Tb.right rs i hil)
   generalize rs[i] = r at *
   clear hcs hlt hil hbel
   go_upto_region 4 with (with_reducible refine wpList_load_at rfl 45 (.tmp 11) rfl (ad.add (i * 3)) rfl [.string (S r.text), .int .i64 r.wh, .slice r.cells.ad r.cells.l.length r.cells.c] _ HEC.out Tryd.underlying45 rfl ?c1 ?_)
   case c1 => exact ruleInfo
   refine name_world fun X hX => ?_
   have HX5 := hide (show Blk X wd.heap.size 45 #[.string (S r.text), .int .i64 r.wh, .slice r.cells.ad r.cells.l.length r.cells.c] by rw [← hX.out]; exact Blk.new wd _ _)
   have HXB := hide (show Below wd.heap.size wd X by rw [← hX.out]; exact below_alloc wd _)
   have HXV := hide (show Below w.heap.size w X from HB.out.trans (HXB.out.mono HB.out.size))
   have f0 : X.cell? ⟨wd.heap.size, 0, none⟩ = some (.string (S r.text)) := HX5.out.cell 0
   have f1 : X.cell? ⟨wd.heap.size, 1, none⟩ = some (.int .i64 r.wh) := HX5.out.cell 1
   have f2 : X.cell? ⟨wd.heap.size, 2, none⟩ = some (.slice r.cells.ad r.cells.l.length r.cells.c) := HX5.out.cell 2
   have C1 := hide (C.out X HXV.out)
   clear hX C CP
   cases hpx : Tb.right r with
   | true =>
    have HT2 := hide (show (rs.take (i + 1)).all Tb.right = true by rw [HTS.out, HT.out, hpx]; rfl)
    rw [hpx] at C1
    clear HTS HBAD hpx HRES
    go_wp2_with (go_at_call 71; refine (unhide C1).mono ?_; rintro e w1 ⟨rfl, hb1⟩; have B1 := hide (HXV.out.trans (hb1.mono HXV.out.size)); clear hb1)
    exact ⟨⟨i + 1, HLT.out, by go_num, HT2, B1.out⟩, by have := HLT.out; simp [intOf]; omega⟩
   | false =>
    have HF := hide (show res = false by rw [← HRES.out]; exact HBAD.out hpx)
    rw [hpx] at C1
    clear HTS HBAD hpx HRES HT
    go_wp2_with (go_at_call 71; refine (unhide C1).mono ?_; rintro e w1 ⟨rfl, hb1⟩; have B1 := hide (HXV.out.trans (hb1.mono HXV.out.size)); clear hb1)
    go_ret
    exact ⟨by rw [HF.out]; rfl, B1.out⟩
  ·obtain rfl : i = n := by omega
   have HF := hide (show res = true by
    rw [← HRES.out]
    have h := HT.out
    rwa [List.take_of_length_le (by have := HN.out; omega)] at h)
   have hnt : ¬ ((i : Int) < (i : Int)) := by omega
   clear HRES HT hlt hbel CP
   go_wp2
   go_ret
   exact ⟨by rw [HF.out]; rfl, HB.out⟩
def keyV (k : List UInt8 × Int) : Value := .agg #[.string (S k.1), .int .i64 k.2]
theorem keyV_inj {a b : List UInt8 × Int} (h : keyV a = keyV b) : a = b := by
 unfold keyV at h
 injection h with h
 injection h with h
 injection h with h1 h2
 injection h2 with h2
 injection h1 with h1
 injection h2 with _ h2
 exact Prod.ext (S_inj h1) h2
def SetMap (w : World) (b : Nat) (ks : List (List UInt8 × Int)) : Prop :=
 ∃ es clock, w.heap[b]? = some (.map es clock) ∧ es.toList.map (·.key) = ks.map keyV ∧ ∀ e ∈ es.toList, e.val = .bool true
theorem SetMap.made (w : World) : SetMap (w.alloc (.map #[] 0)) w.heap.size [] := ⟨#[], 0, (MapKept.heap_alloc w _).1, rfl, fun e he => by simp at he⟩
theorem SetMap.lt {w : World} {b : Nat} {ks : List (List UInt8 × Int)} (h : SetMap w b ks) : b < w.heap.size := by
 obtain ⟨es, clock, hb, _⟩ := h
 exact (Array.getElem?_eq_some_iff.1 hb).1
theorem SetMap.below {w w' : World} {b B : Nat} {ks : List (List UInt8 × Int)} (h : SetMap w b ks) (hb : Below B w w') (hB : b < B) : SetMap w' b ks := by
 obtain ⟨es, clock, hh, h2⟩ := h
 exact ⟨es, clock, (hb.block b hB).trans hh, h2⟩
open Go.ChangeMaps (setBlock) in
theorem SetMap.store {P : Program} {t k e : TypeId} {w : World} {b : Nat} {ks : List (List UInt8 × Int)} (h : SetMap w b ks) (K : Maps.Keyed P k) (ht : P.underlying t = some (.map k e)) {key : List UInt8 × Int} {kl : Lit} (hkey : keyOf P k (keyV key) = some kl)
  (hks : ∀ x ∈ ks, ∃ l, keyOf P k (keyV x) = some l) :
  ∃ w', (Instr.mapUpdate t (.map (some b)) (keyV key) (.bool true)).run P w = .ok () w' ∧ SetMap w' b (if key ∈ ks then ks else ks ++ [key]) ∧ w.grownBy w' (some b) ∧ w'.heap.size = w.heap.size := by
 obtain ⟨es, clock, hb, hk, hv⟩ := h
 have yes : ∀ {x : MapEntry}, x ∈ es.toList → x.key = keyV key → key ∈ ks := fun {x} hx hxe => by
  have h : keyV key ∈ ks.map keyV := by rw [← hk, ← hxe]; exact List.mem_map.2 ⟨x, hx, rfl⟩
  obtain ⟨q, hq, hqe⟩ := List.mem_map.1 h
  rwa [← keyV_inj hqe]
 have no : (∀ x ∈ es.toList, x.key ≠ keyV key) → key ∈ ks → False := fun h2 hm => by
  have h : keyV key ∈ es.toList.map (·.key) := by rw [hk]; exact List.mem_map.2 ⟨key, hm, rfl⟩
  obtain ⟨x, hx, hxe⟩ := List.mem_map.1 h
  exact h2 x hx hxe
 have hkeys : ∀ x ∈ es.toList, ∃ l, keyOf P k x.key = some l := fun x hx => by
  have h : x.key ∈ ks.map keyV := by rw [← hk]; exact List.mem_map.2 ⟨x, hx, rfl⟩
  obtain ⟨q, hq, hqe⟩ := List.mem_map.1 h
  rw [← hqe]
  exact hks q hq
 have grow : ∀ o, w.grownBy (setBlock w b o) (some b) := fun o => ⟨rfl, rfl, rfl, by simp [setBlock], fun i _ hi => ChangeMaps.heap_setBlock_other hb _ (fun e => hi (by rw [e]))⟩
 have size : ∀ o, (setBlock w b o).heap.size = w.heap.size := fun o => by simp [setBlock]
 rcases K.find w hkey es.toList hkeys with ⟨h1, h2⟩ | ⟨j, e0, h1, h2, h3⟩
 ·refine ⟨setBlock w b (.map (es.push ⟨keyV key, .bool true, clock⟩) (clock + 1)), ?_, ⟨_, _, ChangeMaps.heap_setBlock_same hb _, ?_, ?_⟩, grow _, size _⟩
  ·simp [Instr.mapUpdate, run_underlying ht, MapKept.run_getObj_map hb, K.check w false hkey, h1, MapKept.run_setObj_map _ hb, Result.andThen, setBlock]
  ·rw [if_neg (fun hm => no h2 hm), Array.toList_push, List.map_append, hk, List.map_append]
   rfl
  ·intro x hx
   rw [Array.toList_push, List.mem_append] at hx
   rcases hx with hx | hx
   ·exact hv x hx
   ·rw [List.mem_singleton] at hx
    rw [hx]
 ·have hm : key ∈ ks := yes (List.mem_of_getElem? h2) h3
  have hj : es[j]? = some e0 := by simpa using h2
  have hlist : (es.modify j (fun e' => { e' with key := keyV key, val := .bool true })).toList = es.toList.set j { e0 with key := keyV key, val := .bool true } := by rw [Array.toList_modify, ChangeMaps.modify_eq_set _ _ _ _ h2]
  refine ⟨setBlock w b (.map (es.modify j (fun e' => { e' with key := keyV key, val := .bool true })) clock), ?_, ⟨_, _, ChangeMaps.heap_setBlock_same hb _, ?_, ?_⟩, grow _, size _⟩
  ·simp [Instr.mapUpdate, run_underlying ht, MapKept.run_getObj_map hb, K.check w false hkey, h1, hj, h3, K.stays w hkey, MapKept.run_setObj_map _ hb, Result.andThen, setBlock]
  ·rw [if_pos hm, hlist, List.map_set, hk]
   have hjk : (ks.map keyV)[j]? = some (keyV key) := by rw [← hk, List.getElem?_map, h2]; simp [h3]
   apply List.ext_getElem?
   intro i
   rw [List.getElem?_set]
   split
   ·rename_i hij
    subst hij
    split
    ·exact hjk.symm
    ·rename_i hlt
     rw [List.getElem?_eq_none (by omega)]
   ·rfl
  ·intro x hx
   rw [hlist] at hx
   obtain ⟨i, hi, ex⟩ := List.getElem_of_mem hx
   rw [List.getElem_set] at ex
   split at ex
   ·rw [← ex]
   ·rw [← ex]
    exact hv _ (List.getElem_mem _)
theorem SetMap.look {P : Program} {t k e : TypeId} {w : World} {b : Nat} {ks : List (List UInt8 × Int)} (h : SetMap w b ks) (K : Maps.Keyed P k) (ht : P.underlying t = some (.map k e)) {key : List UInt8 × Int} {kl : Lit} (hkey : keyOf P k (keyV key) = some kl)
  (hks : ∀ x ∈ ks, ∃ l, keyOf P k (keyV x) = some l) (hz : (zeroValue e).run P w = .ok (.bool false) w) :
  (Instr.lookup t (.map (some b)) (keyV key) false).run P w = .ok (.bool (decide (key ∈ ks))) w := by
 obtain ⟨es, clock, hb, hk, hv⟩ := h
 have yes : ∀ {x : MapEntry}, x ∈ es.toList → x.key = keyV key → key ∈ ks := fun {x} hx hxe => by
  have h : keyV key ∈ ks.map keyV := by rw [← hk, ← hxe]; exact List.mem_map.2 ⟨x, hx, rfl⟩
  obtain ⟨q, hq, hqe⟩ := List.mem_map.1 h
  rwa [← keyV_inj hqe]
 have no : (∀ x ∈ es.toList, x.key ≠ keyV key) → key ∈ ks → False := fun h2 hm => by
  have h : keyV key ∈ es.toList.map (·.key) := by rw [hk]; exact List.mem_map.2 ⟨key, hm, rfl⟩
  obtain ⟨x, hx, hxe⟩ := List.mem_map.1 h
  exact h2 x hx hxe
 have hkeys : ∀ x ∈ es.toList, ∃ l, keyOf P k x.key = some l := fun x hx => by
  have h : x.key ∈ ks.map keyV := by rw [← hk]; exact List.mem_map.2 ⟨x, hx, rfl⟩
  obtain ⟨q, hq, hqe⟩ := List.mem_map.1 h
  rw [← hqe]
  exact hks q hq
 rcases K.find w hkey es.toList hkeys with ⟨h1, h2⟩ | ⟨j, e0, h1, h2, h3⟩
 ·rw [decide_eq_false (fun hm => no h2 hm)]
  simp [Instr.lookup, run_underlying ht, MapKept.run_getObj_map hb, K.check w _ hkey, h1, hz, Result.andThen]
 ·rw [decide_eq_true (yes (List.mem_of_getElem? h2) h3)]
  simp [Instr.lookup, run_underlying ht, MapKept.run_getObj_map hb, K.check w _ hkey, h1, hv e0 (List.mem_of_getElem? h2), Result.andThen]
theorem nameKeyed : Maps.Keyed Tryd.prog 112 := Maps.Keyed.of_law (by
 exact deep_law_laid (m := 100) (by kernel_rfl) (by decide) (by decide +kernel) (by kernel_rfl) (by kernel_rfl))
theorem nameType : Tryd.prog.keyType 112 = true := by kernel_rfl
theorem nameCells : Tryd.prog.cellsOf 112 = 2 := by kernel_rfl
theorem stringCells : Tryd.prog.cellsOf 9 = 1 := by kernel_rfl
theorem intCells : Tryd.prog.cellsOf 3 = 1 := by kernel_rfl
theorem keyOf_name (k : List UInt8 × Int) (h1 : k.1.length ≤ 1048576) (h2 : Wr.inI k.2) : ∃ l, keyOf Tryd.prog 112 (keyV k) = some l := by
 have hw : (Lit.int .i64 k.2).wf = true := by
  unfold Wr.inI at h2
  simp [Lit.wf, IntKind.min, IntKind.max, IntKind.bits, IntKind.signed]
  omega
 have hs : (S k.1).size ≤ maxLen := by rw [S_size]; unfold maxLen; omega
 have a1 : ∀ d, Tryd.prog.keyLits (d + 1) 9 [.string (S k.1)] = some [.string (S k.1).data.toList] := fun d => by
  unfold Program.keyLits
  rw [Tryd.underlying9]
  exact if_pos hs
 have a2 : ∀ d, Tryd.prog.keyLits (d + 1) 3 [.int .i64 k.2] = some [.int .i64 k.2] := fun d => by
  unfold Program.keyLits
  rw [Tryd.underlying3]
  exact if_pos ⟨rfl, hw⟩
 obtain ⟨d, hd⟩ : ∃ d, Tryd.prog.types.size = d + 1 := ⟨Tryd.prog.types.size - 1, by decide +kernel⟩
 unfold keyOf keyV
 rw [Tryd.underlying112]
 simp only [nameType, Value.formed, Tryd.underlying112, nameCells, hd]
 unfold Program.keyLits
 rw [Tryd.underlying112]
 simp [Value.cells, nameCells, stringCells, intCells, a1, a2]
namespace Tb
def insK (ks : List (List UInt8 × Int)) (k : List UInt8 × Int) : List (List UInt8 × Int) := if k ∈ ks then ks else ks ++ [k]
def keysOf (rs : List Rl) : List (List UInt8 × Int) := rs.foldl (fun ks r => insK ks (key r)) []
theorem keysOf_snoc (rs : List Rl) (r : Rl) : keysOf (rs ++ [r]) = insK (keysOf rs) (key r) := by
 unfold keysOf
 rw [List.foldl_append]
 rfl
theorem keysOf_take (rs : List Rl) (i : Nat) (h : i < rs.length) : keysOf (rs.take (i + 1)) = insK (keysOf (rs.take i)) (key rs[i]) := by
 rw [List.take_succ_eq_append_getElem h, keysOf_snoc]
theorem mem_insK {ks : List (List UInt8 × Int)} {k x : List UInt8 × Int} : x ∈ insK ks k ↔ x ∈ ks ∨ x = k := by
 unfold insK
 split
 ·rename_i h
  constructor
  ·exact .inl
  ·rintro (h1 | rfl)
   ·exact h1
   ·exact h
 ·rw [List.mem_append, List.mem_singleton]
theorem keysOf_facts (rs : List Rl) : (∀ x, x ∈ keysOf rs ↔ x ∈ rs.map key) ∧ (keysOf rs).length ≤ rs.length ∧ ((keysOf rs).length < rs.length ↔ ¬ (rs.map key).Nodup) := by
 refine Wr.snoc_ind (P := fun rs => (∀ x, x ∈ keysOf rs ↔ x ∈ rs.map key) ∧ (keysOf rs).length ≤ rs.length ∧ ((keysOf rs).length < rs.length ↔ ¬ (rs.map key).Nodup)) ?_ ?_ rs
 ·exact ⟨fun x => by simp [keysOf], by simp [keysOf], by simp [keysOf]⟩
 ·intro l a ⟨h1, h2, h3⟩
  rw [keysOf_snoc]
  refine ⟨fun x => ?_, ?_, ?_⟩
  ·rw [mem_insK, h1 x, List.map_append, List.mem_append]
   simp
  ·unfold insK
   split <;> simp <;> omega
  ·have hnd : ((l ++ [a]).map key).Nodup ↔ (l.map key).Nodup ∧ key a ∉ l.map key := by
    rw [List.map_append, List.nodup_append]
    constructor
    ·rintro ⟨p, _, q⟩
     exact ⟨p, fun hm => q _ hm (key a) (by simp) rfl⟩
    ·rintro ⟨p, q⟩
     refine ⟨p, by simp, fun x hx y hy => ?_⟩
     simp at hy
     subst hy
     intro he
     exact q (he ▸ hx)
   rw [hnd, List.length_append, List.length_singleton]
   unfold insK
   by_cases hm : key a ∈ keysOf l
   ·rw [if_pos hm]
    constructor
    ·intro _ h
     exact h.2 ((h1 _).1 hm)
    ·intro _
     omega
   ·rw [if_neg hm, List.length_append, List.length_singleton]
    constructor
    ·intro h h4
     exact h3.1 (by omega) h4.1
    ·intro h
     have : (keysOf l).length < l.length := h3.2 (fun h4 => h ⟨h4, fun h5 => hm ((h1 _).2 h5)⟩)
     omega
theorem lone_eq (rs : List Rl) : lone rs = !decide ((keysOf rs).length < rs.length) := by
 unfold lone
 have h := (keysOf_facts rs).2.2
 by_cases hn : (rs.map key).Nodup
 ·rw [decide_eq_true hn, decide_eq_false (fun h1 => h.1 h1 hn)]; rfl
 ·rw [decide_eq_false hn, decide_eq_true (h.2 hn)]; rfl
theorem ownsC_eq (rs : List Rl) (c : UInt8) : ownsC rs c = decide (([c], (0 : Int)) ∈ keysOf rs) := by
 unfold ownsC
 exact decide_eq_decide.2 ((keysOf_facts rs).1 _).symm
end Tb
theorem wpList_mapUpdate_set {w : World} {ops : Array Oper} {rest : List Oper} {o : Oper} {a : Act} {Q : Exit → Act → World → Prop}
  (hg : o.guard = none) (m x v : Operand) (hop : o.op = Op.mapUpdate 108 m x v) (b : Nat) (ks : List (List UInt8 × Int)) (k : List UInt8 × Int)
  (hm : a.eval m = .map (some b)) (hset : SetMap w b ks) (hx : a.eval x = keyV k) (hv : a.eval v = .bool true) (hk1 : k.1.length ≤ 1048576) (hk2 : Wr.inI k.2) (hks : ∀ x ∈ ks, x.1.length ≤ 1048576 ∧ Wr.inI x.2)
  (hK : ∀ w', SetMap w' b (Tb.insK ks k) → w.grownBy w' (some b) → wpList Tryd.prog ops Q rest (a.put o.dst undef) w') :
  wpList Tryd.prog ops Q (o :: rest) a w := by
 refine wpList_plain hg fun K' hK' => ?_
 obtain ⟨kl, hkl⟩ := keyOf_name k hk1 hk2
 obtain ⟨w', hrun, r1, r2, _⟩ := hset.store nameKeyed Tryd.underlying108 hkl (fun x hx => keyOf_name x (hks x hx).1 (hks x hx).2)
 unfold Oper.wp
 simp [execOp, hop, hm, hx, hv, hrun, Result.andThen]
 exact hK' _ _ (hK w' r1 r2)
theorem run_makeMap_some {P : Program} (t k e : TypeId) (ht : P.underlying t = some (.map k e)) (n : Nat) (W : World) : (Instr.makeMap t (some (.int .i64 (n : Int)))).run P W = .ok (.map (some W.heap.size)) (W.alloc (.map #[] 0)) := by
 simp [Instr.makeMap, run_underlying ht, asInt, asIntOf]
set_option maxHeartbeats 2000000 in
set_option maxRecDepth 100000 in
theorem names_any (A : Option Addr) (c : Nat) (rs : List Tb.Rl) (w : World) (hr : RulesAt w w.heap.size A rs) :
  Calls Tryd.prog 62 #[.slice A rs.length c] w fun e w' => e = .returned (.map (some w.heap.size)) ∧ SetMap w' w.heap.size (Tb.keysOf rs) ∧ Below w.heap.size w w' := by
 have hbig := hr.2.2
 obtain ⟨n, hn⟩ : ∃ n, n = rs.length := ⟨_, rfl⟩
 have HN := hide hn
 rw [← hn] at hbig ⊢
 have hni : (n : Int) ≤ 1048576 := by omega
 have HR := hide hr
 have HKS := hide (fun (i : Nat) => (show ∀ x ∈ Tb.keysOf (rs.take i), x.1.length ≤ 1048576 ∧ Wr.inI x.2 from fun x hx => by
  have h := ((Tb.keysOf_facts (rs.take i)).1 x).1 hx
  obtain ⟨r, hm, rfl⟩ := List.mem_map.1 h
  exact (hr.2.1 r (List.mem_of_mem_take hm)).2))
 have hmm := fun W => run_makeMap_some (P := Tryd.prog) 108 _ _ Tryd.underlying108 n W
 clear hn hr
 go_enter Tryd.func62, Tryd.ntmps62
 go_upto_region 2 with fail
 refine name_world fun V hV => ?_
 have VM := hide (show SetMap V w.heap.size [] by rw [← hV.out]; exact SetMap.made w)
 have VB := hide (show Below w.heap.size w V by rw [← hV.out]; exact below_alloc w _)
 have hgB : w.heap.size < V.heap.size := VM.out.lt
 clear hV hmm
 go_wp2
 go_loopw [11] (fun s wr => ∃ i : Nat, i ≤ n ∧ s = .int .i64 (i : Int) ∧ SetMap wr w.heap.size (Tb.keysOf (rs.take i)) ∧ Below w.heap.size w wr) (fun s _ => n - (intOf s).toNat)
 case atStart => exact ⟨0, by omega, rfl, by rw [List.take_zero]; exact VM.out, VB.out⟩
 case round =>
  obtain ⟨i, hi, rfl, hset, hbel⟩ := hrel
  obtain ⟨wd, rfl⟩ : ∃ wd, wd = wr := ⟨wr, rfl⟩
  have HB := hide hbel
  have HS := hide hset
  have hgd : w.heap.size < wd.heap.size := hset.lt
  by_cases hlt : i < n
  ·have hil : i < rs.length := by rw [← HN.out]; exact hlt
   obtain ⟨ad, rfl, hadb, hcs⟩ := reads_rule HR.out i hil
   have HEC := hide (show ∀ (j : Nat) (v : Value), ([.string (S rs[i].text), .int .i64 rs[i].wh, .slice rs[i].cells.ad rs[i].cells.l.length rs[i].cells.c] : List Value)[j]? = some v → wd.cell? ((ad.add (i * 3)).add j) = some v from fun j v hv => by
    rw [HB.out.cell (by rw [block_of_add, block_of_add]; exact hadb)]
    exact hcs j v hv)
   have hi0 : (0 : Int) ≤ (i : Int) := by omega
   have hi1 : (i : Int) < (n : Int) := by omega
   have HLT := hide hlt
   have HK := hide (Tb.keysOf_take rs i hil)
   have HRT := hide (HR.out.2.1 rs[i] (List.getElem_mem hil)).2
   generalize rs[i] = r at *
   clear hcs hlt hil hbel hset
   go_upto_region 5 with (with_reducible refine wpList_load_at rfl 45 (.tmp 13) rfl (ad.add (i * 3)) rfl [.string (S r.text), .int .i64 r.wh, .slice r.cells.ad r.cells.l.length r.cells.c] _ HEC.out Tryd.underlying45 rfl ?c1 ?_)
   case c1 => exact ruleInfo
   refine name_world fun X hX => ?_
   have HX5 := hide (show Blk X wd.heap.size 45 #[.string (S r.text), .int .i64 r.wh, .slice r.cells.ad r.cells.l.length r.cells.c] by rw [← hX.out]; exact Blk.new wd _ _)
   have HXB := hide (show Below wd.heap.size wd X by rw [← hX.out]; exact below_alloc wd _)
   have HXV := hide (show Below w.heap.size w X from HB.out.trans (HXB.out.mono HB.out.size))
   have HXS := hide (HS.out.below HXB.out hgd)
   have f0 : X.cell? ⟨wd.heap.size, 0, none⟩ = some (.string (S r.text)) := HX5.out.cell 0
   have f1 : X.cell? ⟨wd.heap.size, 1, none⟩ = some (.int .i64 r.wh) := HX5.out.cell 1
   clear hX
   go_wp2_with (at_mapUpdate; refine wpList_mapUpdate_set rfl _ _ _ rfl w.heap.size (Tb.keysOf (rs.take i)) (Tb.key r) rfl HXS.out rfl rfl HRT.out.1 HRT.out.2 (HKS.out i) ?_; intro w2 hset2 hgrow2; have S2 := hide hset2; have B2 := hide (HXV.out.grown hgrow2 HXV.out.size (by intro k hk; injection hk with hk; omega)); clear hset2 hgrow2)
   exact ⟨⟨i + 1, HLT.out, by go_num, by rw [HK.out]; exact S2.out, B2.out⟩, by have := HLT.out; simp [intOf]; omega⟩
  ·obtain rfl : i = n := by omega
   have hnt : ¬ ((i : Int) < (i : Int)) := by omega
   have HSF := hide (show SetMap wd w.heap.size (Tb.keysOf rs) by
    have h := HS.out
    rwa [List.take_of_length_le (by have := HN.out; omega)] at h)
   clear hlt hbel hset
   go_wp2
   go_ret
   exact ⟨rfl, HSF.out, HB.out⟩
end Go.Proofs.YtjnnohghgkjhcaaDoor
