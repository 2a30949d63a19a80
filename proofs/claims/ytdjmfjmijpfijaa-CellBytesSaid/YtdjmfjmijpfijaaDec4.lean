/-
  getList at int and at string: by their contracts.
-/
import Derived.Test.YtdjmfjmijpfijaaDec3
import Derived.Deep.LoopGhost
import Derived.WalkSmall
namespace Go.Proofs.Ytdjmfjmijpfijaa
open Go.RowKit
set_option linter.unusedVariables false
set_option linter.unusedSimpArgs false
namespace Wr
/-- so many elements, one behind the other; the first error ends it -/
def decLoop {α : Type} (get : List UInt8 → α × Nat × Int) : Nat → List UInt8 → List α × Nat × Int
  | 0, _ => ([], 0, 0)
  | k + 1, l =>
    if (get l).2.2 ≠ 0 then ([], 0, (get l).2.2)
    else if (decLoop get k (l.drop (get l).2.1)).2.2 ≠ 0 then ([], 0, (decLoop get k (l.drop (get l).2.1)).2.2)
    else ((get l).1 :: (decLoop get k (l.drop (get l).2.1)).1, (get l).2.1 + (decLoop get k (l.drop (get l).2.1)).2.1, 0)
/-- what a part that was decoded and the answer on the rest make -/
def comb {α : Type} (vs : List α) (us : Nat) (r : List α × Nat × Int) : List α × Nat × Int :=
  if r.2.2 ≠ 0 then ([], 0, r.2.2) else (vs ++ r.1, us + r.2.1, 0)
/-- what decoding a list answers -/
def decList {α : Type} (size : Nat) (get : List UInt8 → α × Nat × Int) (l : List UInt8) : List α × Nat × Int :=
  if (decLen size l).2.2 ≠ 0 then ([], 0, (decLen size l).2.2)
  else comb [] (decLen size l).2.1 (decLoop get (decLen size l).1.toNat (l.drop (decLen size l).2.1))
theorem comb_err {α : Type} (get : List UInt8 → α × Nat × Int) (vs : List α) (us k : Nat) (l : List UInt8) (h : (get l).2.2 ≠ 0) : comb vs us (decLoop get (k + 1) l) = ([], 0, (get l).2.2) := by
  simp [comb, decLoop, h]
theorem comb_ok {α : Type} (get : List UInt8 → α × Nat × Int) (vs : List α) (us k : Nat) (l : List UInt8) (h : (get l).2.2 = 0) :
    comb vs us (decLoop get (k + 1) l) = comb (vs ++ [(get l).1]) (us + (get l).2.1) (decLoop get k (l.drop (get l).2.1)) := by
  unfold comb
  simp only [decLoop, h]
  by_cases h2 : (decLoop get k (l.drop (get l).2.1)).2.2 = 0
  · simp [h2, Nat.add_assoc]
  · simp [h2]
theorem comb_end {α : Type} (get : List UInt8 → α × Nat × Int) (vs : List α) (us : Nat) (l : List UInt8) : comb vs us (decLoop get 0 l) = (vs, us, 0) := by simp [comb, decLoop]
end Wr
theorem IntInfo : (Try.prog.info? 3).map (fun i => (i.zero, i.size, i.bytes)) = some (some (.int .i64 0), 1, 8) := by kernel_rfl

/-- what stands in memory while a list of integers is decoded -/
structure MidInt (w : World) (ad : Addr) (n c z : Nat) (l : List UInt8) (R : List Int × Nat × Int) (k us : Nat) (vs : List Int) (wr : World) : Prop where
  len : vs.length = k
  le : us ≤ n
  rest : Wr.comb vs us (Wr.decLoop Wr.decI (z - k) (l.drop us)) = R
  b : Blk wr w.heap.size 23 #[.slice (some ad) n c]
  g : Blk wr (w.heap.size + 1) 76 #[.func (.func 45) #[] #[]]
  u : Blk wr (w.heap.size + 1 + 1) 3 #[.int .i64 (us : Int)]
  own : wr.ownsRow (w.heap.size + 1 + 1 + 1) 3 1 (.slice (some ⟨w.heap.size + 1 + 1 + 1, 0, none⟩) z z) z (filled z k (vs.map (Value.int .i64)) (.int .i64 0))
  old : Below w.heap.size w wr

theorem MidInt.next {w : World} {ad : Addr} {n c z : Nat} {l : List UInt8} {R : List Int × Nat × Int} {k us : Nat} {vs : List Int} {wr : World} (h : MidInt w ad n c z l R k us vs wr) (hk : k < z) (hl : n = l.length)
    (h0 : (Wr.decI (l.drop us)).2.2 = 0) (m : Nat) :
    MidInt w ad n c z l R (k + 1) (us + (Wr.decI (l.drop us)).2.1) (vs ++ [(Wr.decI (l.drop us)).1])
      (((wr.drewN m).setCell ⟨w.heap.size + 1 + 1, 0, none⟩ (.int .i64 ((us + (Wr.decI (l.drop us)).2.1 : Nat) : Int))).setCell ⟨w.heap.size + 1 + 1 + 1, k, none⟩ ((Value.int .i64) (Wr.decI (l.drop us)).1)) := by
  obtain ⟨h1, h2, h3, h4, h5, h6, h7, h8⟩ := h
  have hu := Wr.decI_used (l.drop us)
  rw [List.length_drop] at hu
  have hown : ((wr.drewN m).setCell ⟨w.heap.size + 1 + 1, 0, none⟩ (.int .i64 ((us + (Wr.decI (l.drop us)).2.1 : Nat) : Int))).ownsRow (w.heap.size + 1 + 1 + 1) 3 1 (.slice (some ⟨w.heap.size + 1 + 1 + 1, 0, none⟩) z z) z (filled z k (vs.map (Value.int .i64)) (.int .i64 0)) :=
    ownsRow_setCell_below (w := wr.drewN m) h7 (by show w.heap.size + 1 + 1 < w.heap.size + 1 + 1 + 1; omega) _
  refine ⟨by simp [h1], by omega, ?_, ?_, ?_, ?_, ?_, ?_⟩
  · rw [← h3, show z - k = (z - (k + 1)) + 1 by omega, Wr.comb_ok _ _ _ _ _ h0, List.drop_drop]
  · exact ((h4.drewN m).far (by show w.heap.size ≠ w.heap.size + 1 + 1; omega) _).far (by show w.heap.size ≠ w.heap.size + 1 + 1 + 1; omega) _
  · exact ((h5.drewN m).far (by show w.heap.size + 1 ≠ w.heap.size + 1 + 1; omega) _).far (by show w.heap.size + 1 ≠ w.heap.size + 1 + 1 + 1; omega) _
  · have := ((h6.drewN m).set_ 0 (.int .i64 ((us + (Wr.decI (l.drop us)).2.1 : Nat) : Int))).far (p := ⟨w.heap.size + 1 + 1 + 1, k, none⟩) (by show w.heap.size + 1 + 1 ≠ w.heap.size + 1 + 1 + 1; omega) ((Value.int .i64) (Wr.decI (l.drop us)).1)
    simpa using this
  · have := (hown.stored k ((Value.int .i64) (Wr.decI (l.drop us)).1)).1
    rw [filled_set z k _ _ _ (by simpa using h1) hk] at this
    simpa using this
  · exact ((below_drewN h8 m).setCell (by show w.heap.size ≤ w.heap.size + 1 + 1; omega) _).setCell (by show w.heap.size ≤ w.heap.size + 1 + 1 + 1; omega) _

theorem StrInfo : (Try.prog.info? 9).map (fun i => (i.zero, i.size, i.bytes)) = some (some (.string ByteArray.empty), 1, 16) := by kernel_rfl

/-- what stands in memory while a list of integers is decoded -/
structure MidStr (w : World) (ad : Addr) (n c z : Nat) (l : List UInt8) (R : List (List UInt8) × Nat × Int) (k us : Nat) (vs : List (List UInt8)) (wr : World) : Prop where
  len : vs.length = k
  le : us ≤ n
  rest : Wr.comb vs us (Wr.decLoop Wr.decB (z - k) (l.drop us)) = R
  b : Blk wr w.heap.size 23 #[.slice (some ad) n c]
  g : Blk wr (w.heap.size + 1) 63 #[.func (.func 33) #[] #[]]
  u : Blk wr (w.heap.size + 1 + 1) 3 #[.int .i64 (us : Int)]
  own : wr.ownsRow (w.heap.size + 1 + 1 + 1) 9 1 (.slice (some ⟨w.heap.size + 1 + 1 + 1, 0, none⟩) z z) z (filled z k (vs.map VS) (.string ByteArray.empty))
  old : Below w.heap.size w wr

theorem MidStr.next {w : World} {ad : Addr} {n c z : Nat} {l : List UInt8} {R : List (List UInt8) × Nat × Int} {k us : Nat} {vs : List (List UInt8)} {wr : World} (h : MidStr w ad n c z l R k us vs wr) (hk : k < z) (hl : n = l.length)
    (h0 : (Wr.decB (l.drop us)).2.2 = 0) (m : Nat) :
    MidStr w ad n c z l R (k + 1) (us + (Wr.decB (l.drop us)).2.1) (vs ++ [(Wr.decB (l.drop us)).1])
      (((wr.drewN m).setCell ⟨w.heap.size + 1 + 1, 0, none⟩ (.int .i64 ((us + (Wr.decB (l.drop us)).2.1 : Nat) : Int))).setCell ⟨w.heap.size + 1 + 1 + 1, k, none⟩ (VS (Wr.decB (l.drop us)).1)) := by
  obtain ⟨h1, h2, h3, h4, h5, h6, h7, h8⟩ := h
  have hu := Wr.decB_used (l.drop us)
  rw [List.length_drop] at hu
  have hown : ((wr.drewN m).setCell ⟨w.heap.size + 1 + 1, 0, none⟩ (.int .i64 ((us + (Wr.decB (l.drop us)).2.1 : Nat) : Int))).ownsRow (w.heap.size + 1 + 1 + 1) 9 1 (.slice (some ⟨w.heap.size + 1 + 1 + 1, 0, none⟩) z z) z (filled z k (vs.map VS) (.string ByteArray.empty)) :=
    ownsRow_setCell_below (w := wr.drewN m) h7 (by show w.heap.size + 1 + 1 < w.heap.size + 1 + 1 + 1; omega) _
  refine ⟨by simp [h1], by omega, ?_, ?_, ?_, ?_, ?_, ?_⟩
  · rw [← h3, show z - k = (z - (k + 1)) + 1 by omega, Wr.comb_ok _ _ _ _ _ h0, List.drop_drop]
  · exact ((h4.drewN m).far (by show w.heap.size ≠ w.heap.size + 1 + 1; omega) _).far (by show w.heap.size ≠ w.heap.size + 1 + 1 + 1; omega) _
  · exact ((h5.drewN m).far (by show w.heap.size + 1 ≠ w.heap.size + 1 + 1; omega) _).far (by show w.heap.size + 1 ≠ w.heap.size + 1 + 1 + 1; omega) _
  · have := ((h6.drewN m).set_ 0 (.int .i64 ((us + (Wr.decB (l.drop us)).2.1 : Nat) : Int))).far (p := ⟨w.heap.size + 1 + 1 + 1, k, none⟩) (by show w.heap.size + 1 + 1 ≠ w.heap.size + 1 + 1 + 1; omega) (VS (Wr.decB (l.drop us)).1)
    simpa using this
  · have := (hown.stored k (VS (Wr.decB (l.drop us)).1)).1
    rw [filled_set z k _ _ _ (by simpa using h1) hk] at this
    simpa using this
  · exact ((below_drewN h8 m).setCell (by show w.heap.size ≤ w.heap.size + 1 + 1; omega) _).setCell (by show w.heap.size ≤ w.heap.size + 1 + 1 + 1; omega) _

set_option maxHeartbeats 400000 in
set_option maxRecDepth 100000 in
theorem getListStr_err (A : Option Addr) (n c size : Nat) (l : List UInt8) (w : World) (hr : Reads w w.heap.size 1 A n (BV l)) (hm : n ≤ maxLen) (hnc : n ≤ c) (hs1 : 1 ≤ size) (hs2 : size ≤ 16) (he : (Wr.decLen size l).2.2 ≠ 0) :
    Calls Try.prog 32 #[.slice A n c, .int .i64 (size : Int), .func (.func 33) #[] #[]] w fun e w' =>
      e = .returned (.tuple #[.slice none 0 0, .int .i64 0, .int .i64 (Wr.decLen size l).2.2]) ∧ Below w.heap.size w w' := by
  have hr2 : ∀ o o', Reads ((w.alloc o).alloc o') ((w.alloc o).alloc o').heap.size 1 A n (BV l) := fun o o' => (((hr.alloc (Nat.le_refl _) o).alloc (by simp) o').more (by simp; omega))
  have H := fun o o' => getLength_any A n c l size ((w.alloc o).alloc o') (hr2 o o') hm hnc hs1 hs2
  generalize Wr.decLen size l = d at *
  obtain ⟨z, u, er⟩ := d
  simp only at H he ⊢
  have hb' : (er != 0) = true := by rw [bne_iff_ne]; exact he
  have H := hide H
  clear hr hr2 he
  unfold maxLen at hm
  go_enter Try.func32, Try.ntmps32
  go_wp2_with fail
  refine (unhide H _ _).mono ?_
  rintro e w' ⟨rfl, rfl⟩
  go_wp2
  go_ret3
  exact ⟨rfl, ((((Below.refl _ _).alloc (Nat.le_refl _) _).alloc (by simp) _).alloc (by simp; omega) _)⟩

set_option maxHeartbeats 400000 in
set_option maxRecDepth 100000 in
theorem getListStr_ok (ad : Addr) (n c size : Nat) (l : List UInt8) (w : World) (hr : Reads w w.heap.size 1 (some ad) n (BV l)) (hm : n ≤ maxLen) (hnc : n ≤ c) (hs1 : 1 ≤ size) (hs2 : size ≤ 16) (z u : Nat) (hd : Wr.decLen size l = ((z : Int), u, 0)) (hz : z ≤ 17592186044416) (hun : u ≤ n)
    (R : List (List UInt8) × Nat × Int) (hR : Wr.comb [] u (Wr.decLoop Wr.decB z (l.drop u)) = R) :
    Calls Try.prog 32 #[.slice (some ad) n c, .int .i64 (size : Int), .func (.func 33) #[] #[]] w fun e w' =>
      ∃ v, e = .returned (.tuple #[v, .int .i64 R.2.1, .int .i64 R.2.2]) ∧ w'.ownsRow w.heap.size 9 1 v R.1.length (R.1.map VS) ∧ Below w.heap.size w w' := by
  have hn : n = l.length := by have := hr.1; simp [BV] at this; omega
  have hr2 : ∀ o o', Reads ((w.alloc o).alloc o') ((w.alloc o).alloc o').heap.size 1 (some ad) n (BV l) := fun o o' => (((hr.alloc (Nat.le_refl _) o).alloc (by simp) o').more (by simp; omega))
  have H := fun o o' => getLength_any (some ad) n c l size ((w.alloc o).alloc o') (hr2 o o') hm hnc hs1 hs2
  rw [hd] at H
  have H := hide H
  have HN := hide hn
  have HR := hide hr
  have HM := hide hm
  have HE := hide hR
  clear hr hr2 hn hd hR
  unfold maxLen at hm
  obtain ⟨i0, hi, hz0, hz1, hz2⟩ := info_parts StrInfo
  have HI := hide hi
  have HZ0 := hide hz0
  have HZ1 := hide hz1
  have HZ2 := hide hz2
  clear hi hz0 hz1 hz2
  go_enter Try.func32, Try.ntmps32
  go_wp2_with fail
  refine (unhide H _ _).mono ?_
  rintro e w' ⟨rfl, rfl⟩
  go_wp2_with (at_make; refine wpList_make_full _ rfl _ _ 30 rfl (w.heap.size + 1 + 1 + 1) 9 i0 (.string ByteArray.empty) 1 Try.underlying30 HI.out HZ0.out HZ1.out _ _ _ _ z rfl rfl rfl rfl (by rw [HZ2.out]; omega) (by unfold maxLen; omega) (by simp) ?_; intro w1 hown1 hgrow1)
  have hs3 : (((w.alloc (.cells #[.slice (some ad) n c] 23)).alloc (.cells #[.func (.func 33) #[] #[]] 63)).alloc (.cells #[.int .i64 (u : Int)] 3)).heap.size = w.heap.size + 1 + 1 + 1 := by simp
  have hM0 : MidStr w ad n c z l R 0 u [] w1 := by
    refine ⟨rfl, hun, HE.out, ?_, ?_, ?_, ?_, ?_⟩
    · exact (((Blk.new w _ _).alloc _).alloc _).grown hgrow1 (by simp)
    · have := ((Blk.new (w.alloc (.cells #[.slice (some ad) n c] 23)) 63 #[.func (.func 33) #[] #[]]).alloc (.cells #[.int .i64 (u : Int)] 3)).grown hgrow1 (by simp)
      simpa using this
    · have := (Blk.new ((w.alloc (.cells #[.slice (some ad) n c] 23)).alloc (.cells #[.func (.func 33) #[] #[]] 63)) 3 #[.int .i64 (u : Int)]).grown hgrow1 (by simp)
      simpa using this
    · rw [hs3] at hown1
      simpa [filled, toList_madeCells_one, Value.cells] using hown1
    · exact ((((Below.refl _ _).alloc (Nat.le_refl _) _).alloc (by simp) _).alloc (by simp; omega) _).grown hgrow1 (by simp; omega) (by simp)
  clear hown1 hgrow1 hs3
  go_loopw [30] (fun i wr => ∃ (k us : Nat) (vs : List (List UInt8)), k ≤ z ∧ i = .int .i64 (k : Int) ∧ MidStr w ad n c z l R k us vs wr) (fun i _ => z - (intOf i).toNat)
  case atStart => exact ⟨0, u, [], Nat.zero_le _, rfl, hM0⟩
  case round =>
    obtain ⟨k, us, vs, hk, rfl, hmid⟩ := hrel
    clear hM0
    by_cases hlt : k < z
    · have hrw : Reads wr wr.heap.size 1 (some ad) n (BV l) := (HR.out.below hmid.old).more hmid.old.size
      obtain ⟨v, uu, er, hd⟩ : ∃ v uu er, Wr.decB (l.drop us) = (v, uu, er) := ⟨_, _, _, rfl⟩
      have C := nextStr_any ⟨w.heap.size + 1, 0, none⟩ ⟨w.heap.size, 0, none⟩ ⟨w.heap.size + 1 + 1, 0, none⟩ ad n c us l wr (by rw [hmid.g.cell]; rfl) (by rw [hmid.b.cell]; rfl) (by rw [hmid.u.cell]; rfl) (hmid.u.frozen 0) hrw HM.out hnc hmid.le
      have hnext := hmid.next hlt HN.out
      have hend := Wr.comb_err Wr.decB vs us (z - k - 1) (l.drop us)
      have hrest := hmid.rest
      rw [show z - k = z - k - 1 + 1 by omega] at hrest
      rw [hrest] at hend
      rw [hd] at C hnext hend
      simp only at C hnext hend
      clear hd hrest
      have C := hide C
      have HX := hide hnext
      have HY := hide hend
      clear hnext hend hrw
      go_wp2_with fail
      refine (unhide C).mono ?_
      rintro e w5 ⟨rfl, m, hw5⟩
      have hown5 : w5.ownsRow (w.heap.size + 1 + 1 + 1) 9 1 (.slice (some ⟨w.heap.size + 1 + 1 + 1, 0, none⟩) z z) z (filled z k (vs.map VS) (.string ByteArray.empty)) := by
        rw [hw5]
        exact ownsRow_setCell_below (w := wr.drewN m) hmid.own (by show w.heap.size + 1 + 1 < w.heap.size + 1 + 1 + 1; omega) _
      have hc5 : w5.cell? ⟨w.heap.size + 1 + 1 + 1, k, none⟩ = some (.string ByteArray.empty) := by
        rw [hown5.cellAt k (by omega)]
        exact filled_get z k _ _ (by simpa using hmid.len) hlt
      have hf5 := hown5.frozenAt k
      have hold5 : Below w.heap.size w w5 := by rw [hw5]; exact (below_drewN hmid.old m).setCell (by show w.heap.size ≤ w.heap.size + 1 + 1; omega) _
      have HW := hide hw5
      clear hw5 hown5
      by_cases h0 : er = 0
      · subst h0
        go_wp2
        go_roundw
        case rel => exact ⟨k + 1, us + uu, vs ++ [v], by omega, by go_num, by rw [HW.out]; exact HX.out (by first | rfl | trivial) m⟩
        case measure => simp [intOf]; omega
      · have hb' : (er != 0) = true := by rw [bne_iff_ne]; exact h0
        have HZ := hide (HY.out h0)
        clear h0
        go_wp2
        go_ret3
        refine ⟨.slice none 0 0, ?_, ?_, ?_⟩
        · rw [HZ.out]; rfl
        · rw [HZ.out]; exact World.ownsRow_nil _ _ _ _
        · exact hold5.setCell (by show w.heap.size ≤ w.heap.size + 1 + 1 + 1; omega) _
    · obtain rfl : k = z := by omega
      have hcu : wr.cell? ⟨w.heap.size + 1 + 1, 0, none⟩ = some (.int .i64 (us : Int)) := by rw [hmid.u.cell]; rfl
      have hR : R = (vs, us, 0) := by
        have := hmid.rest
        rw [Nat.sub_self, Wr.comb_end] at this
        exact this.symm
      have HR2 := hide hR
      clear hR
      go_wp2
      go_quiet (fail)
      go_wp2
      go_ret3
      have hown := hmid.own
      rw [filled_full] at hown
      refine ⟨.slice (some ⟨w.heap.size + 1 + 1 + 1, 0, none⟩) k k, ?_, ?_, ?_⟩
      · rw [HR2.out]; rfl
      · rw [HR2.out]
        show World.ownsRow _ _ _ _ _ vs.length _
        rw [hmid.len]
        exact own_lower (own_drewN hown _) (by omega)
      · exact below_drewN hmid.old _

/-- getList[string], for every slice of bytes -/
theorem getListStr_any (A : Option Addr) (n c size : Nat) (l : List UInt8) (w : World) (hr : Reads w w.heap.size 1 A n (BV l)) (hm : n ≤ 17592186044416) (hnc : n ≤ c) (hs1 : 1 ≤ size) (hs2 : size ≤ 16) :
    Calls Try.prog 32 #[.slice A n c, .int .i64 (size : Int), .func (.func 33) #[] #[]] w fun e w' =>
      ∃ v, e = .returned (.tuple #[v, .int .i64 (Wr.decList size Wr.decB l).2.1, .int .i64 (Wr.decList size Wr.decB l).2.2]) ∧ w'.ownsRow w.heap.size 9 1 v (Wr.decList size Wr.decB l).1.length ((Wr.decList size Wr.decB l).1.map VS) ∧ Below w.heap.size w w' := by
  have hn : n = l.length := by have := hr.1; simp [BV] at this; omega
  unfold Wr.decList
  by_cases he : (Wr.decLen size l).2.2 = 0
  · obtain ⟨_, _, h1, h2, h3⟩ := Wr.decLen_ok hs1 he
    rw [if_neg (by simpa using he)]
    have h4 : (Wr.decLen size l).1.toNat ≤ size * (Wr.decLen size l).1.toNat := Nat.le_mul_of_pos_left _ (by omega)
    obtain ⟨ad, rfl, _, _⟩ := hr.2 (by omega)
    exact getListStr_ok ad n c size l w hr (by unfold maxLen; omega) hnc hs1 hs2 (Wr.decLen size l).1.toNat (Wr.decLen size l).2.1 (by rw [Int.toNat_of_nonneg h1, ← he]) (by omega) (by omega) _ rfl
  · rw [if_pos (by simpa using he)]
    refine (getListStr_err A n c size l w hr (by unfold maxLen; omega) hnc hs1 hs2 he).mono fun e w' h => ?_
    exact ⟨_, h.1, World.ownsRow_nil _ _ _ _, h.2⟩

set_option maxHeartbeats 400000 in
set_option maxRecDepth 100000 in
/-- GetStrings, for every slice of bytes -/
theorem getStrings_any (A : Option Addr) (n c : Nat) (l : List UInt8) (w : World) (hr : Reads w w.heap.size 1 A n (BV l)) (hm : n ≤ 17592186044416) (hnc : n ≤ c) :
    Calls Try.prog 19 #[.slice A n c] w fun e w' =>
      ∃ v, e = .returned (.tuple #[v, .int .i64 (Wr.decList 1 Wr.decB l).2.1, .int .i64 (Wr.decList 1 Wr.decB l).2.2]) ∧ w'.ownsRow w.heap.size 9 1 v (Wr.decList 1 Wr.decB l).1.length ((Wr.decList 1 Wr.decB l).1.map VS) ∧ Below w.heap.size w w' := by
  have H := hide (getListStr_any A n c 1 l w hr hm hnc (by omega) (by omega))
  generalize Wr.decList 1 Wr.decB l = R at *
  clear hr
  go_enter Try.func19, Try.ntmps19
  go_wp2_with fail
  refine (unhide H).mono ?_
  rintro e w' ⟨v, rfl, hown, hb⟩
  have HO := hide hown
  clear hown
  go_wp2
  go_ret3
  exact ⟨v, rfl, HO.out, hb⟩

end Go.Proofs.Ytdjmfjmijpfijaa
