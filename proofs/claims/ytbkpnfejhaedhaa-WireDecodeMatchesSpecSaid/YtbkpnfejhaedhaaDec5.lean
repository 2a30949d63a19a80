/-
  GetDigests: the closures and getList at digests, by their contracts.
-/
import Derived.Test.YtbkpnfejhaedhaaDec4
import Derived.Laws.CopyOwn
import Derived.Laws.Tables
import Derived.Deep.MidRow
import Derived.Deep.WholeRow
import Derived.Deep.RegionWith
import Derived.Deep.RegionHeld3
namespace Go.Proofs.Ytbkpnfejhaedhaa
open Go.RowKit
set_option linter.unusedVariables false
set_option linter.unusedSimpArgs false

/-- sixteen zero bytes -/
def Z16 : List Value := List.replicate 16 (.int .u8 0)
theorem byteSize : (Try.prog.info? 5).map (·.size) = some 1 := by kernel_rfl
theorem digestSize : (Try.prog.info? 57).map (·.size) = some 16 := by kernel_rfl
theorem BV_one (l : List UInt8) : ∀ v ∈ BV l, v.oneCell' = true := by
  intro v hv
  simp only [BV, List.mem_map] at hv
  obtain ⟨c, _, rfl⟩ := hv
  rfl
theorem reads_cells {w : World} {B n : Nat} {ad : Addr} {l : List UInt8} (hr : Reads w B 1 (some ad) n (BV l)) (m : Nat) : ∀ j v, (BV (l.take m))[j]? = some v → w.cell? (ad.add j) = some v := by
  intro j v hj
  unfold BV at hj
  rw [List.getElem?_map] at hj
  have hjm : j < m := by
    rcases Nat.lt_or_ge j m with h | h
    · exact h
    · rw [List.getElem?_eq_none (by simp; omega)] at hj; simp at hj
  rw [List.getElem?_take_of_lt hjm] at hj
  have hjl : j < l.length := by
    rcases Nat.lt_or_ge j l.length with h | h
    · exact h
    · rw [List.getElem?_eq_none h] at hj; simp at hj
  rw [reads_cell hr j hjl]
  rw [List.getElem?_eq_getElem hjl] at hj
  simpa using hj

theorem results_cell_tmp2 {P : Program} {fn : Func} {p t u : Tmp} {ty : TypeId} (h : fn.results = #[.cell p ty, .tmp t, .tmp u]) (tmps : Array Value) (w : World) (a : Addr) (v : Value)
    (hp : tmps.getD p undef = .pointer (some a)) (hl : (loadVar ty a).run P w = .ok v w) : (results fn tmps).run P w = .ok (.tuple #[v, tmps.getD t undef, tmps.getD u undef]) w := by
  have hp' : tmps[p]?.getD undef = .pointer (some a) := by simpa using hp
  simp [results, h, hp', asAddr, hl]
theorem results_cell_tmp1 {P : Program} {fn : Func} {p t : Tmp} {ty : TypeId} (h : fn.results = #[.cell p ty, .tmp t]) (tmps : Array Value) (w : World) (a : Addr) (v : Value)
    (hp : tmps.getD p undef = .pointer (some a)) (hl : (loadVar ty a).run P w = .ok v w) : (results fn tmps).run P w = .ok (.tuple #[v, tmps.getD t undef]) w := by
  have hp' : tmps[p]?.getD undef = .pointer (some a) := by simpa using hp
  simp [results, h, hp', asAddr, hl]

theorem wpList_copy_stop {P : Program} {w : World} {ops : Array Oper} {rest : List Oper} {o : Oper} {a : Act} {Q : Exit → Act → World → Prop} (hgd : o.guard = none) (d s : Operand) (dT sT : TypeId)
    (ho : o.op = .call { callee := .builtin .copy, args := #[d, s], argTypes := #[dT, sT] }) (elem : TypeId) (hu : P.underlying dT = some (.slice elem)) (hsz : (P.info? elem).map (·.size) = some 1)
    (g off dLen dCap : Nat) (ad : Addr) (sLen sCap : Nat) (hd : a.eval d = .slice (some ⟨g, off, none⟩) dLen dCap) (hs : a.eval s = .slice (some ad) sLen sCap)
    (cur : Array Value) (t : TypeId) (hg : w.heap[g]? = some (.cells cur t (0, 0))) (cs : List Value) (hn : cs.length = Nat.min sLen dLen)
    (hsrc : ∀ j v, cs[j]? = some v → w.cell? (ad.add j) = some v) (hfit : off + cs.length ≤ cur.size) (h1 : ∀ v ∈ cs, v.oneCell' = true)
    (h : ∀ w', Hid (w.setRow g (cur.toList.take off ++ (cs ++ cur.toList.drop (off + cs.length))).toArray = w') → wpList P ops Q rest (a.put o.dst (goInt cs.length)) w') : wpList P ops Q (o :: rest) a w :=
  wpList_copy_own hgd d s dT sT ho elem hu hsz g off dLen dCap ad sLen sCap hd hs cur t hg cs hn hsrc hfit h1 (h _ rfl)
theorem setRow_alloc_old (X : World) (o : Obj) (g : Nat) (cs : Array Value) (h : g < X.heap.size) : (X.alloc o).setRow g cs = (X.setRow g cs).alloc o := by
  unfold World.setRow World.alloc
  congr 1
  apply Array.ext_getElem?
  intro i
  simp only [Array.getElem?_modify, Array.getElem?_push, Array.size_modify]
  by_cases hi : i = X.heap.size
  · subst hi; simp; omega
  · simp [hi]
theorem digest_world (w : World) (Z cs : Array Value) (t : TypeId) :
    (((w.alloc (.cells Z t)).alloc (.cells Z t)).setRow (w.heap.size + 1) cs).setRow w.heap.size cs = (w.alloc (.cells cs t)).alloc (.cells cs t) := by
  have e : w.heap.size + 1 = (w.alloc (.cells Z t)).heap.size := by simp
  rw [e, World.setRow_alloc_new, setRow_alloc_old _ _ _ _ (by simp), World.setRow_alloc_new]

set_option maxHeartbeats 400000 in
set_option maxRecDepth 100000 in
theorem oneDigest_any (ad : Addr) (n c : Nat) (l : List UInt8) (w : World) (hr : Reads w w.heap.size 1 (some ad) n (BV l)) (hm : n ≤ maxLen) (hnc : n ≤ c) (h16 : 16 ≤ n) :
    Calls Try.prog 49 #[.slice (some ad) n c] w fun e w' => e = .returned (.tuple #[.agg (BV (l.take 16)).toArray, .int .i64 16, .int .i64 0]) ∧
      (w.alloc (.cells (BV (l.take 16)).toArray 57)).alloc (.cells (BV (l.take 16)).toArray 57) = w' := by
  have hn : n = l.length := by have := hr.1; simp [BV] at this; omega
  have hcs : (BV (l.take 16)).length = 16 := by simp [BV]; omega
  have h1 := BV_one (l.take 16)
  have hsrc : ∀ o o', ∀ j v, (BV (l.take 16))[j]? = some v → ((w.alloc o).alloc o').cell? (ad.add j) = some v := fun o o' =>
    reads_cells (((hr.alloc (Nat.le_refl _) o).alloc (by simp) o')) 16
  generalize hcc : BV (l.take 16) = cs at *
  have HC := hide hcs
  have H1 := hide h1
  have HS := hide hsrc
  clear hr hcs h1 hsrc hcc hn
  unfold maxLen at hm
  go_enter Try.func49, Try.ntmps49
  go_wp2_with (with_reducible refine wpList_copy_stop rfl (.tmp 6) (.tmp 7) 28 28 rfl 5 Try.underlying28 byteSize (w.heap.size + 1) 0 16 16 ad n c rfl rfl Z16.toArray 57 ?_ cs ?_ ?_ ?_ H1.out ?_)
  · exact heap_alloc2_new _ _ _
  · rw [HC.out]; show 16 = min n 16; omega
  · exact HS.out _ _
  · rw [HC.out]; decide
  intro w2 hx
  have hsp : (cs ++ List.drop cs.length Z16).toArray = cs.toArray := by
    rw [HC.out]
    show (cs ++ List.drop 16 (List.replicate 16 _)).toArray = _
    simp
  have hx : ((w.alloc (.cells Z16.toArray 57)).alloc (.cells Z16.toArray 57)).setRow (w.heap.size + 1) cs.toArray = w2 := by
    have := hx.out
    rw [hsp] at this
    exact this
  rw [show ((cs.length : Nat) : Int) = 16 by rw [HC.out]; rfl]
  have hg2 : w2.heap[w.heap.size + 1]? = some (.cells cs.toArray 57 (0, 0)) := by rw [← hx]; exact setRow_heap _ _ _ _ _ _ (heap_alloc2_new _ _ _)
  have hz2 : w2.heap[w.heap.size]? = some (.cells Z16.toArray 57 (0, 0)) := by rw [← hx]; exact (setRow_other _ _ _ _ (by omega)).trans (heap_alloc2_old _ _ _)
  have hw2 := digest_world w Z16.toArray cs.toArray 57
  rw [hx] at hw2
  have HG2 := hide hg2
  have HZ2 := hide hz2
  have HW2 := hide hw2
  clear hg2 hz2 hw2 hx hsp
  go_wp2_with (first | (with_reducible refine wpList_load_row rfl 57 (.tmp 5) rfl (w.heap.size + 1) rfl 57 cs.toArray (0, 0) _ HG2.out Try.underlying57 rfl ?c1 ?_) | (with_reducible refine wpList_store_row rfl 57 (.tmp 2) (.tmp 9) rfl w.heap.size cs.toArray rfl rfl 57 Z16.toArray HZ2.out ?d1 ?d2 ?d3 ?_))
  case c1 => rw [List.size_toArray, HC.out]; exact digestSize
  case d1 => rw [List.size_toArray, HC.out]; exact digestSize
  case d2 => rw [List.size_toArray, List.size_toArray, HC.out]; rfl
  case d3 => simpa using H1.out
  have hload : (loadVar 57 ⟨w.heap.size, 0, none⟩).run Try.prog (w2.setRow w.heap.size cs.toArray) = .ok (.agg cs.toArray) (w2.setRow w.heap.size cs.toArray) :=
    run_loadVar_row _ _ _ _ _ _ _ (setRow_heap w2 w.heap.size _ cs.toArray _ _ HZ2.out) Try.underlying57 rfl (by rw [List.size_toArray, HC.out]; exact digestSize)
  refine bodyPost_ret (v := .tuple #[.agg cs.toArray, .int .i64 16, .int .i64 0]) (results_cell_tmp2 Try.results49 _ _ ⟨w.heap.size, 0, none⟩ _ rfl hload) rfl ⟨rfl, HW2.out.symm⟩

theorem below_setCells {B b : Nat} {w0 : World} (hb : B ≤ b) (cs : List Value) (o : Nat) (w : World) (h : Below B w0 w) : Below B w0 (w.setCells b o cs) := by
  induction cs generalizing o w with
  | nil => exact h
  | cons v r ih => exact ih _ _ (h.setCell (by exact hb) _)
theorem Blk.farCells {w : World} {g b : Nat} {t : TypeId} {cs : Array Value} (vs : List Value) (o : Nat) (h : Blk w g t cs) (hne : g ≠ b) : Blk (w.setCells b o vs) g t cs := by
  induction vs generalizing o w with
  | nil => exact h
  | cons v r ih => exact ih _ (h.far (p := ⟨b, o, none⟩) hne v)
theorem Blk.otherRow {w : World} {g b : Nat} {t : TypeId} {cs : Array Value} (h : Blk w g t cs) (hne : g ≠ b) (vs : Array Value) : Blk (w.setRow b vs) g t cs := (setRow_other w b g vs hne).trans h
theorem only_setRow {a w : World} {row : Option Nat} {g : Nat} (h : a.grownBy w row) (hg : a.heap.size ≤ g) (cs : Array Value) : a.grownBy (w.setRow g cs) row :=
  ⟨h.os, h.tape, h.output, by simpa using h.size, fun i hi hne => (setRow_other w g i cs (by omega)).trans (h.block i hi hne)⟩
theorem range_far {w : World} {b o : Nat} {cs : List Value} (h : w.rangeAt b o cs) {p : Addr} (hne : b ≠ p.block) (v : Value) : (w.setCell p v).rangeAt b o cs := fun j u hj =>
  (World.cell?_setCell_other w p ⟨b, o + j, none⟩ v (fun e => hne (by rw [e]))).trans (h j u hj)
theorem there_of_blk {w : World} {g : Nat} {t : TypeId} {cs : Array Value} {n : Nat} (h : Blk w g t cs) (hn : n ≤ cs.size) : w.there g 0 n := fun j hj => by
  refine ⟨?_, h.frozen _⟩
  rw [h.cell]
  simp
  omega

set_option maxHeartbeats 400000 in
set_option maxRecDepth 100000 in
theorem nextDig_any (gg gb gu : Nat) (ad : Addr) (n c used : Nat) (l : List UInt8) (w : World)
    (hg : Blk w gg 70 #[.func (.func 49) #[] #[]]) (hb : Blk w gb 28 #[.slice (some ad) n c]) (hu : Blk w gu 3 #[.int .i64 (used : Int)])
    (hr : Reads w w.heap.size 1 (some ad) n (BV l)) (hm : n ≤ maxLen) (hnc : n ≤ c) (hun : used + 16 ≤ n) :
    Calls Try.prog 52 #[.pointer (some ⟨gg, 0, none⟩), .pointer (some ⟨gb, 0, none⟩), .pointer (some ⟨gu, 0, none⟩)] w fun e w' =>
      e = .returned (.tuple #[.agg (BV ((l.drop used).take 16)).toArray, .int .i64 0]) ∧ Blk w' gu 3 #[.int .i64 ((used + 16 : Nat) : Int)] ∧ w.grownBy w' (some gu) := by
  have hn : n = l.length := by have := hr.1; simp [BV] at this; omega
  have hcut := reads_rest hr used (by omega)
  have hcs : (BV ((l.drop used).take 16)).length = 16 := by simp [BV]; omega
  have H : ∀ W, Below w.heap.size w W → Calls Try.prog 49 #[.slice (some (ad.add used)) (n - used) (c - used)] W fun e w' => e = .returned (.tuple #[.agg (BV ((l.drop used).take 16)).toArray, .int .i64 16, .int .i64 0]) ∧
      (W.alloc (.cells (BV ((l.drop used).take 16)).toArray 57)).alloc (.cells (BV ((l.drop used).take 16)).toArray 57) = w' :=
    fun W hW => oneDigest_any _ _ _ _ _ ((hcut.below hW).more hW.size) (by unfold maxLen at *; omega) (by omega) (by omega)
  have hOne := BV_one ((l.drop used).take 16)
  generalize BV ((l.drop used).take 16) = cs at *
  have hSize : Option.map (fun x => x.size) (Try.prog.info? 57) = some cs.length := by rw [hcs]; exact digestSize
  have hg1 : w.cell? ⟨gg, 0, none⟩ = some (.func (.func 49) #[] #[]) := by rw [hg.cell]; rfl
  have hb1 : w.cell? ⟨gb, 0, none⟩ = some (.slice (some ad) n c) := by rw [hb.cell]; rfl
  have hu1 : w.cell? ⟨gu, 0, none⟩ = some (.int .i64 (used : Int)) := by rw [hu.cell]; rfl
  have hlg := hg.lt
  have hlb := hb.lt
  have hlu := hu.lt
  have hcu : ¬ c = used := by omega
  have hi0 : (0 : Int) ≤ (used : Int) := by omega
  have hi1 : (used : Int) ≤ (n : Int) := by omega
  have hi2 : (n : Int) ≤ (c : Int) := by omega
  have HK := hide (fun (W : World) (hW : Below w.heap.size w W) => (⟨(hW.cell (p := ⟨gg, 0, none⟩) hlg).trans hg1, (hW.cell (p := ⟨gb, 0, none⟩) hlb).trans hb1, (hW.cell (p := ⟨gu, 0, none⟩) hlu).trans hu1⟩ :
    W.cell? ⟨gg, 0, none⟩ = some (.func (.func 49) #[] #[]) ∧ W.cell? ⟨gb, 0, none⟩ = some (.slice (some ad) n c) ∧ W.cell? ⟨gu, 0, none⟩ = some (.int .i64 (used : Int))))
  have hthA : ((((w.alloc (.cells #[.int .u8 0, .int .u8 0, .int .u8 0, .int .u8 0, .int .u8 0, .int .u8 0, .int .u8 0, .int .u8 0, .int .u8 0, .int .u8 0, .int .u8 0, .int .u8 0, .int .u8 0, .int .u8 0, .int .u8 0, .int .u8 0] 57)).alloc (.cells cs.toArray 57)).alloc (.cells cs.toArray 57)).alloc (.cells #[.int .u8 0, .int .u8 0, .int .u8 0, .int .u8 0, .int .u8 0, .int .u8 0, .int .u8 0, .int .u8 0, .int .u8 0, .int .u8 0, .int .u8 0, .int .u8 0, .int .u8 0, .int .u8 0, .int .u8 0, .int .u8 0] 57)).drew.there (w.heap.size + 1 + 1 + 1) 0 cs.length := by
    have := Blk.new (((w.alloc (.cells #[.int .u8 0, .int .u8 0, .int .u8 0, .int .u8 0, .int .u8 0, .int .u8 0, .int .u8 0, .int .u8 0, .int .u8 0, .int .u8 0, .int .u8 0, .int .u8 0, .int .u8 0, .int .u8 0, .int .u8 0, .int .u8 0] 57)).alloc (.cells cs.toArray 57)).alloc (.cells cs.toArray 57)) 57 #[.int .u8 0, .int .u8 0, .int .u8 0, .int .u8 0, .int .u8 0, .int .u8 0, .int .u8 0, .int .u8 0, .int .u8 0, .int .u8 0, .int .u8 0, .int .u8 0, .int .u8 0, .int .u8 0, .int .u8 0, .int .u8 0]
    refine there_of_blk (t := 57) (cs := #[.int .u8 0, .int .u8 0, .int .u8 0, .int .u8 0, .int .u8 0, .int .u8 0, .int .u8 0, .int .u8 0, .int .u8 0, .int .u8 0, .int .u8 0, .int .u8 0, .int .u8 0, .int .u8 0, .int .u8 0, .int .u8 0]) ?_ (by rw [hcs]; decide)
    exact Blk.drew (by simpa using this)
  have hthB : ((((w.alloc (.cells #[.int .u8 0, .int .u8 0, .int .u8 0, .int .u8 0, .int .u8 0, .int .u8 0, .int .u8 0, .int .u8 0, .int .u8 0, .int .u8 0, .int .u8 0, .int .u8 0, .int .u8 0, .int .u8 0, .int .u8 0, .int .u8 0] 57)).alloc (.cells #[.int .u8 0, .int .u8 0, .int .u8 0, .int .u8 0, .int .u8 0, .int .u8 0, .int .u8 0, .int .u8 0, .int .u8 0, .int .u8 0, .int .u8 0, .int .u8 0, .int .u8 0, .int .u8 0, .int .u8 0, .int .u8 0] 57)).alloc (.cells cs.toArray 57)).alloc (.cells cs.toArray 57)).drew.there (w.heap.size + 1) 0 cs.length := by
    have := (((Blk.new (w.alloc (.cells #[.int .u8 0, .int .u8 0, .int .u8 0, .int .u8 0, .int .u8 0, .int .u8 0, .int .u8 0, .int .u8 0, .int .u8 0, .int .u8 0, .int .u8 0, .int .u8 0, .int .u8 0, .int .u8 0, .int .u8 0, .int .u8 0] 57)) 57 #[.int .u8 0, .int .u8 0, .int .u8 0, .int .u8 0, .int .u8 0, .int .u8 0, .int .u8 0, .int .u8 0, .int .u8 0, .int .u8 0, .int .u8 0, .int .u8 0, .int .u8 0, .int .u8 0, .int .u8 0, .int .u8 0]).alloc (.cells cs.toArray 57)).alloc (.cells cs.toArray 57))
    refine there_of_blk (t := 57) (cs := #[.int .u8 0, .int .u8 0, .int .u8 0, .int .u8 0, .int .u8 0, .int .u8 0, .int .u8 0, .int .u8 0, .int .u8 0, .int .u8 0, .int .u8 0, .int .u8 0, .int .u8 0, .int .u8 0, .int .u8 0, .int .u8 0]) ?_ (by rw [hcs]; decide)
    exact Blk.drew (by simpa using this)
  have H := hide H
  have HC := hide hcs
  have HS := hide hSize
  have HO := hide hOne
  clear hr hn hcut hcs hg hb
  unfold maxLen at hm
  go_enter Try.func52, Try.ntmps52
  go_wp2
  go_region_held3 (fun w' => w'.cell? ⟨gg, 0, none⟩ = some (.func (.func 49) #[] #[]) ∧ w'.cell? ⟨gb, 0, none⟩ = some (.slice (some ad) n c) ∧ w'.cell? ⟨gu, 0, none⟩ = some (.int .i64 (used : Int))) (exact unhide HK _ (by repeat (first | exact Below.refl _ _ | apply Below.drew | refine Below.alloc ?_ (by simp; try omega) _ | refine below_setCells (by omega) _ _ _ ?_)))
    (first | (go_at_call 49; refine (unhide H _ (by repeat (first | exact Below.refl _ _ | apply Below.drew | refine Below.alloc ?_ (by simp; try omega) _))).mono ?_; rintro e w5 ⟨rfl, rfl⟩))
  · rename_i hHeld
    clear hHeld
    generalize hw6 : World.setCells _ _ _ _ = w6
    have hB6 : Below w.heap.size w w6 := by rw [← hw6]; repeat (first | exact Below.refl _ _ | apply Below.drew | refine Below.alloc ?_ (by simp; try omega) _ | refine below_setCells (by omega) _ _ _ ?_)
    have hZ6 : Blk w6 w.heap.size 57 #[.int .u8 0, .int .u8 0, .int .u8 0, .int .u8 0, .int .u8 0, .int .u8 0, .int .u8 0, .int .u8 0, .int .u8 0, .int .u8 0, .int .u8 0, .int .u8 0, .int .u8 0, .int .u8 0, .int .u8 0, .int .u8 0] := by
      rw [← hw6]
      exact Blk.farCells _ _ (Blk.drew ((((Blk.new w _ _).alloc _).alloc _).alloc _)) (by omega)
    have hR6 : w6.rangeAt (w.heap.size + 1 + 1 + 1) 0 cs := by rw [← hw6]; exact World.rangeAt_setCells_same _ _ _ _ hthA
    have hu6 := ((unhide HK _ hB6).2.2)
    have hf6 : w6.frozen? ⟨gu, 0, none⟩ = false := (hB6.frozen (p := ⟨gu, 0, none⟩) hlu).trans (hu.frozen 0)
    have hZ7 : (w6.setCell ⟨gu, 0, none⟩ (.int .i64 ((used : Int) + 16))).heap[w.heap.size]? = some (.cells #[.int .u8 0, .int .u8 0, .int .u8 0, .int .u8 0, .int .u8 0, .int .u8 0, .int .u8 0, .int .u8 0, .int .u8 0, .int .u8 0, .int .u8 0, .int .u8 0, .int .u8 0, .int .u8 0, .int .u8 0, .int .u8 0] 57 (0, 0)) := hZ6.far (p := ⟨gu, 0, none⟩) (show w.heap.size ≠ gu by omega) (.int .i64 ((used : Int) + 16))
    have HZ7 := hide hZ7
    have HR7 := hide (range_far hR6 (p := ⟨gu, 0, none⟩) (show w.heap.size + 1 + 1 + 1 ≠ gu by omega) (.int .i64 ((used : Int) + 16)))
    have HB6 := hide hB6
    clear hw6 hZ6 hZ7 hR6 hB6 hthA hthB hg1 hb1 hu1 hOne hSize
    go_wp2_with (first | (with_reducible refine wpList_load_mid rfl 57 (.tmp 5) rfl (w.heap.size + 1 + 1 + 1) 0 rfl cs _ HR7.out Try.underlying57 rfl ?c1 ?_) | (with_reducible refine wpList_store_row rfl 57 (.tmp 3) (.tmp 20) rfl w.heap.size cs.toArray rfl rfl 57 #[.int .u8 0, .int .u8 0, .int .u8 0, .int .u8 0, .int .u8 0, .int .u8 0, .int .u8 0, .int .u8 0, .int .u8 0, .int .u8 0, .int .u8 0, .int .u8 0, .int .u8 0, .int .u8 0, .int .u8 0, .int .u8 0] HZ7.out ?d1 ?d2 ?d3 ?_))
    case c1 => exact HS.out
    case d1 => rw [List.size_toArray]; exact HS.out
    case d2 => simp [HC.out]
    case d3 => simpa using HO.out
    have hload : (loadVar 57 ⟨w.heap.size, 0, none⟩).run Try.prog ((w6.setCell ⟨gu, 0, none⟩ (.int .i64 ((used : Int) + 16))).setRow w.heap.size cs.toArray) = .ok (.agg cs.toArray) ((w6.setCell ⟨gu, 0, none⟩ (.int .i64 ((used : Int) + 16))).setRow w.heap.size cs.toArray) :=
      run_loadVar_row _ _ _ _ _ _ _ (setRow_heap _ w.heap.size _ cs.toArray _ _ HZ7.out) Try.underlying57 rfl (by rw [List.size_toArray]; exact HS.out)
    refine bodyPost_ret (v := .tuple #[.agg cs.toArray, .int .i64 0]) (results_cell_tmp1 Try.results52 _ _ ⟨w.heap.size, 0, none⟩ _ rfl hload) rfl ⟨rfl, ?_, ?_⟩
    · have h6 : Blk w6 gu 3 #[.int .i64 (used : Int)] := hu.below HB6.out hlu
      exact (h6.set_ 0 (.int .i64 ((used : Int) + 16))).otherRow (by omega) _
    · exact only_setRow (only_setCell (p := ⟨gu, 0, none⟩) (only_of_below HB6.out (some gu)) (.inl rfl) _) (Nat.le_refl _) _
  · rename_i hHeld
    clear hHeld
    generalize hw6 : World.setCells _ _ _ _ = w6
    have hB6 : Below w.heap.size w w6 := by rw [← hw6]; repeat (first | exact Below.refl _ _ | apply Below.drew | refine Below.alloc ?_ (by simp; try omega) _ | refine below_setCells (by omega) _ _ _ ?_)
    have hZ6 : Blk w6 w.heap.size 57 #[.int .u8 0, .int .u8 0, .int .u8 0, .int .u8 0, .int .u8 0, .int .u8 0, .int .u8 0, .int .u8 0, .int .u8 0, .int .u8 0, .int .u8 0, .int .u8 0, .int .u8 0, .int .u8 0, .int .u8 0, .int .u8 0] := by
      rw [← hw6]
      exact Blk.farCells _ _ (Blk.drew ((((Blk.new w _ _).alloc _).alloc _).alloc _)) (by omega)
    have hR6 : w6.rangeAt (w.heap.size + 1) 0 cs := by rw [← hw6]; exact World.rangeAt_setCells_same _ _ _ _ hthB
    have hu6 := ((unhide HK _ hB6).2.2)
    have hf6 : w6.frozen? ⟨gu, 0, none⟩ = false := (hB6.frozen (p := ⟨gu, 0, none⟩) hlu).trans (hu.frozen 0)
    have hZ7 : (w6.setCell ⟨gu, 0, none⟩ (.int .i64 ((used : Int) + 16))).heap[w.heap.size]? = some (.cells #[.int .u8 0, .int .u8 0, .int .u8 0, .int .u8 0, .int .u8 0, .int .u8 0, .int .u8 0, .int .u8 0, .int .u8 0, .int .u8 0, .int .u8 0, .int .u8 0, .int .u8 0, .int .u8 0, .int .u8 0, .int .u8 0] 57 (0, 0)) := hZ6.far (p := ⟨gu, 0, none⟩) (show w.heap.size ≠ gu by omega) (.int .i64 ((used : Int) + 16))
    have HZ7 := hide hZ7
    have HR7 := hide (range_far hR6 (p := ⟨gu, 0, none⟩) (show w.heap.size + 1 ≠ gu by omega) (.int .i64 ((used : Int) + 16)))
    have HB6 := hide hB6
    clear hw6 hZ6 hZ7 hR6 hB6 hthA hthB hg1 hb1 hu1 hOne hSize
    go_wp2_with (first | (with_reducible refine wpList_load_mid rfl 57 (.tmp 5) rfl (w.heap.size + 1) 0 rfl cs _ HR7.out Try.underlying57 rfl ?c1 ?_) | (with_reducible refine wpList_store_row rfl 57 (.tmp 3) (.tmp 20) rfl w.heap.size cs.toArray rfl rfl 57 #[.int .u8 0, .int .u8 0, .int .u8 0, .int .u8 0, .int .u8 0, .int .u8 0, .int .u8 0, .int .u8 0, .int .u8 0, .int .u8 0, .int .u8 0, .int .u8 0, .int .u8 0, .int .u8 0, .int .u8 0, .int .u8 0] HZ7.out ?d1 ?d2 ?d3 ?_))
    case c1 => exact HS.out
    case d1 => rw [List.size_toArray]; exact HS.out
    case d2 => simp [HC.out]
    case d3 => simpa using HO.out
    have hload : (loadVar 57 ⟨w.heap.size, 0, none⟩).run Try.prog ((w6.setCell ⟨gu, 0, none⟩ (.int .i64 ((used : Int) + 16))).setRow w.heap.size cs.toArray) = .ok (.agg cs.toArray) ((w6.setCell ⟨gu, 0, none⟩ (.int .i64 ((used : Int) + 16))).setRow w.heap.size cs.toArray) :=
      run_loadVar_row _ _ _ _ _ _ _ (setRow_heap _ w.heap.size _ cs.toArray _ _ HZ7.out) Try.underlying57 rfl (by rw [List.size_toArray]; exact HS.out)
    refine bodyPost_ret (v := .tuple #[.agg cs.toArray, .int .i64 0]) (results_cell_tmp1 Try.results52 _ _ ⟨w.heap.size, 0, none⟩ _ rfl hload) rfl ⟨rfl, ?_, ?_⟩
    · have h6 : Blk w6 gu 3 #[.int .i64 (used : Int)] := hu.below HB6.out hlu
      exact (h6.set_ 0 (.int .i64 ((used : Int) + 16))).otherRow (by omega) _
    · exact only_setRow (only_setCell (p := ⟨gu, 0, none⟩) (only_of_below HB6.out (some gu)) (.inl rfl) _) (Nat.le_refl _) _

end Go.Proofs.Ytbkpnfejhaedhaa
