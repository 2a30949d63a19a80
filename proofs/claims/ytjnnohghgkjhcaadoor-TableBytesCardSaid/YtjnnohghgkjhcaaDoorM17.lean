/-
  Tables: plain of the law, by contract.
-/
import Derived.Test.YtjnnohghgkjhcaaDoorM9
import Derived.Test.YtjnnohghgkjhcaaDoorM16
import Derived.Test.YtjnnohghgkjhcaaDoorM10
import Derived.Test.YtjnnohghgkjhcaaDoorM7
import Derived.Deep.CutBlock
namespace Go.Proofs.YtjnnohghgkjhcaaDoor
open Go.RowKit
set_option linter.unusedVariables false
set_option linter.unusedSimpArgs false
theorem stepInfoR : (Tryd.prog.info? 86).map (fun i => (i.zero, i.size, i.bytes)) = some (some (.agg #[.int .i64 0, .bool false, .bool false, .int .i64 0, .slice none 0 0, .int .i64 0]), 6, 56) := by kernel_rfl
theorem stateInfoR : (Tryd.prog.info? 84).map (·.size) = some 3 := by kernel_rfl
theorem steps_pushR (W : World) (base g : Nat) (v : Value) (l : List Stp) (x : Stp) (hown : W.ownsRow base 86 6 v l.length (STC l)) (hg : Blk W g 86 (spC x).toArray) (hbase : base ≤ W.heap.size) (hlen : l.length ≤ 100000) (ty : TypeId) :
  ∃ v' W', (Builtin.append_ #[49, 49] ty #[v, .slice (some ⟨g, 0, none⟩) 1 1]).run Tryd.prog W = .ok v' W' ∧ W'.ownsRow base 86 6 v' (l ++ [x]).length (STC (l ++ [x])) ∧ W.grownBy W' v.ownBlock ∧ (v'.ownBlock = v.ownBlock ∨ v'.ownBlock = some W.heap.size) := by
 obtain ⟨j0, hj, hy0, hy1, hy2⟩ := info_parts stepInfoR
 obtain ⟨v', w', hrun, hown', hgrow', hat'⟩ := run_append_any (P := Tryd.prog) W base 49 ty 86 j0 (.agg #[.int .i64 0, .bool false, .bool false, .int .i64 0, .slice none 0 0, .int .i64 0]) 6 56 Tryd.underlying49 hj hy0 hy1 hy2 rfl (by omega)
  v l.length (STC l) hown W.heap.size (some ⟨g, 0, none⟩) 1 1 (spC x)
  ⟨rfl, fun _ => ⟨_, rfl, hg.lt, fun j u hu => by
   have h2 := Blk.cell hg j
   rw [show ((⟨g, 0, none⟩ : Addr).add j) = ⟨g, j, none⟩ by unfold Addr.add; split <;> simp_all, h2, ← hu]
   rw [List.getElem?_toArray]⟩⟩
  (fun u hu => STC_one [x] u (by unfold STC; simpa using hu)) (by unfold maxLen; omega) (by omega) hbase
 refine ⟨v', w', hrun, ?_, hgrow', hat'⟩
 rw [STC_append, List.length_append]
 have e : STC [x] = spC x := by unfold STC; simp
 rw [e]
 exact hown'
theorem own_formR {w : World} {b n : Nat} {v : Value} {xs : List Stp} (h : w.ownsRow b 86 6 v n (STC xs)) (hx : ∀ x ∈ xs, BsAt w w.heap.size (bsOf x)) (h96 : xs.length ≤ 96) : StepsAt w v xs := by
 obtain ⟨A, c, rfl, hnc, _⟩ := own_slice h
 have hn : n = xs.length := by have := h.1; rw [STC_len] at this; omega
 subst hn
 exact ⟨A, c, rfl, hnc, h96, Reads.of_own h, hx⟩
def ksP (ad : Addr) (m c i b0 : Nat) (la : Int) (nu inn : Bool) : List (World → Value → Prop) := [gIs (.slice (some ad) m c), gIs (.int .i64 (i : Int)), gIs (.pointer (some (ad.add (i * 6)))), gIs (.pointer (some (ad.add (i * 6)))), gIs (.pointer (some (ad.add (i * 6)))), gIs (.int .i64 la), gIs (.slice (some ad) m c), gIs (.int .i64 (i : Int)), gIs (.pointer (some (ad.add (i * 6)))), gIs (.pointer (some (ad.add (i * 6)))), gIs (.pointer (some ⟨(ad.add (i * 6)).block, (ad.add (i * 6)).off + 1, none⟩)), gIs (.bool nu), gIs (.slice (some ad) m c), gIs (.int .i64 (i : Int)), gIs (.pointer (some (ad.add (i * 6)))), gIs (.pointer (some (ad.add (i * 6)))), gIs (.pointer (some ⟨(ad.add (i * 6)).block, (ad.add (i * 6)).off + 2, none⟩)), gIs (.bool inn), gIs (.agg #[.int .i64 la, .bool nu, .bool inn]), gPtr b0 84 #[.int .i64 0, .bool false, .bool false]]
theorem ksP_n (ad : Addr) (m c i b0 : Nat) (la : Int) (nu inn : Bool) : ∀ j, StabN b0 ((ksP ad m c i b0 la nu inn).getD j gAny)
 | 0 => stabn_is _ _
 | 1 => stabn_is _ _
 | 2 => stabn_is _ _
 | 3 => stabn_is _ _
 | 4 => stabn_is _ _
 | 5 => stabn_is _ _
 | 6 => stabn_is _ _
 | 7 => stabn_is _ _
 | 8 => stabn_is _ _
 | 9 => stabn_is _ _
 | 10 => stabn_is _ _
 | 11 => stabn_is _ _
 | 12 => stabn_is _ _
 | 13 => stabn_is _ _
 | 14 => stabn_is _ _
 | 15 => stabn_is _ _
 | 16 => stabn_is _ _
 | 17 => stabn_is _ _
 | 18 => stabn_is _ _
 | 19 => stabn_ptr _ _ _
 | _ + 20 => stabn_any _
theorem ksP_b (ad : Addr) (m c i b0 : Nat) (la : Int) (nu inn : Bool) (j : Nat) : Stab ((ksP ad m c i b0 la nu inn).getD j gAny) := (ksP_n ad m c i b0 la nu inn j).stab
def gOne (b0 : Nat) (T : TypeId) (cs : List Value) : World → Value → Prop := fun W v => ∃ g, v = .slice (some ⟨g, 0, none⟩) 1 1 ∧ b0 ≤ g ∧ Blk W g T cs.toArray
theorem stabn_one (b0 : Nat) (T : TypeId) (cs : List Value) : StabN b0 (gOne b0 T cs) := fun _ _ _ _ hg hr ⟨g, h1, h2, h3⟩ => ⟨g, h1, h2, h3.grown hg fun e => by have := hr g e.symm; omega⟩
def ksQ (base : Nat) (ad : Addr) (m c i b0 : Nat) (la : Int) (nu inn : Bool) (ln : Nat) (xa : Option Addr) (cl xc : Nat) (ru : Int) (y3 : Value) (l : List Stp) (q : Stp) : List (World → Value → Prop) := [gIs (y3), gIs (.agg #[.int .i64 la, .bool nu, .bool inn]), gIs (.slice (some ad) m c), gIs (.int .i64 (i : Int)), gIs (.pointer (some (ad.add (i * 6)))), gIs (.pointer (some ⟨(ad.add (i * 6)).block, (ad.add (i * 6)).off + 3, none⟩)), gIs (.int .i64 (ln : Int)), gIs (.slice (some ad) m c), gIs (.int .i64 (i : Int)), gIs (.pointer (some (ad.add (i * 6)))), gIs (.pointer (some ⟨(ad.add (i * 6)).block, (ad.add (i * 6)).off + 4, none⟩)), gIs (.slice xa cl xc), gIs (.slice (some ad) m c), gIs (.int .i64 (i : Int)), gIs (.pointer (some (ad.add (i * 6)))), gIs (.pointer (some ⟨(ad.add (i * 6)).block, (ad.add (i * 6)).off + 5, none⟩)), gIs (.int .i64 ru), gIs (.agg #[.int .i64 la, .bool nu, .bool inn, .int .i64 (ln : Int), .slice xa cl xc, .int .i64 ru]), gOne b0 86 [.int .i64 la, .bool nu, .bool inn, .int .i64 (ln : Int), .slice xa cl xc, .int .i64 ru], (fun W v => W.ownsRow base 86 6 v (l ++ [q]).length (STC (l ++ [q])))]
theorem ksQ_n (base : Nat) (ad : Addr) (m c i b0 : Nat) (la : Int) (nu inn : Bool) (ln : Nat) (xa : Option Addr) (cl xc : Nat) (ru : Int) (y3 : Value) (l : List Stp) (q : Stp) : ∀ j, j ≠ 19 → StabN b0 ((ksQ base ad m c i b0 la nu inn ln xa cl xc ru y3 l q).getD j gAny)
 | 0, _ => stabn_is _ _
 | 1, _ => stabn_is _ _
 | 2, _ => stabn_is _ _
 | 3, _ => stabn_is _ _
 | 4, _ => stabn_is _ _
 | 5, _ => stabn_is _ _
 | 6, _ => stabn_is _ _
 | 7, _ => stabn_is _ _
 | 8, _ => stabn_is _ _
 | 9, _ => stabn_is _ _
 | 10, _ => stabn_is _ _
 | 11, _ => stabn_is _ _
 | 12, _ => stabn_is _ _
 | 13, _ => stabn_is _ _
 | 14, _ => stabn_is _ _
 | 15, _ => stabn_is _ _
 | 16, _ => stabn_is _ _
 | 17, _ => stabn_is _ _
 | 18, _ => stabn_one _ _ _
 | 19, h => absurd rfl h
 | _ + 20, _ => stabn_any _
theorem ksQ_b (base : Nat) (ad : Addr) (m c i b0 : Nat) (la : Int) (nu inn : Bool) (ln : Nat) (xa : Option Addr) (cl xc : Nat) (ru : Int) (y3 : Value) (l : List Stp) (q : Stp) (j : Nat) : Stab ((ksQ base ad m c i b0 la nu inn ln xa cl xc ru y3 l q).getD j gAny) := by
 by_cases h : j = 19
 ·subst h
  exact fun W W' v hb h => own_below h hb
 ·exact (ksQ_n base ad m c i b0 la nu inn ln xa cl xc ru y3 l q j h).stab
set_option maxHeartbeats 4000000 in
set_option maxRecDepth 100000 in
theorem plain_any (v : Value) (xs : List Stp) (w : World) (hx : StepsAt w v xs) :
  Calls Tryd.prog 18 #[v] w fun e w' => ∃ v', e = .returned v' ∧ StepsAt w' v' xs ∧ Below w.heap.size w w' := by
 obtain ⟨A, c, rfl, hlc, h96, hr, hbs⟩ := hx
 have HR := hide hr
 have HBS := hide hbs
 have HW := hide (Below.refl w.heap.size w)
 obtain ⟨m, hm⟩ : ∃ m, m = xs.length := ⟨_, rfl⟩
 have HM := hide hm
 rw [← hm] at hlc h96 ⊢
 clear hm hr hbs
 go_enter Tryd.func18, Tryd.ntmps18
 go_wp2
 go_loopw [3, 4] (fun s3 s wr => ∃ (i : Nat) (y3 : Value), i ≤ m ∧ s = .int .i64 (i : Int) ∧ y3 = s3 ∧ wr.ownsRow w.heap.size 86 6 y3 (xs.take i).length (STC (xs.take i)) ∧ Below w.heap.size w wr) (fun _ s _ => m - (intOf s).toNat)
 case atStart => exact ⟨0, _, by omega, rfl, rfl, by rw [List.take_zero]; exact own_nil _ _ _ _, HW.out⟩
 case round =>
  obtain ⟨i, y3, hi, rfl, rfl, hown, hbel⟩ := hrel
  obtain ⟨we, rfl⟩ : ∃ we, we = wr := ⟨wr, rfl⟩
  have hi0 : (0 : Int) ≤ (i : Int) := by omega
  by_cases hlt : (i : Int) < (m : Int)
  ·have hix : i < xs.length := by have := HM.out; omega
   obtain ⟨ad, rfl, hadb, hcs⟩ := reads_step HR.out i hix
   have HLT := hide hlt
   obtain ⟨q, hq⟩ : ∃ q, q = xs[i] := ⟨_, rfl⟩
   rw [← hq] at hcs
   have HLX := hide (show xs.take (i + 1) = xs.take i ++ [q] by rw [hq]; exact List.take_succ_eq_append_getElem hix)
   have HCL2 := hide (fun (W : World) (hb : Below w.heap.size w W) => (show W.cell? (ad.add (i * 6)) = some (.int .i64 q.sp.to.lang) ∧ W.cell? ⟨(ad.add (i * 6)).block, (ad.add (i * 6)).off + 1, none⟩ = some (.bool q.sp.to.num) ∧ W.cell? ⟨(ad.add (i * 6)).block, (ad.add (i * 6)).off + 2, none⟩ = some (.bool q.sp.to.inn) ∧ W.cell? ⟨(ad.add (i * 6)).block, (ad.add (i * 6)).off + 3, none⟩ = some (.int .i64 (q.sp.len : Int)) ∧ W.cell? ⟨(ad.add (i * 6)).block, (ad.add (i * 6)).off + 4, none⟩ = some (.slice q.ad q.sp.cells.length q.c) ∧ W.cell? ⟨(ad.add (i * 6)).block, (ad.add (i * 6)).off + 5, none⟩ = some (.int .i64 q.sp.rule) from by
    have h : ∀ (j : Nat) (v : Value), (spC q)[j]? = some v → W.cell? ((ad.add (i * 6)).add j) = some v := fun j v hv => by
     rw [hb.cell (by rw [block_of_add, block_of_add]; exact hadb)]
     exact hcs j v hv
    exact ⟨h 0 _ rfl, h 1 _ rfl, h 2 _ rfl, h 3 _ rfl, h 4 _ rfl, h 5 _ rfl⟩))
   have HQC := hide (show (spC q).toArray = [Value.int .i64 q.sp.to.lang, .bool q.sp.to.num, .bool q.sp.to.inn, .int .i64 (q.sp.len : Int), .slice q.ad q.sp.cells.length q.c, .int .i64 q.sp.rule].toArray from rfl)
   generalize q.sp.to.lang = la at *
   generalize q.sp.to.num = nu at *
   generalize q.sp.to.inn = inn at *
   generalize q.sp.len = ln at *
   generalize q.sp.cells.length = cl at *
   generalize q.ad = xa at *
   generalize q.c = xc at *
   generalize q.sp.rule = ru at *
   obtain ⟨l, hl⟩ : ∃ l, l = xs.take i := ⟨_, rfl⟩
   have hll : l.length ≤ 96 := by rw [hl, List.length_take]; omega
   rw [← hl] at HLX hown
   have HO := hide hown
   have HB := hide hbel
   have HCL := hide (fun (W : World) (hb : Below we.heap.size we W) => HCL2.out W (HB.out.trans (hb.mono HB.out.size)))
   obtain ⟨b0, hb0⟩ : ∃ b0, b0 = we.heap.size := ⟨_, rfl⟩
   clear hown hbel hq hl hcs hix hadb
   go_upto_region 5 with fail
   refine wp_region_threeT 0 20 [some 12, some 13, some 14, some 15, some 16, some 17, some 18, some 19, some 20, some 21, some 22, some 23, some 24, some 25, some 26, some 27, some 28, some 29, some 30, some 5] (gAll (ksP ad m c i b0 la nu inn))
    (fun _ W => Below we.heap.size we W ∧ b0 ≤ W.heap.size) (by decide) (by kernel_rfl) (by kernel_rfl) (by kernel_rfl) (by rfl) (by decide) (by rfl) ⟨(Below.refl _ _).drew, by rw [hb0]; exact Nat.le_refl _⟩ ?_ ?_ ?_
   ·intro j hj hjm b A x W hC hd hr
    have stay : ∀ W', Below W.heap.size W W' → Below we.heap.size we W' ∧ b0 ≤ W'.heap.size := fun W' hb => ⟨hC.1.trans (hb.mono hC.1.size), Nat.le_trans hC.2 hb.size⟩
    have KSB : ∀ k' u {W'}, Below W.heap.size W W' → gAll (ksP ad m c i b0 la nu inn) k' u W → gAll (ksP ad m c i b0 la nu inn) k' u W' := fun k' u W' hb h => ksP_b ad m c i b0 la nu inn k' W W' u hb h
    have hj' : j = 1 ∨ j = 2 ∨ j = 3 ∨ j = 4 ∨ j = 5 ∨ j = 6 ∨ j = 7 ∨ j = 8 ∨ j = 9 ∨ j = 10 ∨ j = 11 ∨ j = 12 ∨ j = 13 ∨ j = 14 ∨ j = 15 ∨ j = 16 ∨ j = 17 ∨ j = 18 ∨ j = 19 := by omega
    rcases hj' with rfl | rfl | rfl | rfl | rfl | rfl | rfl | rfl | rfl | rfl | rfl | rfl | rfl | rfl | rfl | rfl | rfl | rfl | rfl
    ·have e4 : A.tmps[4]?.getD undef = .int .i64 (i : Int) := hr 4 (by decide)
     refine wpOp_step rfl (fun K' hK => ?_)
     go_simp
     exact hK _ _ ⟨_, rfl, rfl, fun _ _ _ h => h, hC⟩
    ·have d0 : A.tmps[12]?.getD undef = .slice (some ad) m c := fI hd 0 12
     have d1 : A.tmps[13]?.getD undef = .int .i64 (i : Int) := fI hd 1 13
     refine wpOp_step rfl (fun K' hK => ?_)
     go_simp
     exact hK _ _ ⟨_, rfl, rfl, fun _ _ _ h => h, hC⟩
    ·have d2 : A.tmps[14]?.getD undef = .pointer (some (ad.add (i * 6))) := fI hd 2 14
     refine wpOp_step rfl (fun K' hK => ?_)
     go_simp
     exact hK _ _ ⟨_, rfl, rfl, fun _ _ _ h => h, hC⟩
    ·have d3 : A.tmps[15]?.getD undef = .pointer (some (ad.add (i * 6))) := fI hd 3 15
     refine wpOp_step rfl (fun K' hK => ?_)
     go_simp
     exact hK _ _ ⟨_, rfl, rfl, fun _ _ _ h => h, hC⟩
    ·have d4 : A.tmps[16]?.getD undef = .pointer (some (ad.add (i * 6))) := fI hd 4 16
     refine wpOp_step rfl (fun K' hK => ?_)
     obtain ⟨f0, f1, f2, f3, f4, f5⟩ := HCL.out W hC.1
     go_simp
     exact hK _ _ ⟨_, rfl, rfl, fun _ _ _ h => h, hC⟩
    ·have e0 : A.tmps[0]?.getD undef = .slice (some ad) m c := hr 0 (by decide)
     refine wpOp_step rfl (fun K' hK => ?_)
     go_simp
     exact hK _ _ ⟨_, rfl, rfl, fun _ _ _ h => h, hC⟩
    ·have e4 : A.tmps[4]?.getD undef = .int .i64 (i : Int) := hr 4 (by decide)
     refine wpOp_step rfl (fun K' hK => ?_)
     go_simp
     exact hK _ _ ⟨_, rfl, rfl, fun _ _ _ h => h, hC⟩
    ·have d6 : A.tmps[18]?.getD undef = .slice (some ad) m c := fI hd 6 18
     have d7 : A.tmps[19]?.getD undef = .int .i64 (i : Int) := fI hd 7 19
     refine wpOp_step rfl (fun K' hK => ?_)
     go_simp
     exact hK _ _ ⟨_, rfl, rfl, fun _ _ _ h => h, hC⟩
    ·have d8 : A.tmps[20]?.getD undef = .pointer (some (ad.add (i * 6))) := fI hd 8 20
     refine wpOp_step rfl (fun K' hK => ?_)
     go_simp
     exact hK _ _ ⟨_, rfl, rfl, fun _ _ _ h => h, hC⟩
    ·have d9 : A.tmps[21]?.getD undef = .pointer (some (ad.add (i * 6))) := fI hd 9 21
     refine wpOp_step rfl (fun K' hK => ?_)
     go_simp
     exact hK _ _ ⟨_, rfl, rfl, fun _ _ _ h => h, hC⟩
    ·have d10 : A.tmps[22]?.getD undef = .pointer (some ⟨(ad.add (i * 6)).block, (ad.add (i * 6)).off + 1, none⟩) := fI hd 10 22
     refine wpOp_step rfl (fun K' hK => ?_)
     obtain ⟨f0, f1, f2, f3, f4, f5⟩ := HCL.out W hC.1
     go_simp
     exact hK _ _ ⟨_, rfl, rfl, fun _ _ _ h => h, hC⟩
    ·have e0 : A.tmps[0]?.getD undef = .slice (some ad) m c := hr 0 (by decide)
     refine wpOp_step rfl (fun K' hK => ?_)
     go_simp
     exact hK _ _ ⟨_, rfl, rfl, fun _ _ _ h => h, hC⟩
    ·have e4 : A.tmps[4]?.getD undef = .int .i64 (i : Int) := hr 4 (by decide)
     refine wpOp_step rfl (fun K' hK => ?_)
     go_simp
     exact hK _ _ ⟨_, rfl, rfl, fun _ _ _ h => h, hC⟩
    ·have d12 : A.tmps[24]?.getD undef = .slice (some ad) m c := fI hd 12 24
     have d13 : A.tmps[25]?.getD undef = .int .i64 (i : Int) := fI hd 13 25
     refine wpOp_step rfl (fun K' hK => ?_)
     go_simp
     exact hK _ _ ⟨_, rfl, rfl, fun _ _ _ h => h, hC⟩
    ·have d14 : A.tmps[26]?.getD undef = .pointer (some (ad.add (i * 6))) := fI hd 14 26
     refine wpOp_step rfl (fun K' hK => ?_)
     go_simp
     exact hK _ _ ⟨_, rfl, rfl, fun _ _ _ h => h, hC⟩
    ·have d15 : A.tmps[27]?.getD undef = .pointer (some (ad.add (i * 6))) := fI hd 15 27
     refine wpOp_step rfl (fun K' hK => ?_)
     go_simp
     exact hK _ _ ⟨_, rfl, rfl, fun _ _ _ h => h, hC⟩
    ·have d16 : A.tmps[28]?.getD undef = .pointer (some ⟨(ad.add (i * 6)).block, (ad.add (i * 6)).off + 2, none⟩) := fI hd 16 28
     refine wpOp_step rfl (fun K' hK => ?_)
     obtain ⟨f0, f1, f2, f3, f4, f5⟩ := HCL.out W hC.1
     go_simp
     exact hK _ _ ⟨_, rfl, rfl, fun _ _ _ h => h, hC⟩
    ·have d5 : A.tmps[17]?.getD undef = .int .i64 la := fI hd 5 17
     have d11 : A.tmps[23]?.getD undef = .bool nu := fI hd 11 23
     have d17 : A.tmps[29]?.getD undef = .bool inn := fI hd 17 29
     refine wpOp_step rfl (fun K' hK => ?_)
     go_simp
     exact hK _ _ ⟨_, rfl, rfl, fun _ _ _ h => h, hC⟩
    ·refine wpOp_step rfl (fun K' hK => ?_)
     go_simp
     exact hK _ _ ⟨_, rfl, ⟨W.heap.size, rfl, hC.2, Blk.new W _ _⟩, fun k' _ u h => KSB k' u (below_alloc W _) h, stay _ (below_alloc W _)⟩
   ·intro A x W hC hd hr
    have stay : ∀ W', Below W.heap.size W W' → Below we.heap.size we W' ∧ b0 ≤ W'.heap.size := fun W' hb => ⟨hC.1.trans (hb.mono hC.1.size), Nat.le_trans hC.2 hb.size⟩
    have KSB : ∀ k' u {W'}, Below W.heap.size W W' → gAll (ksP ad m c i b0 la nu inn) k' u W → gAll (ksP ad m c i b0 la nu inn) k' u W' := fun k' u W' hb h => ksP_b ad m c i b0 la nu inn k' W W' u hb h
    have e0 : A.tmps[0]?.getD undef = .slice (some ad) m c := hr 0 (by decide)
    refine wpOp_step rfl (fun K' hK => ?_)
    go_simp
    exact hK _ _ ⟨_, rfl, rfl, fun _ _ _ h => h, hC⟩
   ·intro x W hC hR
    obtain ⟨gs, hx19, hgs0, hgsb⟩ : gPtr b0 84 #[.int .i64 0, .bool false, .bool false] W (x 19) := hR 19 (by decide)
    have hx18 : x 18 = .agg #[.int .i64 la, .bool nu, .bool inn] := hR 18 (by decide)
    refine wpOp_step rfl (fun K' hK => ?_)
    simp only [putL, Act.put, Nat.zero_add, Nat.reduceAdd, List.setIfInBounds_toArray, List.set_cons_succ, List.set_cons_zero]
    rw [hx18, hx19]
    rw [if_pos (by rfl)]
    refine wp_store_row 84 (.tmp 5) (.tmp 30) rfl gs #[.int .i64 la, .bool nu, .bool inn] rfl rfl 84 _ hgsb stateInfoR rfl (by simp [Value.oneCell']) ?_
    refine hK _ _ ?_
    clear hK K'
    obtain ⟨Z, hZ⟩ : ∃ Z, Z = W.setRow gs #[.int .i64 la, .bool nu, .bool inn] := ⟨_, rfl⟩
    have ZB := hide (show Blk Z gs 84 #[.int .i64 la, .bool nu, .bool inn] by rw [hZ]; exact setRow_heap _ _ _ _ _ _ hgsb)
    have HZ := hide (show Below we.heap.size we Z by rw [hZ]; exact below_setRow hC.1 (by omega) _)
    rw [← hZ]
    clear hZ hgsb hx18 hx19 hC hR hb0
    generalize x 0 = p0
    generalize x 1 = p1
    generalize x 2 = p2
    generalize x 3 = p3
    generalize x 4 = p4
    generalize x 5 = p5
    generalize x 6 = p6
    generalize x 7 = p7
    generalize x 8 = p8
    generalize x 9 = p9
    generalize x 10 = p10
    generalize x 11 = p11
    generalize x 12 = p12
    generalize x 13 = p13
    generalize x 14 = p14
    generalize x 15 = p15
    generalize x 16 = p16
    generalize x 17 = p17
    clear b0 hgs0
    go_upto_region 6 with fail
    obtain ⟨b0, hb0⟩ : ∃ b0, b0 = Z.heap.size := ⟨_, rfl⟩
    have hws2 : w.heap.size ≤ Z.heap.size := Nat.le_trans HB.out.size HZ.out.size
    have HBZ := hide (show Below w.heap.size w Z from HB.out.trans (HZ.out.mono HB.out.size))
    have HOZ := hide (own_below HO.out HZ.out)
    have hy3s := own_blk_ne HOZ.out ZB.out (by decide)
    refine wp_region_threeT 19 20 [some 31, some 32, some 33, some 34, some 35, some 36, some 37, some 38, some 39, some 40, some 41, some 42, some 43, some 44, some 45, some 46, some 47, some 48, some 49, some 50] (gAll (ksQ w.heap.size ad m c i b0 la nu inn ln xa cl xc ru y3 l q))
     (fun b W => (b = false → Below Z.heap.size Z W) ∧ Below w.heap.size w W ∧ Z.grownBy W y3.ownBlock ∧ b0 ≤ W.heap.size) (by decide) (by kernel_rfl) (by kernel_rfl) (by kernel_rfl) (by rfl) (by decide) (by rfl) ⟨fun _ => (Below.refl _ _).drew, HBZ.out.drew, only_drew (World.grownBy.refl _ _), by rw [hb0]; exact Nat.le_refl _⟩ ?_ ?_ ?_
    ·intro j hj hjm b A x W hC hd hr
     have stay : ∀ W', Below W.heap.size W W' → (b = false → Below Z.heap.size Z W') ∧ Below w.heap.size w W' ∧ Z.grownBy W' y3.ownBlock ∧ b0 ≤ W'.heap.size := fun W' hb => ⟨fun h => (hC.1 h).trans (hb.mono (hC.1 h).size), hC.2.1.trans (hb.mono hC.2.1.size), grown_below hC.2.2.1 hb, Nat.le_trans hC.2.2.2 hb.size⟩
     have KSB : ∀ k' u {W'}, Below W.heap.size W W' → gAll (ksQ w.heap.size ad m c i b0 la nu inn ln xa cl xc ru y3 l q) k' u W → gAll (ksQ w.heap.size ad m c i b0 la nu inn ln xa cl xc ru y3 l q) k' u W' := fun k' u W' hb h => ksQ_b w.heap.size ad m c i b0 la nu inn ln xa cl xc ru y3 l q k' W W' u hb h
     have KSN : ∀ k', k' ≠ 19 → ∀ u {W' row}, W.grownBy W' row → (∀ g, row = some g → g < b0) → gAll (ksQ w.heap.size ad m c i b0 la nu inn ln xa cl xc ru y3 l q) k' u W → gAll (ksQ w.heap.size ad m c i b0 la nu inn ln xa cl xc ru y3 l q) k' u W' := fun k' hk u W' row hg hr h => ksQ_n w.heap.size ad m c i b0 la nu inn ln xa cl xc ru y3 l q k' hk W W' row u hg hr h
     have hj' : j = 0 ∨ j = 1 ∨ j = 2 ∨ j = 3 ∨ j = 4 ∨ j = 5 ∨ j = 6 ∨ j = 7 ∨ j = 8 ∨ j = 9 ∨ j = 10 ∨ j = 11 ∨ j = 12 ∨ j = 13 ∨ j = 14 ∨ j = 15 ∨ j = 16 ∨ j = 17 ∨ j = 18 := by omega
     rcases hj' with rfl | rfl | rfl | rfl | rfl | rfl | rfl | rfl | rfl | rfl | rfl | rfl | rfl | rfl | rfl | rfl | rfl | rfl | rfl
     ·have e3 : A.tmps[3]?.getD undef = y3 := hr 3 (by decide)
      refine wpOp_step rfl (fun K' hK => ?_)
      go_simp
      exact hK _ _ ⟨_, rfl, rfl, fun _ _ _ h => h, hC⟩
     ·have e5 : A.tmps[5]?.getD undef = .pointer (some ⟨gs, 0, none⟩) := hr 5 (by decide)
      refine wpOp_step rfl (fun K' hK => ?_)
      have hs := ZB.out.grown hC.2.2.1 (Ne.symm hy3s)
      have s0 : W.cell? ⟨gs, 0, none⟩ = some (.int .i64 la) := hs.cell 0
      have s1 : W.cell? ⟨gs, 1, none⟩ = some (.bool nu) := hs.cell 1
      have s2 : W.cell? ⟨gs, 2, none⟩ = some (.bool inn) := hs.cell 2
      go_simp
      exact hK _ _ ⟨_, rfl, rfl, fun _ _ _ h => h, hC⟩
     ·have e0 : A.tmps[0]?.getD undef = .slice (some ad) m c := hr 0 (by decide)
      refine wpOp_step rfl (fun K' hK => ?_)
      go_simp
      exact hK _ _ ⟨_, rfl, rfl, fun _ _ _ h => h, hC⟩
     ·have e4 : A.tmps[4]?.getD undef = .int .i64 (i : Int) := hr 4 (by decide)
      refine wpOp_step rfl (fun K' hK => ?_)
      go_simp
      exact hK _ _ ⟨_, rfl, rfl, fun _ _ _ h => h, hC⟩
     ·have d2 : A.tmps[33]?.getD undef = .slice (some ad) m c := fI hd 2 33
      have d3 : A.tmps[34]?.getD undef = .int .i64 (i : Int) := fI hd 3 34
      refine wpOp_step rfl (fun K' hK => ?_)
      go_simp
      exact hK _ _ ⟨_, rfl, rfl, fun _ _ _ h => h, hC⟩
     ·have d4 : A.tmps[35]?.getD undef = .pointer (some (ad.add (i * 6))) := fI hd 4 35
      refine wpOp_step rfl (fun K' hK => ?_)
      go_simp
      exact hK _ _ ⟨_, rfl, rfl, fun _ _ _ h => h, hC⟩
     ·have d5 : A.tmps[36]?.getD undef = .pointer (some ⟨(ad.add (i * 6)).block, (ad.add (i * 6)).off + 3, none⟩) := fI hd 5 36
      refine wpOp_step rfl (fun K' hK => ?_)
      obtain ⟨f0, f1, f2, f3, f4, f5⟩ := HCL2.out W hC.2.1
      go_simp
      exact hK _ _ ⟨_, rfl, rfl, fun _ _ _ h => h, hC⟩
     ·have e0 : A.tmps[0]?.getD undef = .slice (some ad) m c := hr 0 (by decide)
      refine wpOp_step rfl (fun K' hK => ?_)
      go_simp
      exact hK _ _ ⟨_, rfl, rfl, fun _ _ _ h => h, hC⟩
     ·have e4 : A.tmps[4]?.getD undef = .int .i64 (i : Int) := hr 4 (by decide)
      refine wpOp_step rfl (fun K' hK => ?_)
      go_simp
      exact hK _ _ ⟨_, rfl, rfl, fun _ _ _ h => h, hC⟩
     ·have d7 : A.tmps[38]?.getD undef = .slice (some ad) m c := fI hd 7 38
      have d8 : A.tmps[39]?.getD undef = .int .i64 (i : Int) := fI hd 8 39
      refine wpOp_step rfl (fun K' hK => ?_)
      go_simp
      exact hK _ _ ⟨_, rfl, rfl, fun _ _ _ h => h, hC⟩
     ·have d9 : A.tmps[40]?.getD undef = .pointer (some (ad.add (i * 6))) := fI hd 9 40
      refine wpOp_step rfl (fun K' hK => ?_)
      go_simp
      exact hK _ _ ⟨_, rfl, rfl, fun _ _ _ h => h, hC⟩
     ·have d10 : A.tmps[41]?.getD undef = .pointer (some ⟨(ad.add (i * 6)).block, (ad.add (i * 6)).off + 4, none⟩) := fI hd 10 41
      refine wpOp_step rfl (fun K' hK => ?_)
      obtain ⟨f0, f1, f2, f3, f4, f5⟩ := HCL2.out W hC.2.1
      go_simp
      exact hK _ _ ⟨_, rfl, rfl, fun _ _ _ h => h, hC⟩
     ·have e0 : A.tmps[0]?.getD undef = .slice (some ad) m c := hr 0 (by decide)
      refine wpOp_step rfl (fun K' hK => ?_)
      go_simp
      exact hK _ _ ⟨_, rfl, rfl, fun _ _ _ h => h, hC⟩
     ·have e4 : A.tmps[4]?.getD undef = .int .i64 (i : Int) := hr 4 (by decide)
      refine wpOp_step rfl (fun K' hK => ?_)
      go_simp
      exact hK _ _ ⟨_, rfl, rfl, fun _ _ _ h => h, hC⟩
     ·have d12 : A.tmps[43]?.getD undef = .slice (some ad) m c := fI hd 12 43
      have d13 : A.tmps[44]?.getD undef = .int .i64 (i : Int) := fI hd 13 44
      refine wpOp_step rfl (fun K' hK => ?_)
      go_simp
      exact hK _ _ ⟨_, rfl, rfl, fun _ _ _ h => h, hC⟩
     ·have d14 : A.tmps[45]?.getD undef = .pointer (some (ad.add (i * 6))) := fI hd 14 45
      refine wpOp_step rfl (fun K' hK => ?_)
      go_simp
      exact hK _ _ ⟨_, rfl, rfl, fun _ _ _ h => h, hC⟩
     ·have d15 : A.tmps[46]?.getD undef = .pointer (some ⟨(ad.add (i * 6)).block, (ad.add (i * 6)).off + 5, none⟩) := fI hd 15 46
      refine wpOp_step rfl (fun K' hK => ?_)
      obtain ⟨f0, f1, f2, f3, f4, f5⟩ := HCL2.out W hC.2.1
      go_simp
      exact hK _ _ ⟨_, rfl, rfl, fun _ _ _ h => h, hC⟩
     ·have d1 : A.tmps[32]?.getD undef = .agg #[.int .i64 la, .bool nu, .bool inn] := fI hd 1 32
      have d6 : A.tmps[37]?.getD undef = .int .i64 (ln : Int) := fI hd 6 37
      have d11 : A.tmps[42]?.getD undef = .slice xa cl xc := fI hd 11 42
      have d16 : A.tmps[47]?.getD undef = .int .i64 ru := fI hd 16 47
      refine wpOp_step rfl (fun K' hK => ?_)
      go_simp
      exact hK _ _ ⟨_, rfl, rfl, fun _ _ _ h => h, hC⟩
     ·have d17 : A.tmps[48]?.getD undef = .agg #[.int .i64 la, .bool nu, .bool inn, .int .i64 (ln : Int), .slice xa cl xc, .int .i64 ru] := fI hd 17 48
      refine wpOp_step rfl (fun K' hK => ?_)
      go_simp
      exact hK _ _ ⟨_, rfl, ⟨W.heap.size, rfl, hC.2.2.2, Blk.new W _ _⟩, fun k' _ u h => KSB k' u (below_alloc W _) h, stay _ (below_alloc W _)⟩
    ·intro A x W hC hd hr
     have stay : ∀ W', Below W.heap.size W W' → (false = false → Below Z.heap.size Z W') ∧ Below w.heap.size w W' ∧ Z.grownBy W' y3.ownBlock ∧ b0 ≤ W'.heap.size := fun W' hb => ⟨fun h => (hC.1 h).trans (hb.mono (hC.1 h).size), hC.2.1.trans (hb.mono hC.2.1.size), grown_below hC.2.2.1 hb, Nat.le_trans hC.2.2.2 hb.size⟩
     have KSB : ∀ k' u {W'}, Below W.heap.size W W' → gAll (ksQ w.heap.size ad m c i b0 la nu inn ln xa cl xc ru y3 l q) k' u W → gAll (ksQ w.heap.size ad m c i b0 la nu inn ln xa cl xc ru y3 l q) k' u W' := fun k' u W' hb h => ksQ_b w.heap.size ad m c i b0 la nu inn ln xa cl xc ru y3 l q k' W W' u hb h
     have KSN : ∀ k', k' ≠ 19 → ∀ u {W' row}, W.grownBy W' row → (∀ g, row = some g → g < b0) → gAll (ksQ w.heap.size ad m c i b0 la nu inn ln xa cl xc ru y3 l q) k' u W → gAll (ksQ w.heap.size ad m c i b0 la nu inn ln xa cl xc ru y3 l q) k' u W' := fun k' hk u W' row hg hr h => ksQ_n w.heap.size ad m c i b0 la nu inn ln xa cl xc ru y3 l q k' hk W W' row u hg hr h
     obtain ⟨g, hx, hg0, hgb⟩ : gOne b0 86 [.int .i64 la, .bool nu, .bool inn, .int .i64 (ln : Int), .slice xa cl xc, .int .i64 ru] W (x 18) := (hd 18 (by decide)).2
     have dr : A.tmps[49]?.getD undef = .slice (some ⟨g, 0, none⟩) 1 1 := ((hd 18 (by decide)).1 49 rfl).trans hx
     have dy : A.tmps[31]?.getD undef = y3 := fI hd 0 31
     have hbw := hC.1 rfl
     obtain ⟨v', W', hrun, hown', hgrow', hat'⟩ := steps_pushR W w.heap.size g y3 l q (own_below HOZ.out hbw) (by rw [HQC.out]; exact hgb) hC.2.1.size (by omega) 49
     refine wpOp_step rfl (fun K' hK => ?_)
     refine step_run_append (by rfl) (.tmp 31) (.tmp 49) 49 rfl y3 (.slice (some ⟨g, 0, none⟩) 1 1) (by show A.tmps.getD 31 undef = _; simpa using dy) (by show A.tmps.getD 49 undef = _; simpa using dr) v' W' hrun ?_
     refine hK _ _ ⟨v', rfl, hown', fun k' hk' u h => KSN k' hk' u hgrow' (fun g' hg' => by rw [hb0]; exact (HOZ.out.lt g' hg').2) h, ⟨fun h => (by cases h), hC.2.1.grown hgrow' hC.2.1.size (fun g' hg' => (HOZ.out.lt g' hg').1), grown_tr hC.2.2.1 hgrow', Nat.le_trans hC.2.2.2 hgrow'.size⟩⟩
    ·intro x W hC hR
     have hown' : W.ownsRow w.heap.size 86 6 (x 19) (l ++ [q]).length (STC (l ++ [q])) := hR 19 (by decide)
     have HO2 := hide (show W.ownsRow w.heap.size 86 6 (x 19) (xs.take (i + 1)).length (STC (xs.take (i + 1))) by rw [HLX.out]; exact hown')
     have HBW := hide hC.2.1
     clear hown' hC hR
     refine wpOp_step rfl (fun K' hK => ?_)
     simp only [putL, Act.put, Nat.zero_add, Nat.reduceAdd, List.setIfInBounds_toArray, List.set_cons_succ, List.set_cons_zero]
     generalize x 0 = x0
     generalize x 1 = x1
     generalize x 2 = x2
     generalize x 3 = x3
     generalize x 4 = x4
     generalize x 5 = x5
     generalize x 6 = x6
     generalize x 7 = x7
     generalize x 8 = x8
     generalize x 9 = x9
     generalize x 10 = x10
     generalize x 11 = x11
     generalize x 12 = x12
     generalize x 13 = x13
     generalize x 14 = x14
     generalize x 15 = x15
     generalize x 16 = x16
     generalize x 17 = x17
     generalize x 18 = x18
     generalize x 19 = x19 at *
     go_simp
     refine hK _ _ ?_
     clear hK K'
     go_wp2
     have hlt9 := HLT.out
     exact ⟨⟨i + 1, _, by omega, by go_num, rfl, HO2.out, HBW.out⟩, by simp [intOf]; omega⟩
  ·obtain rfl : i = m := by omega
   have HFIN := hide (show StepsAt we y3 xs from own_formR (by
    have h := hown
    rw [List.take_of_length_le (by have := HM.out; omega)] at h
    exact h) (fun x hx => (HBS.out x hx).same hbel) (by have := HM.out; omega))
   have HB := hide hbel
   clear hown hbel
   go_wp2
   go_ret
   exact ⟨_, rfl, HFIN.out, HB.out⟩
set_option maxHeartbeats 8000000 in
set_option maxRecDepth 100000 in
theorem sameSteps_any (v1 v2 : Value) (xs ys : List Stp) (w : World) (h1 : StepsAt w v1 xs) (h2 : StepsAt w v2 ys) (he : xs.map (·.sp) = ys.map (·.sp)) :
  Calls Tryd.prog 17 #[v1, v2] w fun e w' => e = .returned (.bool true) ∧ Below w.heap.size w w' := by
 obtain ⟨A, c, rfl, _, h96, hr, hbs⟩ := h1
 obtain ⟨B, d, rfl, _, _, hr2, hbs2⟩ := h2
 have hyl : ys.length = xs.length := by have := congrArg List.length he; simpa using this.symm
 have HR := hide hr
 have HR2 := hide hr2
 have HE := hide he
 have HXB := hide hbs
 have HYB := hide hbs2
 have HW := hide (Below.refl w.heap.size w)
 have HYL := hide hyl
 rw [hyl]
 obtain ⟨m, hm⟩ : ∃ m, m = xs.length := ⟨_, rfl⟩
 have HM := hide hm
 rw [← hm] at h96 ⊢
 have hmi : (m : Int) ≤ 96 := by omega
 have hne : ((m : Int) != (m : Int)) = false := by simp
 clear hr hr2 he hbs hbs2 hm hyl
 go_enter Tryd.func17, Tryd.ntmps17
 go_wp2
 go_loopw [5] (fun s wr => ∃ (k q : Nat), k ≤ m ∧ s = .int .i64 (k : Int) ∧ wr = w.drewN q) (fun s _ => m - (intOf s).toNat)
 case atStart => exact ⟨0, 0, by omega, rfl, rfl⟩
 case round =>
  obtain ⟨k, q, hk, rfl, rfl⟩ := hrel
  have hk0 : (0 : Int) ≤ (k : Int) := by omega
  by_cases hlt : k < m
  ·have hkx : k < xs.length := by rw [← HM.out]; exact hlt
   have hky : k < ys.length := by rw [HYL.out]; exact hkx
   obtain ⟨ad, rfl, hadb, hcs⟩ := reads_step HR.out k hkx
   obtain ⟨bd, rfl, hbdb, hct⟩ := reads_step HR2.out k hky
   have hsp : ys[k].sp = xs[k].sp := by
    have h := congrArg (fun z => z[k]?) HE.out
    simp only [List.getElem?_map, List.getElem?_eq_getElem hkx, List.getElem?_eq_getElem hky, Option.map_some, Option.some.injEq] at h
    exact h.symm
   have f0 : w.cell? (ad.add (k * 6)) = some (.int .i64 xs[k].sp.to.lang) := hcs 0 _ rfl
   have f1 : w.cell? ⟨(ad.add (k * 6)).block, (ad.add (k * 6)).off + 1, none⟩ = some (.bool xs[k].sp.to.num) := hcs 1 _ rfl
   have f2 : w.cell? ⟨(ad.add (k * 6)).block, (ad.add (k * 6)).off + 2, none⟩ = some (.bool xs[k].sp.to.inn) := hcs 2 _ rfl
   have f3 : w.cell? ⟨(ad.add (k * 6)).block, (ad.add (k * 6)).off + 3, none⟩ = some (.int .i64 (xs[k].sp.len : Int)) := hcs 3 _ rfl
   have f4 : w.cell? ⟨(ad.add (k * 6)).block, (ad.add (k * 6)).off + 4, none⟩ = some (.slice xs[k].ad xs[k].sp.cells.length xs[k].c) := hcs 4 _ rfl
   have f5 : w.cell? ⟨(ad.add (k * 6)).block, (ad.add (k * 6)).off + 5, none⟩ = some (.int .i64 xs[k].sp.rule) := hcs 5 _ rfl
   have e0 : w.cell? (bd.add (k * 6)) = some (.int .i64 xs[k].sp.to.lang) := by have h := hct 0 _ rfl; rw [hsp] at h; exact h
   have e1 : w.cell? ⟨(bd.add (k * 6)).block, (bd.add (k * 6)).off + 1, none⟩ = some (.bool xs[k].sp.to.num) := by have h := hct 1 _ rfl; rw [hsp] at h; exact h
   have e2 : w.cell? ⟨(bd.add (k * 6)).block, (bd.add (k * 6)).off + 2, none⟩ = some (.bool xs[k].sp.to.inn) := by have h := hct 2 _ rfl; rw [hsp] at h; exact h
   have e3 : w.cell? ⟨(bd.add (k * 6)).block, (bd.add (k * 6)).off + 3, none⟩ = some (.int .i64 (xs[k].sp.len : Int)) := by have h := hct 3 _ rfl; rw [hsp] at h; exact h
   have e4 : w.cell? ⟨(bd.add (k * 6)).block, (bd.add (k * 6)).off + 4, none⟩ = some (.slice ys[k].ad xs[k].sp.cells.length ys[k].c) := by have h := hct 4 _ rfl; rw [hsp] at h; exact h
   have e5 : w.cell? ⟨(bd.add (k * 6)).block, (bd.add (k * 6)).off + 5, none⟩ = some (.int .i64 xs[k].sp.rule) := by have h := hct 5 _ rfl; rw [hsp] at h; exact h
   have hb1 := HXB.out xs[k] (List.getElem_mem hkx)
   have hb2 := HYB.out ys[k] (List.getElem_mem hky)
   have CS := hide (fun (j : Nat) => (show Calls Tryd.prog 7 #[.slice xs[k].ad xs[k].sp.cells.length xs[k].c, .slice ys[k].ad xs[k].sp.cells.length ys[k].c] (w.drewN (q + j)) fun e w' => e = .returned (.bool true) ∧ ∃ z, w' = w.drewN (q + z) by
    have h2 : BsAt w w.heap.size ⟨xs[k].sp.cells, ys[k].ad, ys[k].c⟩ := by have h := hb2; unfold bsOf at h; rw [hsp] at h; exact h
    have h := same_any xs[k].ad ys[k].ad xs[k].c ys[k].c xs[k].sp.cells xs[k].sp.cells (w.drewN (q + j)) hb1.1 h2.1 hb1.2.2
    rw [decide_eq_true rfl] at h
    exact h.mono fun e w' ⟨he, z, hz⟩ => ⟨he, j + z, by rw [hz, World.drewN_drewN, Nat.add_assoc]⟩))
   have hk1 : (k : Int) < (m : Int) := by omega
   have HLT := hide hlt
   generalize xs[k].sp.to.lang = la at *
   generalize xs[k].sp.to.num = nu at *
   generalize xs[k].sp.to.inn = inn at *
   generalize xs[k].sp.len = xl at *
   generalize xs[k].sp.cells.length = xn at *
   generalize xs[k].sp.rule = ru at *
   generalize xs[k].ad = xa at *
   generalize xs[k].c = xc at *
   generalize ys[k].ad = ya at *
   generalize ys[k].c = yc at *
   have hn1 : ((xl : Int) != (xl : Int)) = false := by simp
   have hn2 : (ru != ru) = false := by simp
   have hn3 : (la != la) = false := by simp
   have hn4 : (nu != nu) = false := by simp
   have hn5 : (inn != inn) = false := by simp
   have hn6 : (la == la) = true := by simp
   have hn7 : (nu == nu) = true := by simp
   have hn8 : (inn == inn) = true := by simp
   clear hsp hb1 hb2 hcs hct hkx hky hlt
   go_wp2
   go_quiet (first | (go_at_call 7; exact unhide CS _))
   go_wp2
   have hk2 : k < m := HLT.out
   refine ⟨⟨k + 1, q + nq, by omega, rfl, rfl⟩, ?_⟩
   simp only [intOf]
   omega
  ·obtain rfl : k = m := by omega
   have hnt : ¬ ((k : Int) < (k : Int)) := by omega
   clear hlt
   go_wp2
   go_ret
   exact ⟨rfl, below_drewN HW.out _⟩
end Go.Proofs.YtjnnohghgkjhcaaDoor
namespace Go.Proofs.YtjnnohghgkjhcaaDoor
open Go.RowKit
set_option linter.unusedVariables false
set_option linter.unusedSimpArgs false
namespace Tb
variable {l m : Text} {p q a b : Nat}
end Tb
end Go.Proofs.YtjnnohghgkjhcaaDoor
/-
 Tables, plainly: the text of the law in which something else stands round the word is alike.
-/
namespace Go.Proofs.YtjnnohghgkjhcaaDoor
open Go.RowKit
set_option linter.unusedVariables false
set_option linter.unusedSimpArgs false
namespace Tb
end Tb
end Go.Proofs.YtjnnohghgkjhcaaDoor
namespace Go.Proofs.YtjnnohghgkjhcaaDoor
open Go.RowKit
set_option linter.unusedVariables false
set_option linter.unusedSimpArgs false
def gSps (L : List Tb.Sp) : World → Value → Prop := fun W v => ∃ xs, StepsAt W v xs ∧ xs.map (·.sp) = L
theorem stab_sps (L : List Tb.Sp) : Stab (gSps L) := fun _ _ _ hb ⟨xs, h1, h2⟩ => ⟨xs, h1.same hb, h2⟩
theorem steps_call (TV : Value) (t : Tb.Tab) (s : Tb.St) (sv : Value) (hsv : sv = stV s) (A : Option Addr) (c : Nat) (l : Tb.Text) (p : Int) (w W : World) (ht : TabAt w w.heap.size TV t) (hx : TextAt w w.heap.size A l) (hc : l.length ≤ c) (hb : Below w.heap.size w W) (L : List Tb.Sp) (hL : Tb.steps t s l p = L) :
  Calls Tryd.prog 19 #[TV, sv, .slice A l.length c, .int .i64 p] W fun e w' => ∃ v, e = .returned v ∧ gSps L w' v ∧ Below W.heap.size W w' := by
 subst hsv
 subst hL
 refine (steps_any TV t s A c l p W ((ht.below hb).more hb.size) (hx.same hb) hc).mono ?_
 rintro e w' ⟨v', xs, rfl, hst, hxs, hb2⟩
 exact ⟨v', rfl, ⟨xs, hst, hxs⟩, hb2⟩
theorem plain_call (v : Value) (L : List Tb.Sp) (W : World) (h : gSps L W v) : Calls Tryd.prog 18 #[v] W fun e w' => ∃ v', e = .returned v' ∧ gSps L w' v' ∧ Below W.heap.size W w' := by
 obtain ⟨xs, h1, h2⟩ := h
 refine (plain_any v xs W h1).mono ?_
 rintro e w' ⟨v', rfl, hst, hb⟩
 exact ⟨v', rfl, ⟨xs, hst, h2⟩, hb⟩
theorem same_call (v1 v2 : Value) (L : List Tb.Sp) (W : World) (h1 : gSps L W v1) (h2 : gSps L W v2) : Calls Tryd.prog 17 #[v1, v2] W fun e w' => e = .returned (.bool true) ∧ Below W.heap.size W w' := by
 obtain ⟨xs, a1, a2⟩ := h1
 obtain ⟨ys, b1, b2⟩ := h2
 exact sameSteps_any v1 v2 xs ys W a1 b1 (a2.trans b2.symm)
end Go.Proofs.YtjnnohghgkjhcaaDoor
namespace Go.Proofs.YtjnnohghgkjhcaaDoor
open Go.RowKit
set_option linter.unusedVariables false
set_option linter.unusedSimpArgs false
end Go.Proofs.YtjnnohghgkjhcaaDoor
/-
 Tables: own and raw of the law, by contract.
-/
namespace Go.Proofs.YtjnnohghgkjhcaaDoor
open Go.RowKit
set_option linter.unusedVariables false
set_option linter.unusedSimpArgs false
end Go.Proofs.YtjnnohghgkjhcaaDoor
namespace Go.Proofs.YtjnnohghgkjhcaaDoor
open Go.RowKit
set_option linter.unusedVariables false
set_option linter.unusedSimpArgs false
end Go.Proofs.YtjnnohghgkjhcaaDoor
