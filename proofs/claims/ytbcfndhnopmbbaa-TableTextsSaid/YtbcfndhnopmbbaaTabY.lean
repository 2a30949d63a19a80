/-
  Tables: are of the law, at what it finds right; by contract.
-/
import Derived.Test.YtbcfndhnopmbbaaTabX
namespace Go.Proofs.Ytbcfndhnopmbbaa
open Go.RowKit
set_option linter.unusedVariables false
set_option linter.unusedSimpArgs false
def bsV (b : Tb.Bs) : Value := .slice b.ad b.l.length b.c
/-- lists of bytes in memory below B -/
def CellsAt (w : World) (B : Nat) (A : Option Addr) (bs : List Tb.Bs) : Prop := Reads w B 1 A bs.length (bs.map bsV) ∧ ∀ b ∈ bs, BsAt w B b
theorem CellsAt.below {w w' : World} {B : Nat} {A : Option Addr} {bs : List Tb.Bs} (h : CellsAt w B A bs) (hb : Below B w w') : CellsAt w' B A bs := ⟨h.1.below hb, fun b hm => (h.2 b hm).below hb⟩
theorem CellsAt.more {w : World} {B B' : Nat} {A : Option Addr} {bs : List Tb.Bs} (h : CellsAt w B A bs) (hB : B ≤ B') : CellsAt w B' A bs := ⟨h.1.more hB, fun b hm => (h.2 b hm).more hB⟩
theorem reads_step {w : World} {A : Option Addr} {xs : List Stp} (h : Reads w w.heap.size 6 A xs.length (STC xs)) (k : Nat) (hk : k < xs.length) :
    ∃ ad, A = some ad ∧ ad.block < w.heap.size ∧ ∀ (j : Nat) (v : Value), (spC xs[k])[j]? = some v → w.cell? ((ad.add (k * 6)).add j) = some v := by
  obtain ⟨ad, hA, hb, hc⟩ := h.2 (by omega)
  refine ⟨ad, hA, hb, fun j v hv => ?_⟩
  have hj : j < 6 := (List.getElem?_eq_some_iff.1 hv).1
  rw [add_of_add]
  exact hc _ _ (by rw [STC_get xs k j hk hj]; exact hv)
set_option maxHeartbeats 4000000 in
set_option maxRecDepth 100000 in
theorem are_any (v : Value) (xs : List Stp) (L : Option Addr) (m cl : Nat) (C : Option Addr) (cc : Nat) (bs : List Tb.Bs) (w : World) (hx : StepsAt w v xs) (hl : Reads w w.heap.size 1 L m (xs.map fun x => Value.int .i64 (x.sp.len : Int)))
    (hb : CellsAt w w.heap.size C bs) (he : xs.map (·.sp.cells) = bs.map (·.l)) :
    Calls Try.prog 41 #[v, .slice L m cl, .slice C bs.length cc] w fun e w' => e = .returned (.bool true) ∧ Below w.heap.size w w' := by
  obtain ⟨A, c, rfl, _, h96, hr, hbs⟩ := hx
  have hml : m = xs.length := by have := hl.1; simp at this; omega
  have hbl : bs.length = xs.length := by have := congrArg List.length he; simpa using this.symm
  have HR := hide hr
  have HL := hide hl
  have HC := hide hb
  have HE := hide he
  have HXB := hide hbs
  have HW := hide (Below.refl w.heap.size w)
  rw [hbl]
  obtain ⟨n, hn⟩ : ∃ n, n = xs.length := ⟨_, rfl⟩
  have HN := hide hn
  have HBL := hide hbl
  rw [← hn] at hml h96 ⊢
  subst hml
  have hmi : (m : Int) ≤ 96 := by omega
  have hne : ((m : Int) != (m : Int)) = false := by simp
  clear hr hl hb he hbs hn hbl
  go_enter Try.func41, Try.ntmps41
  go_wp2
  go_loopw [7] (fun s wr => ∃ (k q : Nat), k ≤ m ∧ s = .int .i64 (k : Int) ∧ wr = w.drewN q) (fun s _ => m - (intOf s).toNat)
  case atStart => exact ⟨0, 0, by omega, rfl, rfl⟩
  case round =>
    obtain ⟨k, q, hk, rfl, rfl⟩ := hrel
    have hk0 : (0 : Int) ≤ (k : Int) := by omega
    by_cases hlt : k < m
    · have hkx : k < xs.length := by rw [← HN.out]; exact hlt
      have hkb : k < bs.length := by rw [HBL.out]; exact hkx
      obtain ⟨ad, rfl, hadb, hcs⟩ := reads_step HR.out k hkx
      have hc1 : w.cell? ⟨(ad.add (k * 6)).block, (ad.add (k * 6)).off + 3, none⟩ = some (.int .i64 (xs[k].sp.len : Int)) := hcs 3 _ rfl
      have hc2 : w.cell? ⟨(ad.add (k * 6)).block, (ad.add (k * 6)).off + 4, none⟩ = some (.slice xs[k].ad xs[k].sp.cells.length xs[k].c) := hcs 4 _ rfl
      obtain ⟨ld, u, rfl, hldb, hu, hcu⟩ := Reads.at_ HL.out hlt
      have hcl : w.cell? (ld.add k) = some (.int .i64 (xs[k].sp.len : Int)) := by
        rw [List.getElem?_map, List.getElem?_eq_getElem hkx] at hu
        rw [hcu, ← hu]
        rfl
      obtain ⟨cd, u2, rfl, hcdb, hu2, hcu2⟩ := Reads.at_ HC.out.1 (k := k) hkb
      have hcc : w.cell? (cd.add k) = some (.slice bs[k].ad bs[k].l.length bs[k].c) := by
        rw [List.getElem?_map, List.getElem?_eq_getElem hkb] at hu2
        rw [hcu2, ← hu2]
        rfl
      have hel : xs[k].sp.cells = bs[k].l := by
        have h := congrArg (fun z => z[k]?) HE.out
        simp only [List.getElem?_map, List.getElem?_eq_getElem hkx, List.getElem?_eq_getElem hkb, Option.map_some, Option.some.injEq] at h
        exact h
      have hb1 := (HXB.out xs[k] (List.getElem_mem hkx))
      have hb2 := HC.out.2 bs[k] (List.getElem_mem hkb)
      have CS := hide (fun (j : Nat) => (show Calls Try.prog 52 #[.slice xs[k].ad xs[k].sp.cells.length xs[k].c, .slice bs[k].ad bs[k].l.length bs[k].c] (w.drewN (q + j)) fun e w' => e = .returned (.bool true) ∧ ∃ z, w' = w.drewN (q + z) by
        have h := same_any xs[k].ad bs[k].ad xs[k].c bs[k].c xs[k].sp.cells bs[k].l (w.drewN (q + j)) hb1.1 hb2.1 hb1.2.2
        rw [decide_eq_true hel] at h
        exact h.mono fun e w' ⟨he, z, hz⟩ => ⟨he, j + z, by rw [hz, World.drewN_drewN, Nat.add_assoc]⟩))
      have hk1 : (k : Int) < (m : Int) := by omega
      have HLT := hide hlt
      generalize xs[k].sp.len = xl at *
      generalize xs[k].sp.cells.length = xn at *
      generalize xs[k].ad = xa at *
      generalize xs[k].c = xc at *
      generalize bs[k].l.length = bn at *
      generalize bs[k].ad = ba at *
      generalize bs[k].c = bc at *
      have hnl : ((xl : Int) != (xl : Int)) = false := by simp
      clear hu hcu hu2 hcu2 hel hb1 hb2 hcs hkx hkb hlt
      go_wp2
      go_quiet (first | (go_at_call 52; exact unhide CS _))
      go_wp2
      have hk2 : k < m := HLT.out
      refine ⟨⟨k + 1, q + nq, by omega, rfl, rfl⟩, ?_⟩
      simp only [intOf]
      omega
    · obtain rfl : k = m := by omega
      have hnt : ¬ ((k : Int) < (k : Int)) := by omega
      clear hlt
      go_wp2
      go_ret
      exact ⟨rfl, below_drewN HW.out _⟩
end Go.Proofs.Ytbcfndhnopmbbaa
