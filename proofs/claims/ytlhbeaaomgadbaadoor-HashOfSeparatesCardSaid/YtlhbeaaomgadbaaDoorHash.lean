/-
  Package hash's Sum by contract.
-/
import Derived.Test.YtlhbeaaomgadbaaDoorSumM
namespace Go.Proofs.YtlhbeaaomgadbaaDoor
open Go.RowKit
set_option linter.unusedVariables false
set_option linter.unusedSimpArgs false

theorem begin_st (w : World) : Calls Tryd.prog 14 #[] w fun e w' => e = .returned (.agg (ST []).toArray) ∧ Below w.heap.size w w' := begin_any w
theorem add_new (t : List UInt8) (w : World) (hK : KLaid w) (hm : t.length ≤ 9223372036854775807) :
    Calls Tryd.prog 15 #[.agg (ST []).toArray, .string (S t)] w fun e w' => e = .returned (.agg (ST t).toArray) ∧ Below w.heap.size w w' := add_any [] t w hK (by simpa using hm)
/-- what is stored into a block of the size of what is stored, as the walk meets it -/
theorem run_store_cells {P : Program} (W : World) (g : Nat) (cs : List Value) (h1 : ∀ v ∈ cs, v.oneCell' = true) (ht : W.there g 0 cs.length) : (storeCells ⟨g, 0, none⟩ cs 0).run P W = .ok () (W.setCells g 0 cs) :=
  run_storeCells_cells (P := P) g 0 cs 0 W (fun j hj => by have := (ht j hj).1; simpa using this) (fun j hj => by have := (ht j hj).2; simpa using this) h1
theorem there_below {W W' : World} {g o n B : Nat} (h : W.there g o n) (hb : Below B W W') (hg : g < B) : W'.there g o n := fun j hj => by
  obtain ⟨a, b⟩ := h j hj
  exact ⟨by rw [hb.cell (p := ⟨g, o + j, none⟩) hg]; exact a, by rw [hb.frozen (p := ⟨g, o + j, none⟩) hg]; exact b⟩
theorem range_setCells {W : World} {g : Nat} {cs : List Value} (h : W.there g 0 cs.length) : (W.setCells g 0 cs).rangeAt g 0 cs := World.rangeAt_setCells_same W g 0 cs h

set_option maxHeartbeats 1000000 in
set_option maxRecDepth 100000 in
/-- hash.Sum -/
theorem hsum_any (A : Option Addr) (n c : Nat) (l : List UInt8) (w : World) (hr : Reads w w.heap.size 1 A n (BV l)) (hK : KLaid w) (hm : l.length ≤ 1152921504606846975) :
    Calls Tryd.prog 11 #[.slice A n c] w fun e w' => e = .returned (.agg (BV (Sha.sum l)).toArray) ∧ Below w.heap.size w w' := by
  have HAD := hide (fun W hW => add_new l W hW (by omega))
  have HSM := hide (fun W hW => sumM_any l W hW hm)
  have hsl : (Sha.sum l).length = 32 := by unfold Sha.sum; rw [Sha.bytes_len, Sha.blocks_len _ _ _ rfl]
  generalize Sha.sum l = D at *
  have hone := BV_one D
  have hlen : (BV D).length = 32 := by rw [BV_len, hsl]
  generalize hout : BV D = out at *
  have HOUT := hide hout
  have HLEN := hide hlen
  have HONE := hide hone
  have HR := hide hr
  have HK := hide hK
  have hzs := zero32
  clear hr hK hsl hone hout
  go_enter Tryd.func11, Tryd.ntmps11
  go_upto_region 1 with fail
  refine name_world fun W hW => ?_
  have B2 := hide (show Blk W w.heap.size 24 (BV Z32).toArray by rw [← hW.out]; exact Blk.new w _ _)
  have HW := hide (show Below w.heap.size w W by rw [← hW.out]; exact (Below.refl _ _).alloc (Nat.le_refl _) _)
  have hws : w.heap.size < W.heap.size := by rw [← hW.out]; simp
  have HRD := hide (fun (W' : World) (hb : Below W.heap.size W W') => (HR.out.below (HW.out.trans (hb.mono (by omega)))))
  have HCV := hide (fun (W' : World) (hb : Below W.heap.size W W') => run_conv_reads (P := Tryd.prog) (unhide HRD W' hb) 22 9 5 c Tryd.underlying22 Tryd.underlying5 Tryd.underlying9)
  have HKL := hide (fun (W' : World) (hb : Below W.heap.size W W') => HK.out.below (HW.out.trans (hb.mono (by omega))) (Nat.le_refl _))
  have HTH := hide (fun (W' : World) (hb : Below W.heap.size W W') => there_below (B2.out.there_ 0 32 (by rw [BV_len]; decide)) hb hws)
  have hst : ∀ W', W'.there w.heap.size 0 32 → (storeCells ⟨w.heap.size, 0, none⟩ out 0).run Tryd.prog W' = .ok () (W'.setCells w.heap.size 0 out) := fun W' h => run_store_cells W' w.heap.size out HONE.out (by rw [HLEN.out]; exact h)
  have hos : out.toArray.size = 32 := by rw [List.size_toArray, hlen]
  clear hW hzs hlen
  have hc0 := unhide HCV W.drew (Below.refl W.heap.size W).drew
  go_region_with (first
    | (go_at_call 14; refine (begin_st _).mono ?_; rintro e w1 ⟨rfl, hb1⟩; have hB1 : Below W.heap.size W w1 := below_drawn hb1; have hc1 := unhide HCV w1 hB1)
    | (go_at_call 15; refine (unhide HAD w1 (unhide HKL w1 hB1)).mono ?_; rintro e w2 ⟨rfl, hb2⟩; have hB2 := hB1.trans (hb2.mono hB1.size))
    | (go_at_call 17; refine (unhide HSM w2 (unhide HKL w2 hB2)).mono ?_; rintro e w3 ⟨rfl, hb3⟩; have hB3 := hB2.trans (hb3.mono hB2.size); have ht3 := unhide HTH w3 hB3))
  all_goals
    have hrg := range_setCells (W := w3) (g := w.heap.size) (cs := out) (by rw [HLEN.out]; exact ht3)
    have hload := run_loadVar_mid (P := Tryd.prog) (w3.setCells w.heap.size 0 out) w.heap.size 0 24 out _ hrg Tryd.underlying24 rfl (by rw [HLEN.out]; exact size32)
    have HLOAD := hide hload
    have HB3 := hide hB3
    clear hst hos ht3 hrg hload hc0 hc1 hB1 hB2 hB3
    go_wp2
    exact bodyPost_ret (v := .agg out.toArray) (results_cell0 Tryd.results11 _ _ ⟨w.heap.size, 0, none⟩ _ rfl HLOAD.out) rfl ⟨rfl, below_setCells (Nat.le_refl _) _ _ _ (HW.out.trans (HB3.out.mono (by omega)))⟩
end Go.Proofs.YtlhbeaaomgadbaaDoor
