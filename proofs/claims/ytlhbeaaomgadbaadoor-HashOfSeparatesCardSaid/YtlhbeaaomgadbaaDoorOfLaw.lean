/-
  HashOfMatchesSpec, walked.
-/
import Derived.Test.YtlhbeaaomgadbaaDoorSumLaw
namespace Go.Proofs.YtlhbeaaomgadbaaDoor
open Go.RowKit
set_option linter.unusedVariables false
set_option linter.unusedSimpArgs false
attribute [local go_sem ↓] Go.wp_at_zero Go.wp_at_succ
attribute [local go_sem ↓] wp_load_32 wp_load_16
attribute [local go_sem] ptrBlock_is

theorem guard16 : Tryd.prog.eqGuardType Tryd.prog.depth 44 = false := by kernel_rfl
theorem run_same16 (d e : List UInt8) (h : d.length = 16) (h' : e.length = 16) (w : World) : (Op.equalIn 10000 44 (.agg (BV d).toArray) (.agg (BV e).toArray)).run Tryd.prog w = .ok (d == e) w :=
  run_equalIn_bytes (P := Tryd.prog) w 9998 44 5 16 Tryd.underlying44 Tryd.underlying5 byteOne d e h h'
theorem and_255 (z : Int) : bits .and .i64 z 255 = z % 256 := by
  show IntKind.i64.wrap ((BitVec.ofInt 64 z &&& BitVec.ofInt 64 255).toNat : Int) = _
  have h1 : (BitVec.ofInt 64 z &&& BitVec.ofInt 64 255).toNat = (BitVec.ofInt 64 z).toNat % 256 := by
    rw [BitVec.toNat_and, show (BitVec.ofInt 64 255).toNat = 2 ^ 8 - 1 from rfl, Nat.and_two_pow_sub_one_eq_mod]
  have h2 : (((BitVec.ofInt 64 z).toNat : Nat) : Int) = z % 18446744073709551616 := by
    rw [BitVec.toNat_ofInt]
    omega
  rw [h1, IntWalk.i64_in _ (by omega)]
  omega
theorem tagB_mod (z : Int) : tagB (z % 256) = tagB z := by
  unfold tagB
  rw [show z % 256 % 256 = z % 256 by omega]
theorem encB_le (s : List UInt8) : (Wr.encB s).length ≤ 9 + s.length := by
  rw [Wr.encB_len]
  have := Wr.enc_le (s.length : Int)
  omega
theorem encL_few (xs : List (List UInt8)) (h : ∀ x ∈ xs, x.length ≤ 400) : (Wr.encL Wr.encB xs).length ≤ 409 * xs.length := by
  induction xs with
  | nil => simp [Wr.encL]
  | cons x xs ih =>
    have h1 := h x (by simp)
    have h2 := ih (fun y hy => h y (by simp [hy]))
    have h3 := encB_le x
    have e : Wr.encL Wr.encB (x :: xs) = Wr.encB x ++ Wr.encL Wr.encB xs := by simp [Wr.encL]
    rw [e, List.length_append, List.length_cons, Nat.mul_add]
    omega

set_option maxHeartbeats 2000000 in
set_option maxRecDepth 100000 in
theorem ofMatch_walk (z : Int) (A : Option Addr) (n c : Nat) (xs : List (List UInt8)) (w : World) (hr : Reads w w.heap.size 1 A n (xs.map VS)) (hK : KLaid w) (hR : RKLaid w) (hn : n ≤ 140737488355328) (hx : ∀ x ∈ xs, x.length ≤ 140737488355328) :
    Calls Tryd.prog 7 #[.int .i64 z, .slice A n c] w fun e w' => e = .returned (.bool true) ∧ Below w.heap.size w w' := by
  have HS := hide (sanity_any w hK)
  have hl : n = xs.length := by have := hr.1; simpa using this.symm
  have CF := hide (fun (W : World) hr => few_any A n c xs W hr (fun x h => Nat.le_trans (hx x h) (by omega)) (by omega))
  have HRD := hide hr
  by_cases hf : fewB xs = true
  · rw [hf] at CF
    obtain ⟨f1, f2⟩ := fewB_true hf
    have hel := encL_few xs f2
    have CO := hide (fun z (W : World) hr hW => of_any z A n c xs W hr (by omega) (by omega) hW)
    have CR := hide (fun (W : World) hr hW => refOf_any z A n c xs W hr (by omega) (by omega) hW)
    have hz := and_255 z
    have hin : inputOf (z % 256) xs = inputOf z xs := by unfold inputOf; rw [tagB_mod]
    have C1 := hide (fun (W : World) hr hW => CO.out z W hr hW)
    have C2 := hide (fun (W : World) hr hW => CO.out (z % 256) W hr hW)
    rw [hin] at C2
    have hdl := digestOf_len (inputOf z xs)
    generalize z % 256 = zz at *
    generalize digestOf (inputOf z xs) = D at *
    have HDL := hide hdl
    have HK := hide hK
    have HR := hide hR
    have hgd := guard16
    have hsame : ∀ W, (Op.equalIn 10000 44 (.agg (BV D).toArray) (.agg (BV D).toArray)).run Tryd.prog W = .ok true W := fun W => by
      have h := run_same16 D D hdl hdl W
      rwa [beq_self_eq_true] at h
    have HIN := hide hin
    clear hK hR hr hl hdl hx CO hf f1 f2 hel hin
    go_enter Tryd.func7, Tryd.ntmps7
    go_wp2_with fail
    refine (unhide HS).mono ?_
    rintro e w1 ⟨rfl, hb1⟩
    have HB1 := hide hb1
    clear hb1
    go_wp2_with fail
    refine (unhide CF w1 ((HRD.out.below HB1.out).more HB1.out.size)).mono ?_
    rintro e w' ⟨rfl, rfl⟩
    go_upto_region 5 with (first
      | (go_at_call 21; refine (unhide C1 w1 ((HRD.out.below HB1.out).more HB1.out.size) (HK.out.below HB1.out (Nat.le_refl _))).mono ?_; rintro e w2 ⟨rfl, hb2⟩; have HB2 := hide (HB1.out.trans (hb2.mono HB1.out.size)); clear hb2)
      | (with_reducible refine wpList_store_row rfl 44 (.tmp 6) (.tmp 14) rfl w2.heap.size (BV D).toArray rfl rfl 44 _ (heap_alloc_new w2 _) ?p1 ?p2 ?p3 ?_))
    case p1 => first | (rw [List.size_toArray, BV_len, HDL.out]; exact size16) | (rw [BV_len, HDL.out]; exact Option.map_eq_some_iff.1 size16)
    case p2 => first | (rw [show (BV D).toArray.size = 16 by rw [List.size_toArray, BV_len, HDL.out]]; rfl) | (rw [BV_len D, HDL.out]; rfl)
    case p3 => first | exact all_oneCell_toArray (BV_one D) | exact BV_one D
    rw [World.setRow_alloc_new]
    refine name_world fun V hV => ?_
    have G5 := hide (show Blk V w2.heap.size 44 (BV D).toArray by rw [← hV.out]; exact Blk.new w2 _ _)
    have HV := hide (show Below w.heap.size w V by rw [← hV.out]; exact HB2.out.alloc HB2.out.size _)
    have hg5 : w2.heap.size < V.heap.size := by rw [← hV.out]; simp
    clear hV
    generalize w2.heap.size = g5 at *
    have HLD := hide (fun (W' : World) (hb : Below V.heap.size V W') => (⟨⟨_, _, G5.out.below hb hg5, by rw [List.size_toArray, BV_len, HDL.out]⟩, rowAt_blk (G5.out.below hb hg5)⟩ : rowOk W' g5 16 ∧ rowAt W' g5 = (BV D).toArray))
    obtain ⟨r1, r2⟩ := unhide HLD V.drew (Below.refl V.heap.size V).drew
    have HVT := hide (fun (W' : World) (hb : Below V.heap.size V W') => HV.out.trans (hb.mono HV.out.size))
    have HRV := hide (fun (W' : World) (hb : Below V.heap.size V W') => ((HRD.out.below (unhide HVT W' hb)).more (unhide HVT W' hb).size : Reads W' W'.heap.size 1 A n (xs.map VS)))
    have V0 := hide (Below.refl V.heap.size V).drew
    go_region_with (first
      | (go_at_call 22; (with_reducible refine (unhide CR V.drew (unhide HRV V.drew V0.out) (HR.out.below (unhide HVT V.drew V0.out) (Nat.le_refl _))).mono ?_); rintro e z1 ⟨rfl, hz1⟩; have hZ1 := from_here V0.out hz1; obtain ⟨r5, r6⟩ := unhide HLD z1 hZ1)
      | (go_at_call 21; (with_reducible refine (unhide C2 z1 (unhide HRV z1 hZ1) (HK.out.below (unhide HVT z1 hZ1) (Nat.le_refl _))).mono ?_); rintro e z2 ⟨rfl, hz2⟩; have hZ2 := from_here hZ1 hz2; obtain ⟨r7, r8⟩ := unhide HLD z2 hZ2))
    all_goals
      have HF := hide (unhide HVT z2 hZ2)
      clear hZ1 hz1 hZ2 hz2 r1 r2 r5 r6 r7 r8
      go_wp2
      go_ret
      exact ⟨rfl, HF.out⟩
  · rw [Bool.not_eq_true] at hf
    rw [hf] at CF
    clear hK hR hr hl hx hf
    go_enter Tryd.func7, Tryd.ntmps7
    go_wp2_with fail
    refine (unhide HS).mono ?_
    rintro e w1 ⟨rfl, hb1⟩
    have HB1 := hide hb1
    clear hb1
    go_wp2_with fail
    refine (unhide CF w1 ((HRD.out.below HB1.out).more HB1.out.size)).mono ?_
    rintro e w' ⟨rfl, rfl⟩
    go_wp2
    go_ret
    exact ⟨rfl, HB1.out⟩
end Go.Proofs.YtlhbeaaomgadbaaDoor
