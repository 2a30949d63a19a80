/-
  Streams as cells; the stream with its block compressed, by contract.
-/
import Derived.Test.YtedgjpoejoepjaaDoorComp
namespace Go.Proofs.YtedgjpoejoepjaaDoor
open Go.RowKit
set_option linter.unusedVariables false
set_option linter.unusedSimpArgs false

/-- the cells of a stream: the hash value, the block, the length -/
def SC (v : List UInt32) (blk : List UInt8) (n : Nat) : List Value := UV v ++ (BV blk ++ [.int .u64 (n : Int)])
theorem SC_len (v : List UInt32) (blk : List UInt8) (n : Nat) : (SC v blk n).length = v.length + blk.length + 1 := by simp [SC, UV_len, BV_len]; omega
theorem SC_one (v : List UInt32) (blk : List UInt8) (n : Nat) : ∀ x ∈ SC v blk n, x.oneCell' = true := by
  intro x hx
  unfold SC at hx
  rcases List.mem_append.1 hx with h | h
  · exact UV_one v x h
  · rcases List.mem_append.1 h with h | h
    · exact BV_one blk x h
    · simp at h; subst h; rfl

/-- a list with other elements from a place on -/
def setL : List Value → Nat → List Value → List Value
  | xs, _, [] => xs
  | xs, o, v :: r => setL (xs.set o v) (o + 1) r
theorem setL_append (vs : List Value) : ∀ (A X : List Value), vs.length ≤ X.length → setL (A ++ X) A.length vs = A ++ (vs ++ X.drop vs.length) := by
  induction vs with
  | nil => intro A X _; simp [setL]
  | cons v r ih =>
    intro A X h
    cases X with
    | nil => simp at h
    | cons x X =>
      simp only [setL]
      rw [List.set_append_right _ _ (Nat.le_refl _), Nat.sub_self, List.set_cons_zero]
      have := ih (A ++ [v]) X (by simpa using h)
      simp only [List.length_append, List.length_singleton, List.append_assoc, List.singleton_append, List.cons_append, List.nil_append] at this
      rw [this]
      simp
theorem Blk.setL_ {g : Nat} {t : TypeId} (vs : List Value) : ∀ {w : World} {cs : List Value} (o : Nat), Blk w g t cs.toArray → Blk (w.setCells g o vs) g t (setL cs o vs).toArray := by
  induction vs with
  | nil => intro w cs o h; exact h
  | cons v r ih =>
    intro w cs o h
    have := h.set_ o v
    rw [List.setIfInBounds_toArray] at this
    exact ih (o + 1) this
/-- a part of a block is stored anew -/
theorem Blk.part {w : World} {g : Nat} {t : TypeId} (A X B vs : List Value) (h : Blk w g t (A ++ (X ++ B)).toArray) (o : Nat) (ho : A.length = o) (hl : vs.length = X.length) : Blk (w.setCells g o vs) g t (A ++ (vs ++ B)).toArray := by
  have := Blk.setL_ vs o h
  rw [← ho, setL_append vs A (X ++ B) (by rw [List.length_append]; omega), hl, List.drop_left' rfl] at this
  rw [← ho]
  exact this
theorem Blk.range {w : World} {g : Nat} {t : TypeId} (A X B : List Value) (h : Blk w g t (A ++ (X ++ B)).toArray) (o : Nat) (ho : A.length = o) : w.rangeAt g o X := fun j v hj => by
  have hl : j < X.length := by
    rcases Nat.lt_or_ge j X.length with h | h
    · exact h
    · rw [List.getElem?_eq_none h] at hj; cases hj
  rw [h.cell, List.getElem?_toArray, List.getElem?_append_right (by omega), List.getElem?_append_left (by omega), ← hj]
  congr 1
  omega
theorem Blk.there_ {w : World} {g : Nat} {t : TypeId} {cs : List Value} (h : Blk w g t cs.toArray) (o n : Nat) (hn : o + n ≤ cs.length) : w.there g o n := fun j hj => by
  refine ⟨?_, h.frozen _⟩
  rw [h.cell, List.getElem?_toArray, List.getElem?_eq_getElem (by omega)]
  rfl
theorem streamSize : (Tryd.prog.info? 80).map (·.size) = some 73 := by kernel_rfl
theorem compress_len (v : List UInt32) (b : List UInt8) (hv : v.length = 8) : (Sha.compress v b).length = 8 := by unfold Sha.compress; exact zip_len _ _ hv rfl

/-- sixty-four zero bytes -/
def Z64 : List UInt8 := List.replicate 64 0
/-- eight zero words -/
def W8 : List UInt32 := List.replicate 8 0

theorem zeroStream (W : World) : (zeroValue 80).run Tryd.prog W = .ok (.agg (SC W8 Z64 0).toArray) W := by kernel_rfl

set_option maxHeartbeats 400000 in
set_option maxRecDepth 100000 in
theorem closed_any (v : List UInt32) (b : List UInt8) (n : Nat) (w : World) (hv : v.length = 8) (hb : b.length = 64) (hK : KLaid w) :
    Calls Tryd.prog 65 #[.agg (SC v b n).toArray] w fun e w' => e = .returned (.agg (SC (Sha.compress v b) Z64 n).toArray) ∧ Below w.heap.size w w' := by
  have HCP := hide (fun W hW => compress_any v b W hv hb hW)
  have hl := compress_len v b hv
  generalize Sha.compress v b = v' at *
  have HV := hide hv
  have HB := hide hb
  have HL := hide hl
  have HK := hide hK
  clear hv hb hl hK
  have HSC := hide (show SC v b n = UV v ++ (BV b ++ [.int .u64 (n : Int)]) from rfl)
  generalize hcs : SC v b n = cs at *
  have hcsl : cs.length = 73 := by rw [← hcs, SC_len, HV.out, HB.out]
  have HCL := hide hcsl
  clear hcs hcsl
  have hzs := zeroStream
  go_enter Tryd.func65, Tryd.ntmps65
  go_upto_region 1 with fail
  refine name_world fun W hW => ?_
  have B1 := hide (show Blk W w.heap.size 80 (UV v ++ (BV b ++ [Value.int .u64 (n : Int)])).toArray by rw [← hW.out, ← HSC.out]; exact (Blk.new w _ _).alloc _)
  have B2 := hide (show W.heap[w.heap.size + 1]? = some (.cells (SC W8 Z64 0).toArray 80 (0, 0)) by
    rw [← hW.out]
    have := Blk.new (w.alloc (.cells cs.toArray 80)) 80 (SC W8 Z64 0).toArray
    rw [show (w.alloc (.cells cs.toArray 80)).heap.size = w.heap.size + 1 by simp] at this
    exact this)
  have HW := hide (show Below w.heap.size w W by rw [← hW.out]; exact ((Below.refl _ _).alloc (Nat.le_refl _) _).alloc (by simp) _)
  have hWs : W.heap.size = w.heap.size + 1 + 1 := by rw [← hW.out]; simp
  have HWS := hide hWs
  have R0 := hide (Blk.range [] (UV v) _ B1.out 0 rfl)
  have R8 := hide (Blk.range (UV v) (BV b) _ B1.out 8 (by rw [UV_len, HV.out]))
  have HKW := hide (HK.out.below HW.out (Nat.le_refl _))
  clear hW hWs
  go_upto_region 2 with (first
    | (with_reducible refine wpList_load_mid rfl 76 (.tmp 3) rfl w.heap.size 0 rfl (UV v) _ R0.out Tryd.underlying76 rfl ?c1 ?_)
    | (with_reducible refine wpList_load_mid rfl 77 (.tmp 5) rfl w.heap.size 8 rfl (BV b) _ R8.out Tryd.underlying77 rfl ?c2 ?_)
    | (go_at_call 71; refine (unhide HCP W HKW.out).mono ?_; rintro e w1 ⟨rfl, hb1⟩; have HB1 := hide hb1; have T0 := hide (Blk.there_ (B1.out.below hb1 (by have := HWS.out; omega)) 0 8 (by have h1 := HV.out; simp [UV_len]; omega)); clear hb1)
    | (with_reducible refine wpList_store_mid rfl 76 (.tmp 8) (.tmp 7) rfl w.heap.size 0 (UV v').toArray rfl rfl ?d1 ?d2 ?d3 ?_))
  case c1 => rw [UV_len, HV.out]; exact valueSize
  case c2 => rw [BV_len, HB.out]; exact blockSize
  case d1 => rw [show (UV v').toArray.size = 8 by rw [List.size_toArray, UV_len, HL.out]]; exact T0.out
  case d2 => rw [List.size_toArray, UV_len, HL.out]; exact valueSize
  case d3 => exact all_oneCell_toArray (UV_one v')
  refine name_world fun X hX => ?_
  have hws := HWS.out
  have hb1 := HB1.out
  have C1 := hide (show Blk X w.heap.size 80 (UV v' ++ (BV b ++ [Value.int .u64 (n : Int)])).toArray by
    rw [← hX.out]; exact Blk.part [] (UV v) _ (UV v') (B1.out.below hb1 (by omega)) 0 rfl (by rw [UV_len, UV_len, HV.out, HL.out]))
  have C2 := hide (show X.heap[w.heap.size + 1]? = some (.cells (SC W8 Z64 0).toArray 80 (0, 0)) by
    rw [← hX.out]; exact Blk.farCells _ 0 (Blk.below (show Blk W _ _ _ from B2.out) hb1 (by omega)) (by omega))
  have HX := hide (show Below w.heap.size w X by rw [← hX.out]; exact below_setCells (Nat.le_refl _) _ _ _ (HW.out.trans (hb1.mono (by omega))))
  have T8 := hide (Blk.there_ C1.out 8 64 (by have h1 := HB.out; have h2 := HL.out; simp [UV_len, BV_len]; omega))
  clear hX hws hb1
  go_upto_region 3 with (with_reducible refine wpList_store_mid rfl 77 (.tmp 10) (.tmp 9) rfl w.heap.size 8 (BV Z64).toArray rfl ?e4 ?e1 ?e2 ?e3 ?_)
  case e4 => rfl
  case e1 => exact T8.out
  case e2 => exact blockSize
  case e3 => exact all_oneCell_toArray (BV_one Z64)
  refine name_world fun Y hY => ?_
  have D1 := hide (show Y.heap[w.heap.size]? = some (.cells (SC v' Z64 n).toArray 80 (0, 0)) by
    rw [← hY.out]; exact Blk.part (UV v') (BV b) _ (BV Z64) C1.out 8 (by rw [UV_len, HL.out]) (by rw [BV_len, BV_len, HB.out]; rfl))
  have D2 := hide (show Y.heap[w.heap.size + 1]? = some (.cells (SC W8 Z64 0).toArray 80 (0, 0)) by
    rw [← hY.out]; exact Blk.farCells _ 8 (show Blk X _ _ _ from C2.out) (by omega))
  have HY := hide (show Below w.heap.size w Y by rw [← hY.out]; exact below_setCells (Nat.le_refl _) _ _ _ HX.out)
  have hlen : (SC v' Z64 n).length = 73 := by rw [SC_len, HL.out]; rfl
  have HLN := hide hlen
  have H1 := hide (SC_one v' Z64 n)
  clear hY hlen
  generalize hout : SC v' Z64 n = out at *
  have HOUT := hide hout
  clear hout
  go_wp2_with (first | (with_reducible refine wpList_load_row rfl 80 (.tmp 1) rfl w.heap.size rfl 80 out.toArray (0, 0) _ D1.out Tryd.underlying80 rfl ?f1 ?_) | (with_reducible refine wpList_store_row rfl 80 (.tmp 2) (.tmp 11) rfl (w.heap.size + 1) out.toArray rfl rfl 80 _ D2.out ?g1 ?g2 ?g3 ?_))
  case f1 => rw [List.size_toArray, HLN.out]; exact streamSize
  case g1 => rw [List.size_toArray, HLN.out]; exact streamSize
  case g2 => rw [show out.toArray.size = 73 by rw [List.size_toArray, HLN.out]]; rfl
  case g3 => simpa using H1.out
  have hload : (loadVar 80 ⟨w.heap.size + 1, 0, none⟩).run Tryd.prog (Y.setRow (w.heap.size + 1) out.toArray) = .ok (.agg out.toArray) (Y.setRow (w.heap.size + 1) out.toArray) :=
    run_loadVar_row _ _ _ _ _ _ _ (setRow_heap Y (w.heap.size + 1) _ out.toArray _ _ D2.out) Tryd.underlying80 rfl (by rw [List.size_toArray, HLN.out]; exact streamSize)
  exact bodyPost_ret (v := .agg out.toArray) (results_cell0 Tryd.results65 _ _ ⟨w.heap.size + 1, 0, none⟩ _ rfl hload) rfl ⟨by rw [HOUT.out], below_setRow HY.out (by omega) _⟩
end Go.Proofs.YtedgjpoejoepjaaDoor
