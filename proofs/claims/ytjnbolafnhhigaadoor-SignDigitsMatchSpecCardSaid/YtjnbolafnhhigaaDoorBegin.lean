/-
  The stream whose message is empty, by contract; copying a text into a block.
-/
import Derived.Test.YtjnbolafnhhigaaDoorClosed
import Derived.Lib.LazyBuf
namespace Go.Proofs.YtjnbolafnhhigaaDoor
open Go.RowKit
set_option linter.unusedVariables false
set_option linter.unusedSimpArgs false

theorem built_begin : Tryd.prog.built 80 [(0, .agg #[Value.int .u32 1779033703, Value.int .u32 3144134277, Value.int .u32 1013904242, Value.int .u32 2773480762, Value.int .u32 1359893119, Value.int .u32 2600822924, Value.int .u32 528734635, Value.int .u32 1541459225])] = some (SC Sha.H0 Z64 0).toArray := by kernel_rfl

set_option maxHeartbeats 400000 in
set_option maxRecDepth 100000 in
theorem begin_any (w : World) : Calls Tryd.prog 52 #[] w fun e w' => e = .returned (.agg (SC Sha.H0 Z64 0).toArray) ∧ Below w.heap.size w w' := by
  have hzs := zeroStream
  have HB := hide built_begin
  have H2 := hide (show (w.alloc (.cells (SC W8 Z64 0).toArray 80)).heap[w.heap.size]? = some (.cells (SC W8 Z64 0).toArray 80 (0, 0)) from Blk.new w _ _)
  have HL := hide (show (SC Sha.H0 Z64 0).length = 73 from rfl)
  have H1 := hide (SC_one Sha.H0 Z64 0)
  generalize hout : SC Sha.H0 Z64 0 = out at *
  have HOUT := hide hout
  clear hout
  go_enter Tryd.func52, Tryd.ntmps52
  go_wp2_with (first
    | (with_reducible refine wpList_build rfl 80 #[(0, .tmp 1)] rfl ?b1 ?_)
    | (with_reducible refine wpList_store_row rfl 80 (.tmp 0) (.tmp 2) rfl w.heap.size out.toArray rfl ?b2 80 _ H2.out ?g1 ?g2 ?g3 ?_))
  case b1 => rw [HB.out]; rfl
  case b2 => rw [HB.out]; rfl
  case g1 => rw [List.size_toArray, HL.out]; exact streamSize
  case g2 => rw [show out.toArray.size = 73 by rw [List.size_toArray, HL.out]]; rfl
  case g3 => simpa using H1.out
  have hload : (loadVar 80 ⟨w.heap.size, 0, none⟩).run Tryd.prog ((w.alloc (.cells (SC W8 Z64 0).toArray 80)).setRow w.heap.size out.toArray) = .ok (.agg out.toArray) ((w.alloc (.cells (SC W8 Z64 0).toArray 80)).setRow w.heap.size out.toArray) :=
    run_loadVar_row _ _ _ _ _ _ _ (setRow_heap _ w.heap.size _ out.toArray _ _ H2.out) Tryd.underlying80 rfl (by rw [List.size_toArray, HL.out]; exact streamSize)
  exact bodyPost_ret (v := .agg out.toArray) (results_cell0 Tryd.results52 _ _ ⟨w.heap.size, 0, none⟩ _ rfl hload) rfl ⟨rfl, below_setRow ((Below.refl _ _).alloc (Nat.le_refl _) _) (Nat.le_refl _) _⟩

/-- a text is copied into a block, as far as there is room -/
theorem run_copy_text {P : Program} (w : World) (dT sT ty elem : TypeId) (b o dLen dCap : Nat) (l : List UInt8)
    (hu : P.underlying dT = some (.slice elem)) (hz : ∀ w, (Go.sizeOf elem).run P w = .ok 1 w) (n : Nat) (hn : n = min l.length dLen)
    (ht : w.there b o n) :
    (Builtin.copy_ #[dT, sT] ty #[.slice (some ⟨b, o, none⟩) dLen dCap, .string (S l)]).run P w = .ok (goInt n) (w.setCells b o (BV (l.take n))) := by
  subst hn
  have hl : (BV (l.take (min l.length dLen))).length = min l.length dLen := by rw [BV_len, List.length_take]; omega
  have hst := run_storeCells_cells (P := P) b o (BV (l.take (min l.length dLen))) 0 w (by rw [hl]; intro j hj; simpa using (ht j hj).1) (by rw [hl]; intro j hj; simpa using (ht j hj).2) (BV_one _)
  rw [Nat.add_zero] at hst
  have hsz : (S l).size = l.length := rfl
  have hdata : (S l).data.toList = l := rfl
  have hmin : Nat.min l.length dLen = min l.length dLen := rfl
  simp [Builtin.copy_, run_underlying hu, Builtin.lenOf, Builtin.firstCells, hz, hsz, hdata, hmin]
  rw [show List.take (min l.length dLen) (List.map (fun b => Value.int IntKind.u8 (b.toNat : Int)) l) = BV (l.take (min l.length dLen)) by simp [BV, List.map_take], hst]
  rfl
theorem wpList_copy_text {P : Program} {w : World} {ops : Array Oper} {rest : List Oper} {o : Oper} {a : Act} {Q : Exit → Act → World → Prop} (hgd : o.guard = none) (d s : Operand) (dT sT : TypeId)
    (ho : o.op = .call { callee := .builtin .copy, args := #[d, s], argTypes := #[dT, sT] }) (elem : TypeId) (hu : P.underlying dT = some (.slice elem)) (hz : ∀ w, (Go.sizeOf elem).run P w = .ok 1 w)
    (b off dLen dCap : Nat) (hd : a.eval d = .slice (some ⟨b, off, none⟩) dLen dCap) (l : List UInt8) (hs : a.eval s = .string (S l)) (n : Nat) (hn : n = min l.length dLen) (ht : w.there b off n)
    (h : ∀ w', Hid (w.setCells b off (BV (l.take n)) = w') → wpList P ops Q rest (a.put o.dst (goInt n)) w') : wpList P ops Q (o :: rest) a w := by
  refine wpList_plain hgd fun _ hK => ?_
  unfold Oper.wp execOp
  simp only [ho, resolve, invoke, builtin, Sem.run_bind, Sem.run_pure, Result.andThen_ok, List.map_toArray, List.map_cons, List.map_nil, hd, hs, run_copy_text (P := P) w dT sT o.type elem b off dLen dCap l hu hz n hn ht]
  exact hK _ _ (h _ rfl)
end Go.Proofs.YtjnbolafnhhigaaDoor
