/-
  The stream whose message is empty, by contract; copying a text into a block.
  Plain mathematics of streams: what a text that is added does to the blocks and to the rest.
-/
import Derived.Test.YtedgjpoejoepjaaDoorClosed
import Derived.Lib.LazyBuf
namespace Go.Proofs.YtedgjpoejoepjaaDoor
open Go.RowKit
set_option linter.unusedVariables false
set_option linter.unusedSimpArgs false

theorem built_begin : Tryd.prog.built 80 [(0, .agg #[Value.int .u32 1779033703, Value.int .u32 3144134277, Value.int .u32 1013904242, Value.int .u32 2773480762, Value.int .u32 1359893119, Value.int .u32 2600822924, Value.int .u32 528734635, Value.int .u32 1541459225])] = some (SC Sha.H0 Z64 0).toArray := by kernel_rfl

set_option maxHeartbeats 400000 in
set_option maxRecDepth 100000 in
theorem begin_any (w : World) : Calls Tryd.prog 52 #[] w fun e w' => e = .returned (.agg (SC Sha.H0 Z64 0).toArray) ∧ Below w.heap.size w w' := by
  have hzs := zeroStream
  have HB := hide built_begin
  have H2 := hide (show (w.alloc (.cells (SC W8 Z64 0).toArray 80)).heap[w.heap.size]? = some (.cells (SC W8 Z64 0).toArray 80 (0, 0)) from Blk.new w _ _)
  have HL := hide (show (SC Sha.H0 Z64 0).length = 73 from rfl)
  have H1 := hide (SC_one Sha.H0 Z64 0)
  generalize hout : SC Sha.H0 Z64 0 = out at *
  have HOUT := hide hout
  clear hout
  go_enter Tryd.func52, Tryd.ntmps52
  go_wp2_with (first
    | (with_reducible refine wpList_build rfl 80 #[(0, .tmp 1)] rfl ?b1 ?_)
    | (with_reducible refine wpList_store_row rfl 80 (.tmp 0) (.tmp 2) rfl w.heap.size out.toArray rfl ?b2 80 _ H2.out ?g1 ?g2 ?g3 ?_))
  case b1 => rw [HB.out]; rfl
  case b2 => rw [HB.out]; rfl
  case g1 => rw [List.size_toArray, HL.out]; exact streamSize
  case g2 => rw [show out.toArray.size = 73 by rw [List.size_toArray, HL.out]]; rfl
  case g3 => simpa using H1.out
  have hload : (loadVar 80 ⟨w.heap.size, 0, none⟩).run Tryd.prog ((w.alloc (.cells (SC W8 Z64 0).toArray 80)).setRow w.heap.size out.toArray) = .ok (.agg out.toArray) ((w.alloc (.cells (SC W8 Z64 0).toArray 80)).setRow w.heap.size out.toArray) :=
    run_loadVar_row _ _ _ _ _ _ _ (setRow_heap _ w.heap.size _ out.toArray _ _ H2.out) Tryd.underlying80 rfl (by rw [List.size_toArray, HL.out]; exact streamSize)
  exact bodyPost_ret (v := .agg out.toArray) (results_cell0 Tryd.results52 _ _ ⟨w.heap.size, 0, none⟩ _ rfl hload) rfl ⟨rfl, below_setRow ((Below.refl _ _).alloc (Nat.le_refl _) _) (Nat.le_refl _) _⟩

/-- a text is copied into a block, as far as there is room -/
theorem run_copy_text {P : Program} (w : World) (dT sT ty elem : TypeId) (b o dLen dCap : Nat) (l : List UInt8)
    (hu : P.underlying dT = some (.slice elem)) (hz : ∀ w, (Go.sizeOf elem).run P w = .ok 1 w) (n : Nat) (hn : n = min l.length dLen)
    (ht : w.there b o n) :
    (Builtin.copy_ #[dT, sT] ty #[.slice (some ⟨b, o, none⟩) dLen dCap, .string (S l)]).run P w = .ok (goInt n) (w.setCells b o (BV (l.take n))) := by
  subst hn
  have hl : (BV (l.take (min l.length dLen))).length = min l.length dLen := by rw [BV_len, List.length_take]; omega
  have hst := run_storeCells_cells (P := P) b o (BV (l.take (min l.length dLen))) 0 w (by rw [hl]; intro j hj; simpa using (ht j hj).1) (by rw [hl]; intro j hj; simpa using (ht j hj).2) (BV_one _)
  rw [Nat.add_zero] at hst
  have hsz : (S l).size = l.length := rfl
  have hdata : (S l).data.toList = l := rfl
  have hmin : Nat.min l.length dLen = min l.length dLen := rfl
  simp [Builtin.copy_, run_underlying hu, Builtin.lenOf, Builtin.firstCells, hz, hsz, hdata, hmin]
  rw [show List.take (min l.length dLen) (List.map (fun b => Value.int IntKind.u8 (b.toNat : Int)) l) = BV (l.take (min l.length dLen)) by simp [BV, List.map_take], hst]
  rfl
theorem wpList_copy_text {P : Program} {w : World} {ops : Array Oper} {rest : List Oper} {o : Oper} {a : Act} {Q : Exit → Act → World → Prop} (hgd : o.guard = none) (d s : Operand) (dT sT : TypeId)
    (ho : o.op = .call { callee := .builtin .copy, args := #[d, s], argTypes := #[dT, sT] }) (elem : TypeId) (hu : P.underlying dT = some (.slice elem)) (hz : ∀ w, (Go.sizeOf elem).run P w = .ok 1 w)
    (b off dLen dCap : Nat) (hd : a.eval d = .slice (some ⟨b, off, none⟩) dLen dCap) (l : List UInt8) (hs : a.eval s = .string (S l)) (n : Nat) (hn : n = min l.length dLen) (ht : w.there b off n)
    (h : ∀ w', Hid (w.setCells b off (BV (l.take n)) = w') → wpList P ops Q rest (a.put o.dst (goInt n)) w') : wpList P ops Q (o :: rest) a w := by
  refine wpList_plain hgd fun _ hK => ?_
  unfold Oper.wp execOp
  simp only [ho, resolve, invoke, builtin, Sem.run_bind, Sem.run_pure, Result.andThen_ok, List.map_toArray, List.map_cons, List.map_nil, hd, hs, run_copy_text (P := P) w dT sT o.type elem b off dLen dCap l hu hz n hn ht]
  exact hK _ _ (h _ rfl)
end Go.Proofs.YtedgjpoejoepjaaDoor
namespace Go.Proofs.YtedgjpoejoepjaaDoor
open Go.RowKit
set_option linter.unusedVariables false
set_option linter.unusedSimpArgs false

namespace Sha
def restOf (m : List UInt8) : List UInt8 := m.drop (64 * (m.length / 64))
def pad64 (l : List UInt8) : List UInt8 := l ++ List.replicate (64 - l.length) 0
theorem restOf_len (m : List UInt8) : (restOf m).length = m.length % 64 := by unfold restOf; rw [List.length_drop]; omega
theorem pad64_len (l : List UInt8) (h : l.length ≤ 64) : (pad64 l).length = 64 := by unfold pad64; simp; omega
theorem blocks_append (v : List UInt32) (m x : List UInt8) (q : Nat) (h : 64 * q ≤ m.length) : blocks v (m ++ x) q = blocks v m q := by
  induction q with
  | zero => rfl
  | succ q ih =>
    simp only [blocks]
    rw [ih (by omega), List.drop_append_of_le_length (by omega), List.take_append_of_le_length (by rw [List.length_drop]; omega)]
theorem blocks_len (v : List UInt32) (m : List UInt8) (q : Nat) (hv : v.length = 8) : (blocks v m q).length = 8 := by
  induction q with
  | zero => exact hv
  | succ q ih => simp only [blocks]; exact compress_len _ _ ih
theorem add_full (m x : List UInt8) (hx : m.length % 64 + x.length = 64) :
    blocks H0 (m ++ x) ((m ++ x).length / 64) = compress (blocks H0 m (m.length / 64)) (restOf m ++ x) ∧ restOf (m ++ x) = [] := by
  have hq : (m ++ x).length / 64 = m.length / 64 + 1 := by rw [List.length_append]; omega
  constructor
  · rw [hq]
    simp only [blocks]
    rw [blocks_append _ _ _ _ (by omega), List.drop_append_of_le_length (by omega)]
    congr 1
    rw [List.take_of_length_le (by rw [List.length_append, List.length_drop]; omega)]
    rfl
  · unfold restOf
    rw [hq]
    exact List.drop_eq_nil_of_le (by rw [List.length_append]; omega)
theorem add_part (m x : List UInt8) (hx : m.length % 64 + x.length < 64) :
    blocks H0 (m ++ x) ((m ++ x).length / 64) = blocks H0 m (m.length / 64) ∧ restOf (m ++ x) = restOf m ++ x := by
  have hq : (m ++ x).length / 64 = m.length / 64 := by rw [List.length_append]; omega
  constructor
  · rw [hq, blocks_append _ _ _ _ (by omega)]
  · unfold restOf
    rw [hq, List.drop_append_of_le_length (by omega)]
end Sha

/-- the cells of a stream with a message -/
def ST (m : List UInt8) : List Value := SC (Sha.blocks Sha.H0 m (m.length / 64)) (Sha.pad64 (Sha.restOf m)) m.length
theorem ST_nil : ST [] = SC Sha.H0 Z64 0 := rfl
theorem ST_len (m : List UInt8) : (ST m).length = 73 := by
  unfold ST
  rw [SC_len, Sha.blocks_len _ _ _ rfl, Sha.pad64_len _ (by rw [Sha.restOf_len]; omega)]
theorem BV_zeros (k : Nat) : BV (List.replicate k 0) = List.replicate k (.int .u8 0) := by simp [BV]
/-- the block of a stream, parted where a text is added -/
theorem block_parted (l : List UInt8) (n : Nat) (h : l.length + n ≤ 64) : BV (Sha.pad64 l) = BV l ++ (BV (List.replicate n 0) ++ BV (List.replicate (64 - l.length - n) 0)) := by
  unfold Sha.pad64
  rw [BV_append l, ← BV_append (List.replicate n 0), List.replicate_append_replicate, show n + (64 - l.length - n) = 64 - l.length by omega]
theorem block_added (l x : List UInt8) (h : l.length + x.length ≤ 64) : BV (Sha.pad64 (l ++ x)) = BV l ++ (BV x ++ BV (List.replicate (64 - l.length - x.length) 0)) := by
  unfold Sha.pad64
  rw [BV_append, BV_append, List.append_assoc, List.length_append, show 64 - (l.length + x.length) = 64 - l.length - x.length by omega]
/-- the stream in memory behind a text that was copied into its block -/
theorem added {w : World} {g : Nat} {t : TypeId} {v : List UInt32} {l x : List UInt8} {n : Nat} (h : Blk w g t (SC v (Sha.pad64 l) n).toArray) (hv : v.length = 8) (hl : l.length + x.length ≤ 64) :
    Blk (w.setCells g (8 + l.length) (BV x)) g t (SC v (Sha.pad64 (l ++ x)) n).toArray := by
  unfold SC at h ⊢
  rw [block_parted l x.length hl] at h
  rw [block_added l x hl]
  have e1 : ∀ Y : List Value, UV v ++ (BV l ++ (Y ++ BV (List.replicate (64 - l.length - x.length) 0)) ++ [Value.int .u64 (n : Int)]) = (UV v ++ BV l) ++ (Y ++ (BV (List.replicate (64 - l.length - x.length) 0) ++ [Value.int .u64 (n : Int)])) := fun Y => by simp [List.append_assoc]
  rw [e1] at h ⊢
  exact Blk.part _ _ _ (BV x) h _ (by rw [List.length_append, UV_len, BV_len, hv]) (by rw [BV_len, BV_len]; simp)
/-- the length of a stream in memory -/
theorem len_cell {w : World} {g : Nat} {t : TypeId} {v : List UInt32} {l : List UInt8} {n : Nat} (h : Blk w g t (SC v l n).toArray) (hv : v.length = 8) (hl : l.length = 64) : w.cell? ⟨g, 72, none⟩ = some (.int .u64 (n : Int)) := by
  rw [h.cell, List.getElem?_toArray]
  unfold SC
  rw [List.getElem?_append_right (by rw [UV_len]; omega), UV_len, hv, List.getElem?_append_right (by rw [BV_len]; omega), BV_len, hl]
  rfl
theorem len_set {w : World} {g : Nat} {t : TypeId} {v : List UInt32} {l : List UInt8} {n : Nat} (h : Blk w g t (SC v l n).toArray) (hv : v.length = 8) (hl : l.length = 64) (n' : Nat) : Blk (w.setCell ⟨g, 72, none⟩ (.int .u64 (n' : Int))) g t (SC v l n').toArray := by
  have := h.set_ 72 (.int .u64 (n' : Int))
  rw [List.setIfInBounds_toArray] at this
  unfold SC at this ⊢
  rw [List.set_append_right _ _ (by rw [UV_len]; omega), UV_len, hv, List.set_append_right _ _ (by rw [BV_len]; omega), BV_len, hl] at this
  exact this
end Go.Proofs.YtedgjpoejoepjaaDoor
