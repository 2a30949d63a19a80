/-
  A piece of a string of digests (part), by contract; words for digests in memory.
-/
import Derived.Test.YtedgjpoejoepjaaDoorOf
import Derived.Test.YtedgjpoejoepjaaDoorSig
import Derived.StillTailTactics
namespace Go.Proofs.YtedgjpoejoepjaaDoor
open Go.RowKit
set_option linter.unusedVariables false
set_option linter.unusedSimpArgs false

theorem load_dig (w : World) (g : Nat) (h : rowOk w g 16) : (Instr.loadAt 23 (.pointer (some ⟨g, 0, none⟩))).run Tryd.prog w = .ok (.agg (rowAt w g)) w := by
  obtain ⟨cs, t, hb, hn⟩ := h
  rw [rowAt_blk hb]
  have hb' : Blk w g t ([] ++ (cs.toList ++ [])).toArray := by simpa using hb
  have := run_loadAt_mid (P := Tryd.prog) w g 0 23 cs.toList _ (Blk.range [] cs.toList [] hb' 0 rfl) Tryd.underlying23 rfl (by rw [Array.length_toList, hn]; exact size16)
  simpa using this
/-- a digest in a block of its own -/
def Dig (w : World) (g : Nat) (d : List UInt8) : Prop := d.length = 16 ∧ Blk w g 23 (BV d).toArray
theorem Dig.below {w w' : World} {g B : Nat} {d : List UInt8} (h : Dig w g d) (hb : Below B w w') (hg : g < B) : Dig w' g d := ⟨h.1, h.2.below hb hg⟩
theorem Dig.alloc {w : World} {g : Nat} {d : List UInt8} (h : Dig w g d) (o : Obj) : Dig (w.alloc o) g d := ⟨h.1, h.2.alloc o⟩
theorem Dig.ok {w : World} {g : Nat} {d : List UInt8} (h : Dig w g d) : rowOk w g 16 := ⟨_, _, h.2, by rw [List.size_toArray, BV_len, h.1]⟩
theorem Dig.row {w : World} {g : Nat} {d : List UInt8} (h : Dig w g d) : rowAt w g = (BV d).toArray := rowAt_blk h.2
theorem Dig.load {w : World} {g : Nat} {d : List UInt8} (h : Dig w g d) : (Instr.loadAt 23 (.pointer (some ⟨g, 0, none⟩))).run Tryd.prog w = .ok (.agg (BV d).toArray) w := by
  rw [load_dig w g h.ok, h.row]
theorem Dig.reads {w : World} {g : Nat} {d : List UInt8} (h : Dig w g d) : Reads w w.heap.size 1 (some ⟨g, 0, none⟩) 16 (BV d) := reads_blk h.2 h.1
theorem Dig.text {w : World} {g : Nat} {d : List UInt8} (h : Dig w g d) : (convert 51 9 (.slice (some ⟨g, 0, none⟩) 16 16)).run Tryd.prog w = .ok (.string (S d)) w :=
  run_conv_reads (P := Tryd.prog) h.reads 51 9 5 16 Tryd.underlying51 Tryd.underlying5 Tryd.underlying9
theorem Dig.new (w : World) (d : List UInt8) (h : d.length = 16) : Dig (w.alloc (.cells (BV d).toArray 23)) w.heap.size d := ⟨h, Blk.new w _ _⟩
/-- what is stored into a block of a digest -/
theorem Dig.store {w : World} {g : Nat} {d e : List UInt8} (h : Dig w g d) (he : e.length = 16) : (storeCells ⟨g, 0, none⟩ (BV e) 0).run Tryd.prog w = .ok () (w.setCells g 0 (BV e)) :=
  run_store_cells w g (BV e) (BV_one e) (by rw [BV_len, he]; exact h.2.there_ 0 16 (by rw [BV_len, h.1]; decide))
theorem Dig.stored {w : World} {g : Nat} {d e : List UInt8} (h : Dig w g d) (he : e.length = 16) : Dig (w.setCells g 0 (BV e)) g e := ⟨he, put_row h.2 (by rw [BV_len, BV_len, he, h.1])⟩
/-- the result cell, read at the end -/
theorem Dig.result {w : World} {g : Nat} {d : List UInt8} (h : Dig w g d) : (loadVar 23 ⟨g, 0, none⟩).run Tryd.prog w = .ok (.agg (BV d).toArray) w :=
  run_loadVar_row _ _ _ _ _ _ _ h.2 Tryd.underlying23 rfl (by rw [List.size_toArray, BV_len, h.1]; exact size16)
theorem Dig.zero (w : World) (g : Nat) (h : Blk w g 23 (BV Z16).toArray) : Dig w g Z16 := ⟨rfl, h⟩

theorem dig_size {d : List UInt8} (h : d.length = 16) : (Tryd.prog.info? 23).map (·.size) = some (BV d).toArray.size := by rw [List.size_toArray, BV_len, h]; exact size16
theorem wpList_load_dig {w : World} {ops : Array Oper} {rest : List Oper} {o : Oper} {a : Act} {Q : Exit → Act → World → Prop} (hgd : o.guard = none) (x : Operand) (ho : o.op = .load 23 x)
    (g : Nat) (hx : a.eval x = .pointer (some ⟨g, 0, none⟩)) (d : List UInt8) (hD : Dig w g d) (h : wpList Tryd.prog ops Q rest (a.put o.dst (.agg (BV d).toArray)) w) : wpList Tryd.prog ops Q (o :: rest) a w :=
  wpList_load_row hgd 23 x ho g hx 23 _ _ _ hD.2 Tryd.underlying23 rfl (dig_size hD.1) h
theorem wpList_store_dig {w : World} {ops : Array Oper} {rest : List Oper} {o : Oper} {a : Act} {Q : Exit → Act → World → Prop} (hgd : o.guard = none) (x y : Operand) (ho : o.op = .store 23 x y)
    (g : Nat) (d e : List UInt8) (hx : a.eval x = .pointer (some ⟨g, 0, none⟩)) (hy : a.eval y = .agg (BV e).toArray) (hD : Dig w g d) (he : e.length = 16)
    (h : ∀ w', Hid (w.setRow g (BV e).toArray = w') → wpList Tryd.prog ops Q rest (a.put o.dst undef) w') : wpList Tryd.prog ops Q (o :: rest) a w :=
  wpList_store_row hgd 23 x y ho g _ hx hy 23 _ hD.2 (dig_size he) (by rw [List.size_toArray, List.size_toArray, BV_len, BV_len, hD.1, he]) (all_oneCell_toArray (BV_one e)) (h _ rfl)
theorem Dig.put {w w' : World} {g : Nat} {d e : List UInt8} (h : Dig w g d) (he : e.length = 16) (hw : Hid (w.setRow g (BV e).toArray = w')) : Dig w' g e :=
  ⟨he, by rw [← hw.out]; exact setRow_heap w g _ _ _ _ h.2⟩
theorem Dig.far {w w' : World} {g g' : Nat} {d : List UInt8} {cs : Array Value} (h : Dig w g d) (hne : g ≠ g') (hw : Hid (w.setRow g' cs = w')) : Dig w' g d := ⟨h.1, by rw [← hw.out]; exact h.2.otherRow hne _⟩
theorem below_row {B g : Nat} {a w w' : World} {cs : Array Value} (h : Below B a w) (hg : B ≤ g) (hw : Hid (w.setRow g cs = w')) : Below B a w' := by rw [← hw.out]; exact below_setRow h hg _
theorem Blk.farRow {w w' : World} {g g' : Nat} {t : TypeId} {cs ds : Array Value} (h : Blk w g t cs) (hne : g ≠ g') (hw : Hid (w.setRow g' ds = w')) : Blk w' g t cs := by rw [← hw.out]; exact h.otherRow hne _
theorem row_size {w w' : World} {g : Nat} {cs : Array Value} (hw : Hid (w.setRow g cs = w')) : w'.heap.size = w.heap.size := by rw [← hw.out]; simp [World.setRow]
/-- the end of a function whose only result is a digest in a cell of its own -/
theorem ret_dig {w : World} {g : Nat} {d : List UInt8} {fn : Func} {p : Tmp} (hf : fn.results = #[.cell p 23]) (tmps : Array Value) (hp : tmps.getD p undef = .pointer (some ⟨g, 0, none⟩)) (h : Dig w g d) : (results fn tmps).run Tryd.prog w = .ok (.agg (BV d).toArray) w :=
  results_cell0 hf _ _ ⟨g, 0, none⟩ _ hp h.result

set_option maxHeartbeats 1000000 in
set_option maxRecDepth 100000 in
theorem part_any (s : List UInt8) (k : Nat) (w : World) (hk : 16 * (k + 1) ≤ s.length) (hs : s.length ≤ 1099511627776) :
    Calls Tryd.prog 39 #[.string (S s), .int .i64 (k : Int)] w fun e w' => e = .returned (.agg (BV (Sg.part s k)).toArray) ∧ Below w.heap.size w w' := by
  have hpl := Sg.part_len s k hk
  have hzs := zero16
  have hsz : (S s).size = s.length := rfl
  obtain ⟨o, ho⟩ : ∃ o : Nat, o = 16 * k := ⟨_, rfl⟩
  have hmul : IntKind.i64.wrap ((k : Int) * 16) = (o : Int) := by rw [IntWalk.i64_in _ (by omega)]; omega
  have ho0 : (0 : Int) ≤ (o : Int) := by omega
  have hos : (o : Int) ≤ (((S s).size : Nat) : Int) := by rw [hsz]; omega
  have hext := S_drop s o
  have hpd : Sg.part s k = (s.drop o).take 16 := by unfold Sg.part; rw [ho]
  have HPD := hide hpd
  have hol : (s.drop o).length = s.length - o := List.length_drop
  have HLEN := hide (show 16 = min (s.drop o).length 16 by omega)
  have HPL := hide hpl
  clear hpd hsz ho hk hs hol hpl
  generalize Sg.part s k = D at *
  go_enter Tryd.func39, Tryd.ntmps39
  go_upto_region 2 with fail
  refine name_world fun V hV => ?_
  have B4 := hide (show Dig V w.heap.size Z16 by rw [← hV.out]; exact (Dig.new w Z16 rfl).alloc _)
  have B5 := hide (show Dig V (w.heap.size + 1) Z16 by
    rw [← hV.out]
    have := Dig.new (w.alloc (.cells (BV Z16).toArray 23)) Z16 rfl
    rwa [show (w.alloc (.cells (BV Z16).toArray 23)).heap.size = w.heap.size + 1 by simp] at this)
  have HV := hide (show Below w.heap.size w V by rw [← hV.out]; exact ((Below.refl _ _).alloc (Nat.le_refl _) _).alloc (by simp) _)
  clear hV hzs
  go_still_tail 5, (by kernel_rfl)
  change wpList _ _ _ _ _ V.drew
  have HT := hide (show V.drew.there (w.heap.size + 1) 0 16 from B5.out.2.drew.there_ 0 16 (by rw [BV_len]; decide))
  have E4 := hide (show Dig V.drew w.heap.size Z16 from B4.out)
  have E5 := hide (show Dig V.drew (w.heap.size + 1) Z16 from B5.out)
  have HX := hide (HV.out.drew)
  clear B4 B5 HV
  generalize V.drew = X at *
  go_wp2_with (with_reducible refine wpList_copy_text rfl (.tmp 6) (.tmp 10) 51 9 rfl 5 Tryd.underlying51 byteOne (w.heap.size + 1) 0 16 16 rfl (s.drop o) rfl 16 ?c1 HT.out ?_)
  case c1 => exact HLEN.out
  intro Y hY
  have F5 := hide (show Dig Y (w.heap.size + 1) D by rw [← hY.out, HPD.out]; exact E5.out.stored (by rw [← HPD.out]; exact HPL.out))
  have F4 := hide (show Dig Y w.heap.size Z16 by rw [← hY.out]; exact ⟨rfl, E4.out.2.farCells _ _ (by omega)⟩)
  have HY := hide (show Below w.heap.size w Y by rw [← hY.out]; exact below_setCells (by omega) _ _ _ HX.out)
  clear hY E4 E5 HX HT
  go_wp2_with (first | (with_reducible refine wpList_load_dig rfl (.tmp 5) rfl (w.heap.size + 1) rfl D F5.out ?_) | (with_reducible refine wpList_store_dig rfl (.tmp 4) (.tmp 12) rfl w.heap.size Z16 D rfl rfl F4.out HPL.out ?_; intro U hU))
  exact bodyPost_ret (v := .agg (BV D).toArray) (ret_dig Tryd.results39 _ rfl (F4.out.put HPL.out hU)) rfl ⟨rfl, below_row HY.out (Nat.le_refl _) hU⟩
end Go.Proofs.YtedgjpoejoepjaaDoor
