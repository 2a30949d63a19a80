/-
  Digests: the closure that appends a digest, list at digests, and Digests, by their contracts.
-/
import Derived.Test.YtbkpnfejhaedhaaEnc3
import Derived.Test.YtbkpnfejhaedhaaDec6
namespace Go.Proofs.Ytbkpnfejhaedhaa
open Go.RowKit
set_option linter.unusedVariables false
set_option linter.unusedSimpArgs false

/-- digests as cells, one behind the other -/
theorem digs_len16 (ds : List (List UInt8)) (h : ∀ d ∈ ds, d.length = 16) : (BV ds.flatten).length = ds.length * 16 := by rw [BV_len]; exact flat_len ds h

theorem reads_block (w : World) (cs : List Value) (t : TypeId) (m : Nat) (hm : cs.length = m) : Reads (w.alloc (.cells cs.toArray t)) (w.alloc (.cells cs.toArray t)).heap.size 1 (some ⟨w.heap.size, 0, none⟩) m cs := by
  refine ⟨by omega, fun _ => ⟨_, rfl, by simp, fun j u hj => ?_⟩⟩
  have hadd : (⟨w.heap.size, 0, none⟩ : Addr).add j = ⟨w.heap.size, j, none⟩ := by unfold Addr.add; split <;> simp_all
  rw [hadd, World.cell?_alloc_at _ _ _ _ rfl]
  simpa using hj

set_option maxHeartbeats 400000 in
set_option maxRecDepth 100000 in
theorem addDigest_any (base : Nat) (A : Option Addr) (n c : Nat) (d l : List UInt8) (w : World) (hown : w.ownsRow base 5 1 (.slice A n c) n (BV l)) (hb : base ≤ w.heap.size) (hn : n ≤ 17592186044416) (hd : d.length = 16) :
    Calls Try.prog 43 #[.slice A n c, .agg (BV d).toArray] w fun e w' => ∃ v, e = .returned v ∧ w'.ownsRow base 5 1 v (n + 16) (BV (l ++ d)) ∧ Below base w w' := by
  obtain ⟨i0, hi, hz0, hz1, hz2⟩ := info_parts byteInfo
  have HI := hide hi
  have HZ0 := hide hz0
  have HZ1 := hide hz1
  have HZ2 := hide hz2
  have HO := hide hown
  have hcs : (BV d).length = 16 := by rw [BV_len]; exact hd
  have H1 := hide (BV_one d)
  have HF := hide (BV_append l d)
  clear hi hz0 hz1 hz2 hown hd
  generalize BV d = cs at *
  have HC := hide hcs
  clear hcs
  go_enter Try.func43, Try.ntmps43
  go_wp2_with (at_builtin; refine wpList_append_any _ rfl (.tmp 5) (.tmp 6) 28 rfl base 5 i0 (.int .u8 0) 1 1 Try.underlying28 HI.out HZ0.out HZ1.out HZ2.out rfl (by omega) (.slice A n c) n (BV l) rfl (HO.out.alloc _) _ (some ⟨w.heap.size, 0, none⟩) 16 16 cs rfl (reads_block w cs 57 16 HC.out) H1.out (by unfold maxLen; omega) (by omega) (by simp; omega) ?_; intro v1 w1 hown1 hgrow1 hat1)
  go_ret
  refine ⟨v1, rfl, ?_, ?_⟩
  · rw [HF.out]; exact hown1
  · exact ((Below.refl _ _).alloc hb _).trans (below_grown hgrow1 (HO.out.alloc _) (by simp; omega))

/-- a whole array out of memory, wherever it lies -/
theorem run_loadVar_at {P : Program} (w : World) (a : Addr) (ty : TypeId) (cs : List Value) (d : TypeDesc) (hc : ∀ j v, cs[j]? = some v → w.cell? (a.add j) = some v)
    (hu : P.underlying ty = some d) (hd : d.isRow = true) (hi : (P.info? ty).map (·.size) = some cs.length) : (loadVar ty a).run P w = .ok (.agg cs.toArray) w := by
  have hl : (loadCells a cs.length).run P w = .ok cs.toArray w := run_loadCells_list (P := P) w a cs hc
  cases hq : P.info? ty with
  | none => simp [hq] at hi
  | some i =>
    have hs : i.size = cs.length := by simpa [hq] using hi
    have hagg : (isAgg ty).run P w = .ok true w := by
      unfold isAgg
      rw [Sem.run_bind, run_underlying hu w]
      cases d <;> simp_all
    simp [loadVar, Sem.run_bind, hagg, sizeOf, typeInfo, hq, hs, hl]
theorem wpList_load_at {P : Program} {ops : Array Oper} {rest : List Oper} {op : Oper} {a : Act} {w : World} {Q : Exit → Act → World → Prop} (hgd : op.guard = none) (ty : TypeId) (x : Operand) (ho : op.op = .load ty x)
    (ad : Addr) (hx : a.eval x = .pointer (some ad)) (cs : List Value) (d : TypeDesc) (hc : ∀ j v, cs[j]? = some v → w.cell? (ad.add j) = some v)
    (hu : P.underlying ty = some d) (hd : d.isRow = true) (hi : (P.info? ty).map (·.size) = some cs.length)
    (h : wpList P ops Q rest (a.put op.dst (.agg cs.toArray)) w) : wpList P ops Q (op :: rest) a w :=
  wpList_plain hgd fun _ hK => by
    unfold Oper.wp execOp
    simp only [ho, hx, Instr.loadAt, Instr.sureAddr, Sem.run_bind, Sem.run_pure, Result.andThen_ok, run_loadVar_at w ad ty cs d hc hu hd hi]
    exact hK _ _ h
theorem wpList_store_stop {P : Program} {ops : Array Oper} {rest : List Oper} {o : Oper} {a : Act} {w : World} {Q : Exit → Act → World → Prop} (hgd : o.guard = none) (ty : TypeId) (x y : Operand) (ho : o.op = .store ty x y)
    (g : Nat) (cells : Array Value) (hx : a.eval x = .pointer (some ⟨g, 0, none⟩)) (hy : a.eval y = .agg cells)
    (t : TypeId) (old : Array Value) (hg : w.heap[g]? = some (.cells old t (0, 0))) (hi : (P.info? ty).map (·.size) = some cells.size)
    (hold : old.size = cells.size) (h1 : cells.all (·.oneCell') = true)
    (h : ∀ w', Hid (w.setRow g cells = w') → wpList P ops Q rest (a.put o.dst undef) w') : wpList P ops Q (o :: rest) a w :=
  wpList_store_row hgd ty x y ho g cells hx hy t old hg hi hold h1 (h _ rfl)

theorem flat_item (ds : List (List UInt8)) (h : ∀ d ∈ ds, d.length = 16) (k : Nat) (hk : k < ds.length) : (ds.flatten.drop (k * 16)).take 16 = ds[k] := by
  induction ds generalizing k with
  | nil => simp at hk
  | cons d r ih =>
    have hd := h d (by simp)
    cases k with
    | zero => rw [Nat.zero_mul, List.drop_zero, List.flatten_cons, List.take_left' hd]; rfl
    | succ k =>
      rw [List.flatten_cons, show (k + 1) * 16 = d.length + k * 16 by rw [hd, Nat.succ_mul, Nat.add_comm], List.drop_append, List.drop_eq_nil_of_le (by omega), List.nil_append, Nat.add_sub_cancel_left]
      exact ih (fun x hx => h x (by simp [hx])) k (by simpa using hk)

/-- the cells of one digest among those of a list -/
theorem digest_cells {w : World} {B n : Nat} {ad : Addr} {ds : List (List UInt8)} (h : ∀ d ∈ ds, d.length = 16) (hr : Reads w B 16 (some ad) n (BV ds.flatten)) (hn : n = ds.length) (k : Nat) (hk : k < ds.length) :
    ∀ j v, (BV ds[k])[j]? = some v → w.cell? ((ad.add (k * 16)).add j) = some v := by
  intro j v hj
  obtain ⟨ad', e, _, hc⟩ := hr.2 (by omega)
  injection e with e
  subst e
  rw [add_of_add]
  apply hc
  rw [← hj, ← flat_item ds h k hk]
  have hl : (BV ds[k]).length = 16 := by rw [BV_len]; exact h _ (List.getElem_mem hk)
  have hjz : j < 16 := by
    rcases Nat.lt_or_ge j 16 with hh | hh
    · exact hh
    · rw [List.getElem?_eq_none (by omega)] at hj; cases hj
  unfold BV
  rw [List.getElem?_map, List.getElem?_map, List.getElem?_take_of_lt hjz, List.getElem?_drop]

set_option maxHeartbeats 400000 in
set_option maxRecDepth 100000 in
theorem listDig_any (A : Option Addr) (n c : Nat) (ds : List (List UInt8)) (w : World) (hr : Reads w w.heap.size 16 A n (BV ds.flatten)) (hnc : n ≤ c) (hm : n ≤ 549755813888) (hd : ∀ d ∈ ds, d.length = 16) (hnd : n = ds.length) :
    Calls Try.prog 42 #[.slice A n c, .func (.func 43) #[] #[]] w fun e w' => ∃ v, e = .returned v ∧ w'.ownsRow w.heap.size 5 1 v ((Wr.enc ds.length).length + ds.length * 16) (BV (Wr.enc ds.length ++ ds.flatten)) ∧ Below w.heap.size w w' := by
  have HI := hide (int_any (n : Int) w (by unfold Wr.inI; omega))
  have hE := Wr.enc_le (n : Int)
  have HR := hide hr
  have HN := hide hnd
  have HD := hide hd
  have HSZ := hide digestSize
  rw [← hnd]
  clear hr hd hnd
  generalize hEN : Wr.enc (n : Int) = E at *
  clear hEN
  go_enter Try.func42, Try.ntmps42
  go_wp2_with fail
  refine (unhide HI).mono ?_
  rintro e w1 ⟨v1, rfl, hown1, hb1⟩
  have HO1 := hide hown1
  clear hown1
  go_wp2
  go_loopw [5, 13] (fun v i wr => ∃ k : Nat, k ≤ n ∧ i = .int .i64 (k : Int) ∧ wr.ownsRow w.heap.size 5 1 v (E.length + k * 16) (BV (E ++ (ds.take k).flatten)) ∧ Below w.heap.size w wr) (fun _ i _ => n - (intOf i).toNat)
  case atStart => exact ⟨0, Nat.zero_le _, rfl, by simpa using HO1.out, hb1⟩
  case round =>
    obtain ⟨k, hk, rfl, hown, hbr⟩ := hrel
    have HOW := hide hown
    have HBR := hide hbr
    have hszr := hbr.size
    clear hb1
    by_cases hlt : k < n
    · have hkd : k < ds.length := by have := HN.out; omega
      obtain ⟨ad, hA, _, _⟩ := HR.out.2 (by omega)
      subst hA
      have hcells := digest_cells HD.out (HR.out.below hbr) HN.out k hkd
      have h16 : ds[k].length = 16 := HD.out _ (List.getElem_mem hkd)
      obtain ⟨A1, c1, hv, _, _⟩ := own_slice hown
      rw [hv] at hown ⊢
      have hst : (ds.take (k + 1)).flatten = (ds.take k).flatten ++ ds[k] := by rw [List.take_succ_eq_append_getElem hkd, List.flatten_append]; simp
      have C := fun (o : Obj) => addDigest_any w.heap.size A1 (E.length + k * 16) c1 ds[k] (E ++ (ds.take k).flatten) (wr.alloc o) (hown.alloc o) (by simp; omega) (by omega) h16
      have hone := BV_one ds[k]
      have hcl : (BV ds[k]).length = 16 := by rw [BV_len]; exact h16
      generalize ds[k] = x at *
      have HC := hide C
      have HST := hide hst
      have HCE := hide hcells
      have HO := hide hone
      have HCL := hide hcl
      clear C hst hcells hone hcl hown hbr hv h16
      generalize hBX : BV x = cs at *
      have HBX := hide hBX
      clear hBX
      go_wp2_with (first | (with_reducible refine wpList_load_at rfl 57 (.tmp 15) rfl (ad.add (k * 16)) rfl cs _ HCE.out Try.underlying57 rfl ?c1 ?_) | (with_reducible refine wpList_store_stop rfl 57 (.tmp 7) (.tmp 16) rfl wr.heap.size cs.toArray rfl rfl 57 #[.int .u8 0, .int .u8 0, .int .u8 0, .int .u8 0, .int .u8 0, .int .u8 0, .int .u8 0, .int .u8 0, .int .u8 0, .int .u8 0, .int .u8 0, .int .u8 0, .int .u8 0, .int .u8 0, .int .u8 0, .int .u8 0] (heap_alloc_new wr _) ?d1 ?d2 ?d3 ?_))
      case c1 => rw [HCL.out]; exact digestSize
      case d1 => rw [List.size_toArray, HCL.out]; exact digestSize
      case d2 => simp [HCL.out]
      case d3 => simpa using HO.out
      intro w2 hx
      have hw2 := hx.out
      rw [World.setRow_alloc_new] at hw2
      subst hw2
      clear hx
      go_wp2_with (with_reducible refine wpList_load_row rfl 57 (.tmp 7) rfl wr.heap.size rfl 57 cs.toArray (0, 0) _ (heap_alloc_new wr _) Try.underlying57 rfl ?e1 ?_)
      case e1 => rw [List.size_toArray, HCL.out]; exact digestSize
      refine (unhide HC _).mono ?_
      rintro e w3 ⟨v3, rfl, hown3, hb3⟩
      have HO3 := hide hown3
      have HB3 := hide ((HBR.out.alloc hszr (.cells cs.toArray 57)).trans hb3)
      clear hown3 hb3
      go_wp2
      go_roundw
      case rel =>
        refine ⟨k + 1, by omega, by go_num, ?_, HB3.out⟩
        have := HO3.out
        rw [HST.out, ← List.append_assoc, show E.length + (k + 1) * 16 = E.length + k * 16 + 16 by omega]
        exact this
      case measure => simp [intOf]; omega
    · obtain rfl : k = n := by omega
      clear hown hbr
      go_wp2
      go_ret
      refine ⟨_, rfl, ?_, HBR.out⟩
      have := HOW.out
      rw [List.take_of_length_le (by rw [← HN.out]; exact Nat.le_refl _)] at this
      exact this

set_option maxHeartbeats 400000 in
set_option maxRecDepth 100000 in
/-- Digests, for every list -/
theorem digests_any (A : Option Addr) (n c : Nat) (ds : List (List UInt8)) (w : World) (hr : Reads w w.heap.size 16 A n (BV ds.flatten)) (hnc : n ≤ c) (hm : n ≤ 549755813888) (hd : ∀ d ∈ ds, d.length = 16) (hnd : n = ds.length) :
    Calls Try.prog 22 #[.slice A n c] w fun e w' => ∃ v, e = .returned v ∧ w'.ownsRow w.heap.size 5 1 v ((Wr.enc ds.length).length + ds.length * 16) (BV (Wr.enc ds.length ++ ds.flatten)) ∧ Below w.heap.size w w' := by
  have H := hide (listDig_any A n c ds w hr hnc hm hd hnd)
  clear hr hd hnd
  go_enter Try.func22, Try.ntmps22
  go_wp2_with fail
  refine (unhide H).mono ?_
  rintro e w' ⟨v, rfl, hown, hb⟩
  have HO := hide hown
  clear hown
  go_wp2
  go_ret
  exact ⟨v, rfl, HO.out, hb⟩

end Go.Proofs.Ytbkpnfejhaedhaa
