/-
  The digest of parts of package hash, by contract.
-/
import Derived.Test.YtedgjpoejoepjaaDoorMac
import Derived.Test.YtedgjpoejoepjaaDoorShort
namespace Go.Proofs.YtedgjpoejoepjaaDoor
open Go.RowKit
set_option linter.unusedVariables false
set_option linter.unusedSimpArgs false
attribute [local go_sem ↓] Go.wp_at_zero Go.wp_at_succ

theorem conv_cell {W : World} {g : Nat} {y : UInt8} (h : Blk W g 5 #[.int .u8 ((y.toNat : Nat) : Int)]) :
    (convert 51 9 (.slice (some ⟨g, 0, none⟩) 1 1)).run Tryd.prog W = .ok (.string (S [y])) W :=
  run_conv_reads (P := Tryd.prog) (l := [y]) (reads_blk (l := [y]) (t := 5) h rfl) 51 9 5 1 Tryd.underlying51 Tryd.underlying5 Tryd.underlying9
theorem blk_two (W : World) (t1 t2 : TypeId) (c1 c2 : Array Value) : Blk ((W.alloc (.cells c1 t1)).alloc (.cells c2 t2)) (W.heap.size + 1) t2 c2 := by
  have := Blk.new (W.alloc (.cells c1 t1)) t2 c2
  rwa [show (W.alloc (.cells c1 t1)).heap.size = W.heap.size + 1 by simp] at this

/-- the cells of a block, and that it has so many: a load of a whole long row in a region that draws, as a rule that the walk's simp meets ahead of the row's cells -/
def rowAt (w : World) (g : Nat) : Array Value := match w.heap[g]? with
  | some (.cells cs _ _) => cs
  | _ => #[]
def rowOk (w : World) (g n : Nat) : Prop := ∃ cs t, Blk w g t cs ∧ cs.size = n
theorem rowAt_blk {w : World} {g : Nat} {t : TypeId} {cs : Array Value} (h : Blk w g t cs) : rowAt w g = cs := by
  unfold Blk at h
  unfold rowAt
  rw [h]
theorem load_stream (w : World) (g : Nat) (h : rowOk w g 73) : (Instr.loadAt 80 (.pointer (some ⟨g, 0, none⟩))).run Tryd.prog w = .ok (.agg (rowAt w g)) w := by
  obtain ⟨cs, t, hb, hn⟩ := h
  rw [rowAt_blk hb]
  have hb' : Blk w g t ([] ++ (cs.toList ++ [])).toArray := by simpa using hb
  have := run_loadAt_mid (P := Tryd.prog) w g 0 80 cs.toList _ (Blk.range [] cs.toList [] hb' 0 rfl) Tryd.underlying80 rfl (by rw [Array.length_toList, hn]; exact streamSize)
  simpa using this
def ptrBlock : Value → Nat
  | .pointer (some a) => a.block
  | _ => 0
theorem ptrBlock_is (a : Addr) : ptrBlock (.pointer (some a)) = a.block := rfl
theorem wp_load_stream (d : Option Tmp) (x : Operand) (ty : TypeId) (ps : String) (af : Array Edge) (a : Act) (w : World) (K : Act → World → Prop) (Q : Exit → Act → World → Prop)
    (h1 : a.eval x = .pointer (some ⟨ptrBlock (a.eval x), 0, none⟩)) (h2 : rowOk w (ptrBlock (a.eval x)) 73) :
    Oper.wp Tryd.prog { dst := d, op := .load 80 x, type := ty, pos := ps, after := af, guard := none } a w K Q = K (a.put d (.agg (rowAt w (ptrBlock (a.eval x))))) w := by
  have := load_stream w _ h2
  rw [← h1] at this
  unfold Oper.wp execOp
  simp only [Sem.run_bind, this, Result.andThen_ok]
  rfl
attribute [local go_sem ↓] wp_load_stream
attribute [local go_sem] ptrBlock_is
theorem bytesB_any (s : List UInt8) (w : World) (hn : s.length ≤ 1099511627776) :
    Calls Tryd.prog 54 #[.string (S s)] w fun e w' => ∃ v, e = .returned v ∧ w'.ownsRow w.heap.size 5 1 v (Wr.encB s).length (BV (Wr.encB s)) ∧ Below w.heap.size w w' := by
  rw [Wr.encB_len]
  exact bytes_any s w hn
set_option maxHeartbeats 4000000 in
set_option maxRecDepth 100000 in
theorem of_any (z : Int) (A : Option Addr) (n c : Nat) (xs : List (List UInt8)) (w : World) (hr : Reads w w.heap.size 1 A n (xs.map VS)) (hm : n ≤ 1048576) (hbig : (Wr.encL Wr.encB xs).length ≤ 1099511627700) (hK : KLaid w) :
    Calls Tryd.prog 33 #[.int .i64 z, .slice A n c] w fun e w' => e = .returned (.agg (BV (digestOf (inputOf z xs))).toArray) ∧ Below w.heap.size w w' := by
  have hio : inputOf z xs = [tagB z] ++ Wr.encL Wr.encB xs := rfl
  have HIO := hide hio
  have htg := tagB_is z
  generalize tagB z = y at *
  have HAD := hide (fun W hW => add_new [y] W hW (by simp))
  have hby := y.toNat_lt
  have HR := hide hr
  have HKK := hide hK
  have hzs := zero16
  have hzst := zeroStream
  have hst1 : (ST [y]).length = 73 := ST_len [y]
  have hone1 : ∀ v ∈ ST [y], v.oneCell' = true := SC_one _ _ _
  generalize hzz : (BV Z16).toArray = zz at *
  have hzz16 : zz.size = 16 := by rw [← hzz]; rfl
  have HZZ16 := hide hzz16
  generalize hsz0 : SC W8 Z64 0 = sz at *
  have hszl : sz.length = 73 := by rw [← hsz0]; rfl
  generalize hs1 : ST [y] = s1 at *
  have HST1 := hide hst1
  have HONE1 := hide hone1
  have HS1 := hide hs1
  have HSZL := hide hszl
  clear hio hr hK hzz hzz16 hsz0 hst1 hone1 hs1 hszl
  go_enter Tryd.func33, Tryd.ntmps33
  go_upto_region 1 with fail
  refine name_world fun V hV => ?_
  have B0 := hide (show Blk V w.heap.size 23 zz by rw [← hV.out]; exact Blk.new w _ _)
  have HV := hide (show Below w.heap.size w V by rw [← hV.out]; exact (Below.refl _ _).alloc (Nat.le_refl _) _)
  have hws : w.heap.size < V.heap.size := by rw [← hV.out]; simp
  have HKV := hide (fun (W' : World) (hb : Below V.heap.size V W') => HKK.out.below (HV.out.trans (hb.mono HV.out.size)) (Nat.le_refl _))
  clear hV hzs
  go_cut [5] (fun s5 wx => ∃ g : Nat, s5 = .pointer (some ⟨g, 0, none⟩) ∧ V.heap.size ≤ g ∧ Blk wx g 80 s1.toArray ∧ Below V.heap.size V wx)
  case first =>
    have ca : ∀ W : World, (convert 51 9 (.slice (some ⟨W.heap.size, 0, none⟩) 1 1)).run Tryd.prog (W.alloc (.cells #[Value.int .u8 ((y.toNat : Nat) : Int)] 5)) = .ok (.string (S [y])) (W.alloc (.cells #[Value.int .u8 ((y.toNat : Nat) : Int)] 5)) := fun W => conv_cell (Blk.new W _ _)
    have cb : ∀ W : World, (convert 51 9 (.slice (some ⟨W.heap.size, 0, none⟩) 1 1)).run Tryd.prog ((W.alloc (.cells #[Value.int .u8 ((y.toNat : Nat) : Int)] 5)).alloc (.cells sz.toArray 80)) = .ok (.string (S [y])) ((W.alloc (.cells #[Value.int .u8 ((y.toNat : Nat) : Int)] 5)).alloc (.cells sz.toArray 80)) := fun W => conv_cell ((Blk.new W _ _).alloc _)
    have cc : ∀ W : World, (convert 51 9 (.slice (some ⟨W.heap.size + 1, 0, none⟩) 1 1)).run Tryd.prog ((W.alloc (.cells sz.toArray 80)).alloc (.cells #[Value.int .u8 ((y.toNat : Nat) : Int)] 5)) = .ok (.string (S [y])) ((W.alloc (.cells sz.toArray 80)).alloc (.cells #[Value.int .u8 ((y.toNat : Nat) : Int)] 5)) := fun W => conv_cell (blk_two W _ _ _ _)
    have ca1 : (convert 51 9 (.slice (some ⟨V.heap.size, 0, none⟩) 1 1)).run Tryd.prog (V.alloc (.cells #[Value.int .u8 ((y.toNat : Nat) : Int)] 5)).drew = .ok (.string (S [y])) (V.alloc (.cells #[Value.int .u8 ((y.toNat : Nat) : Int)] 5)).drew := conv_cell ((Blk.new V _ _).drew)
    have cb1 : (convert 51 9 (.slice (some ⟨V.heap.size, 0, none⟩) 1 1)).run Tryd.prog ((V.alloc (.cells #[Value.int .u8 ((y.toNat : Nat) : Int)] 5)).alloc (.cells sz.toArray 80)).drew = .ok (.string (S [y])) ((V.alloc (.cells #[Value.int .u8 ((y.toNat : Nat) : Int)] 5)).alloc (.cells sz.toArray 80)).drew := conv_cell (((Blk.new V _ _).alloc _).drew)
    have cc1 : (convert 51 9 (.slice (some ⟨V.heap.size + 1, 0, none⟩) 1 1)).run Tryd.prog ((V.alloc (.cells sz.toArray 80)).alloc (.cells #[Value.int .u8 ((y.toNat : Nat) : Int)] 5)).drew = .ok (.string (S [y])) ((V.alloc (.cells sz.toArray 80)).alloc (.cells #[Value.int .u8 ((y.toNat : Nat) : Int)] 5)).drew := conv_cell ((blk_two V _ _ _ _).drew)
    have hsz73 : ∀ (W' : World) (g : Nat), Blk W' g 80 sz.toArray → (storeCells ⟨g, 0, none⟩ s1 0).run Tryd.prog W' = .ok () (W'.setCells g 0 s1) := fun W' g h => run_store_cells W' g s1 HONE1.out (by rw [HST1.out]; exact h.there_ 0 73 (by rw [HSZL.out]; decide))
    have hst : ∀ W' : World, (storeCells ⟨W'.heap.size, 0, none⟩ s1 0).run Tryd.prog (W'.alloc (.cells sz.toArray 80)) = .ok () ((W'.alloc (.cells sz.toArray 80)).setCells W'.heap.size 0 s1) := fun W' => hsz73 _ _ (Blk.new W' _ _)
    have HSTC := hide hsz73
    have hos : s1.toArray.size = 73 := by rw [List.size_toArray, HST1.out]
    have V0 := hide (Below.refl V.heap.size V)
    clear hsz73
    go_region_with (first
      | (go_at_call 52; (with_reducible refine (begin_st V.drew).mono ?_); rintro e z1 ⟨rfl, hz1⟩; have hZ1 : Below V.heap.size V z1 := from_here (V0.out.drew) hz1)
      | (go_at_call 52; (with_reducible refine (begin_st ((V.alloc (.cells #[Value.int .u8 ((y.toNat : Nat) : Int)] 5)).drew)).mono ?_); rintro e z1 ⟨rfl, hz1⟩; have hZ1 : Below V.heap.size V z1 := from_here ((V0.out.alloc (Nat.le_refl _) _).drew) hz1; have hcb := ((Blk.new V 5 #[Value.int .u8 ((y.toNat : Nat) : Int)]).drew).below hz1 (by simp <;> omega); have hcv := conv_cell hcb; have hcv2 := conv_cell (hcb.alloc (.cells sz.toArray 80)); clear hcb)
      | (go_at_call 52; (with_reducible refine (begin_st ((V.alloc (.cells sz.toArray 80)).drew)).mono ?_); rintro e z1 ⟨rfl, hz1⟩; have hZ1 : Below V.heap.size V z1 := from_here ((V0.out.alloc (Nat.le_refl _) _).drew) hz1; have hA := ((Blk.new V 80 sz.toArray).drew).below hz1 (by simp <;> omega); have hgA : V.heap.size ≤ V.heap.size := Nat.le_refl _)
      | (go_at_call 52; (with_reducible refine (begin_st (((V.alloc (.cells #[Value.int .u8 ((y.toNat : Nat) : Int)] 5)).alloc (.cells sz.toArray 80)).drew)).mono ?_); rintro e z1 ⟨rfl, hz1⟩; have hZ1 : Below V.heap.size V z1 := from_here (((V0.out.alloc (Nat.le_refl _) _).alloc (by simp <;> omega) _).drew) hz1; have hcb := (((Blk.new V 5 #[Value.int .u8 ((y.toNat : Nat) : Int)]).alloc _).drew).below hz1 (by simp <;> omega); have hcv := conv_cell hcb; have hcv2 := conv_cell (hcb.alloc (.cells sz.toArray 80)); clear hcb; have hA := ((blk_two V _ 80 _ sz.toArray).drew).below hz1 (by simp <;> omega); have hgA : V.heap.size ≤ V.heap.size + 1 := by omega)
      | (go_at_call 52; (with_reducible refine (begin_st (((V.alloc (.cells sz.toArray 80)).alloc (.cells #[Value.int .u8 ((y.toNat : Nat) : Int)] 5)).drew)).mono ?_); rintro e z1 ⟨rfl, hz1⟩; have hZ1 : Below V.heap.size V z1 := from_here (((V0.out.alloc (Nat.le_refl _) _).alloc (by simp <;> omega) _).drew) hz1; have hcb := ((blk_two V _ 5 _ #[Value.int .u8 ((y.toNat : Nat) : Int)]).drew).below hz1 (by simp <;> omega); have hcv := conv_cell hcb; have hcv2 := conv_cell (hcb.alloc (.cells sz.toArray 80)); clear hcb; have hA := (((Blk.new V 80 sz.toArray).alloc _).drew).below hz1 (by simp <;> omega); have hgA : V.heap.size ≤ V.heap.size := Nat.le_refl _)
      | (go_at_call 53; (with_reducible refine (unhide HAD z1 (unhide HKV _ hZ1)).mono ?_); rintro e z2 ⟨rfl, hz2⟩; have hZ2 : Below V.heap.size V z2 := from_here hZ1 hz2; try (have hA := hA.below hz2 hA.lt); first | (have hst2 := unhide HSTC z2 _ hA) | skip)
      | (go_at_call 53; (with_reducible refine (unhide HAD (z1.alloc (.cells #[Value.int .u8 ((y.toNat : Nat) : Int)] 5)) (unhide HKV _ (hZ1.alloc hZ1.size _))).mono ?_); rintro e z2 ⟨rfl, hz2⟩; have hZ2 : Below V.heap.size V z2 := from_here (hZ1.alloc hZ1.size _) hz2; try (have hA := (hA.alloc (.cells #[Value.int .u8 ((y.toNat : Nat) : Int)] 5)).below hz2 (Nat.lt_of_lt_of_le hA.lt (by simp <;> omega))); first | (have hst2 := unhide HSTC z2 _ hA) | skip)
      | (go_at_call 53; (with_reducible refine (unhide HAD (z1.alloc (.cells sz.toArray 80)) (unhide HKV _ (hZ1.alloc hZ1.size _))).mono ?_); rintro e z2 ⟨rfl, hz2⟩; have hZ2 : Below V.heap.size V z2 := from_here (hZ1.alloc hZ1.size _) hz2; have hA := (Blk.new z1 80 sz.toArray).below hz2 (by simp <;> omega); have hgA : V.heap.size ≤ z1.heap.size := hZ1.size; first | (have hst2 := unhide HSTC z2 _ hA) | skip)
      | (go_at_call 53; (with_reducible refine (unhide HAD ((z1.alloc (.cells #[Value.int .u8 ((y.toNat : Nat) : Int)] 5)).alloc (.cells sz.toArray 80)) (unhide HKV _ ((hZ1.alloc hZ1.size _).alloc (Nat.le_trans hZ1.size (by simp <;> omega)) _))).mono ?_); rintro e z2 ⟨rfl, hz2⟩; have hZ2 : Below V.heap.size V z2 := from_here ((hZ1.alloc hZ1.size _).alloc (Nat.le_trans hZ1.size (by simp <;> omega)) _) hz2; have hA := (blk_two z1 _ 80 _ sz.toArray).below hz2 (by simp <;> omega); have hgA : V.heap.size ≤ z1.heap.size + 1 := (by have h9 := hZ1.size; omega); first | (have hst2 := unhide HSTC z2 _ hA) | skip)
      | (go_at_call 53; (with_reducible refine (unhide HAD ((z1.alloc (.cells sz.toArray 80)).alloc (.cells #[Value.int .u8 ((y.toNat : Nat) : Int)] 5)) (unhide HKV _ ((hZ1.alloc hZ1.size _).alloc (Nat.le_trans hZ1.size (by simp <;> omega)) _))).mono ?_); rintro e z2 ⟨rfl, hz2⟩; have hZ2 : Below V.heap.size V z2 := from_here ((hZ1.alloc hZ1.size _).alloc (Nat.le_trans hZ1.size (by simp <;> omega)) _) hz2; have hA := ((Blk.new z1 80 sz.toArray).alloc (.cells #[Value.int .u8 ((y.toNat : Nat) : Int)] 5)).below hz2 (by simp <;> omega); have hgA : V.heap.size ≤ z1.heap.size := hZ1.size; first | (have hst2 := unhide HSTC z2 _ hA) | skip))
    all_goals
      first
        | (have hA9 := hA; have hg9 := hgA; have hZ9 := hZ2)
        | (have hA9 := Blk.new z2 80 sz.toArray; have hg9 := hZ2.size; have hZ9 := hZ2.alloc hZ2.size (.cells sz.toArray 80))
      have hFB := put_row (out := s1) hA9 (by rw [HST1.out, HSZL.out])
      have hFZ := below_setCells hg9 s1 0 _ hZ9
      have HFB := hide hFB
      have HFZ := hide hFZ
      have HG9 := hide hg9
      clear hFB hFZ hA9 hg9 hZ9
      go_wp2_with fail
      go_meet
      exact ⟨_, rfl, HG9.out, HFB.out, HFZ.out⟩
  case rest =>
    obtain ⟨g, rfl, hgV, hBs, hbz⟩ := hcut
    have HCW := hide (HV.out.trans (hbz.mono HV.out.size))
    have C0 := hide (B0.out.below hbz hws)
    have hgw : w.heap.size < g := by omega
    have HBs := hide (show Blk wc g 80 (ST ([y] ++ Wr.encL Wr.encB (xs.take 0))).toArray by rw [List.take_zero, Wr.encL_nil, List.append_nil, HS1.out]; exact hBs)
    have HN := hide (show n = xs.length by have := HR.out.1; simpa using this.symm)
    clear hBs hbz hgV B0 HV hws HKV HAD
    go_wp2_with fail
    go_loopw [18] (fun i wr => ∃ j : Nat, j ≤ n ∧ i = .int .i64 (j : Int) ∧ Blk wr g 80 (ST ([y] ++ Wr.encL Wr.encB (xs.take j))).toArray ∧ Blk wr w.heap.size 23 zz ∧ Below w.heap.size w wr) (fun i _ => n - (intOf i).toNat)
    case atStart => exact ⟨0, Nat.zero_le _, rfl, HBs.out, C0.out, HCW.out⟩
    case round =>
      obtain ⟨j, hj, rfl, hBs, hB0, hbel⟩ := hrel
      by_cases hlt : j < n
      · obtain ⟨ad, rfl, hx0, hc⟩ := reads_item HR.out j hlt
        have hjx : j < xs.length := by have := HN.out; omega
        have hc2 : w.cell? (ad.add j) = some (.string (S xs[j])) := by rw [hc]; simp [VS]
        have hcw : wr.cell? (ad.add j) = some (.string (S xs[j])) := by rw [hbel.cell (block_lt_of_cell hc2)]; exact hc2
        have hle := Wr.encL_take_le Wr.encB xs j
        have hle2 := Wr.encL_take_le Wr.encB xs (j + 1)
        have hst := Wr.encL_take Wr.encB xs j hjx
        have HBY := hide (fun (W : World) => bytesB_any xs[j] W (by rw [hst, List.length_append, Wr.encB_len] at hle2; omega))
        have hpos : 1 ≤ (Wr.encB xs[j]).length := by unfold Wr.encB; rw [List.length_append]; have := Wr.enc_pos (xs[j].length : Int); omega
        have hln : ([y] ++ Wr.encL Wr.encB (xs.take j)).length ≤ 1099511627785 := by rw [List.length_append]; simp; omega
        have hln2 : (Wr.encB xs[j]).length ≤ 1099511627776 := by rw [hst, List.length_append] at hle2; omega
        have HST := hide hst
        have HAD := hide (fun (W : World) hW => add_any ([y] ++ Wr.encL Wr.encB (xs.take j)) (Wr.encB xs[j]) W hW (by omega))
        have hm1 := ST_len ([y] ++ Wr.encL Wr.encB (xs.take j))
        have hm2 := ST_len ([y] ++ Wr.encL Wr.encB (xs.take j) ++ Wr.encB xs[j])
        have ho2 : ∀ v ∈ ST ([y] ++ Wr.encL Wr.encB (xs.take j) ++ Wr.encB xs[j]), v.oneCell' = true := SC_one _ _ _
        generalize hcur : [y] ++ Wr.encL Wr.encB (xs.take j) = cur at *
        generalize hnew : Wr.encB xs[j] = new at *
        generalize hc1 : ST cur = s2 at *
        generalize hc3 : ST (cur ++ new) = s3 at *
        have HCUR := hide hcur
        have HC3 := hide hc3
        have HM1 := hide hm1
        have HM2 := hide hm2
        have HO2 := hide ho2
        clear hc hc2 hx0 hle hle2 hst hcur hc1 hc3 hm1 hm2 ho2
        obtain ⟨wd, rfl⟩ : ∃ wd, wd = wr := ⟨wr, rfl⟩
        have HBS := hide hBs
        have HB0 := hide hB0
        have HBE := hide hbel
        clear hBs hB0 hbel
        have hgd := HBS.out.lt
        have W0 := hide (Below.refl wd.heap.size wd)
        have HKD := hide (fun (W' : World) (hb : Below wd.heap.size wd W') => HKK.out.below (HBE.out.trans (hb.mono HBE.out.size)) (Nat.le_refl _))
        have HLD := hide (fun (W' : World) (hb : Below wd.heap.size wd W') => (⟨⟨_, _, HBS.out.below hb hgd, by rw [List.size_toArray, HM1.out]⟩, rowAt_blk (HBS.out.below hb hgd)⟩ : rowOk W' g 73 ∧ rowAt W' g = s2.toArray))
        have HSC := hide (fun (W' : World) (hb : Below wd.heap.size wd W') => run_store_cells (P := Tryd.prog) W' g s3 HO2.out (by rw [HM2.out]; exact (HBS.out.below hb hgd).there_ 0 73 (by rw [HM1.out]; decide)))
        go_upto_region 5 with fail
        obtain ⟨hl0, hlc0⟩ := unhide HLD wd.drew W0.out.drew
        have hos : s3.toArray.size = 73 := by rw [List.size_toArray, HM2.out]
        go_region_with (first
          | (go_at_call 54; (with_reducible refine (unhide HBY wd.drew).mono ?_); rintro e z1 ⟨v1, rfl, hown1, hz1⟩; obtain ⟨g5, k5, rfl, hk5, hr5⟩ := own_form hown1 hpos; have hZ1 : Below wd.heap.size wd z1 := from_here W0.out.drew hz1; have hcv := conv_own hown1 (Below.refl _ _); obtain ⟨hl1, hlc1⟩ := unhide HLD z1 hZ1)
          | (go_at_call 53; (with_reducible refine (unhide HAD z1 (unhide HKD z1 hZ1)).mono ?_); rintro e z2 ⟨rfl, hz2⟩; have hZ2 := from_here hZ1 hz2; have hst2 := unhide HSC z2 hZ2))
        all_goals
          have HZ2 := hide hZ2
          have hFB := hide (put_row (out := s3) (HBS.out.below hZ2 hgd) (by rw [HM2.out, HM1.out]))
          have hF0 := hide (Blk.farCells s3 0 (HB0.out.below hZ2 (by omega)) (show w.heap.size ≠ g by omega))
          have hFZ := hide (below_setCells (show w.heap.size ≤ g by omega) s3 0 _ (HBE.out.trans (hZ2.mono HBE.out.size)))
          clear hl0 hl1 hlc0 hlc1 hst2 hcv hZ1 hZ2 hown1 hr5 hz1 hz2 hos
          go_wp2
          refine ⟨⟨j + 1, by omega, by go_num, ?_, hF0.out, hFZ.out⟩, by simp [intOf]; omega⟩
          rw [HST.out, ← List.append_assoc, HCUR.out, HC3.out]
          exact hFB.out
      · obtain rfl : j = n := by omega
        rw [List.take_of_length_le (by have := HN.out; omega), ← HIO.out] at hBs
        have HSM := hide (fun (W : World) hW => sumM_any (inputOf z xs) W hW (by rw [HIO.out, List.length_append]; simp; omega))
        have hdl := Sha.sum_len (inputOf z xs)
        have hdo : digestOf (inputOf z xs) = (Sha.sum (inputOf z xs)).take 16 := rfl
        generalize Sha.sum (inputOf z xs) = D at *
        have hil := ST_len (inputOf z xs)
        generalize ST (inputOf z xs) = si at *
        have HDO := hide hdo
        have HDL := hide hdl
        have HIL := hide hil
        have HBS := hide (show wr.heap[g]? = some (.cells si.toArray 80 (0, 0)) from hBs)
        have HB0 := hide hB0
        have HBE := hide hbel
        have hwr := hB0.lt
        clear hBs hB0 hbel hdl hil hdo
        have hzs := zero16
        go_upto_region 8 with (first
          | (with_reducible refine wpList_load_row rfl 80 (.tmp 5) rfl g rfl 80 si.toArray (0, 0) _ HBS.out Tryd.underlying80 rfl ?f1 ?_)
          | (go_at_call 55; refine (unhide HSM wr (HKK.out.below HBE.out (Nat.le_refl _))).mono ?_; rintro e w1 ⟨rfl, hb1⟩; have HB1 := hide hb1; clear hb1)
          | (with_reducible refine wpList_store_row rfl 84 (.tmp 8) (.tmp 29) rfl w1.heap.size (BV D).toArray rfl rfl 84 _ (heap_alloc_new w1 _) ?p1 ?p2 ?p3 ?_))
        case f1 => first | (rw [List.size_toArray, HIL.out]; exact streamSize) | (rw [HIL.out]; exact Option.map_eq_some_iff.1 streamSize)
        case p1 => first | (rw [List.size_toArray, BV_len, HDL.out]; exact size32) | (rw [BV_len, HDL.out]; exact Option.map_eq_some_iff.1 size32)
        case p2 => first | (rw [show (BV D).toArray.size = 32 by rw [List.size_toArray, BV_len, HDL.out]]; rfl) | (rw [BV_len D, HDL.out]; rfl)
        case p3 => first | exact all_oneCell_toArray (BV_one D) | exact BV_one D
        rw [World.setRow_alloc_new]
        go_upto_region 9 with fail
        refine name_world fun X hX => ?_
        have hb1 := HB1.out
        have hs1 := hb1.size
        have E0 := hide (show Blk X w.heap.size 23 zz by rw [← hX.out]; exact ((HB0.out.below hb1 hwr).alloc _).alloc _)
        have E8 := hide (show Blk X w1.heap.size 84 (BV D).toArray by rw [← hX.out]; exact (Blk.new w1 _ _).alloc _)
        have E9 := hide (show Blk X (w1.heap.size + 1) 23 (BV Z16).toArray by rw [← hX.out]; exact blk_two w1 _ _ _ _)
        have HX := hide (show Below w.heap.size w X by rw [← hX.out]; exact ((HBE.out.trans (hb1.mono (by omega))).alloc (by omega) _).alloc (by simp; omega) _)
        have hg8 : w.heap.size < w1.heap.size := by omega
        clear hX hb1 hs1 HB1 HBS HB0 HBE
        generalize w1.heap.size = g8 at *
        go_still_tail 2, (by kernel_rfl)
        change wpList _ _ _ _ _ X.drew
        have F0 := hide (show Blk X.drew w.heap.size 23 zz from E0.out)
        have F8 := hide (show Blk X.drew g8 84 (BV D).toArray from E8.out)
        have F9 := hide (show X.drew.heap[g8 + 1]? = some (.cells (BV Z16).toArray 23 (0, 0)) from E9.out)
        have HXd := hide HX.out.drew
        clear E0 E8 E9 HX
        generalize X.drew = Y at *
        have hdl16 : (BV (D.take 16)).length = 16 := by rw [BV_len, List.length_take]; have := HDL.out; omega
        have hsrc : ∀ j v, (BV (D.take 16))[j]? = some v → Y.cell? ((⟨g8, 0, none⟩ : Addr).add j) = some v := fun j v hj => by
          rw [show ((⟨g8, 0, none⟩ : Addr).add j) = ⟨g8, j, none⟩ by simp [Addr.add]; intro h; omega, F8.out.cell, List.getElem?_toArray, ← hj]
          have hj16 : j < 16 := by
            rcases Nat.lt_or_ge j 16 with h | h
            · exact h
            · rw [List.getElem?_eq_none (by omega)] at hj; cases hj
          simp only [BV, List.map_take]
          rw [List.getElem?_take_of_lt hj16]
        have H16 := hide hdl16
        have HSR := hide hsrc
        have H1 := hide (BV_one (D.take 16))
        clear hdl16 hsrc
        generalize hout : BV (D.take 16) = out at *
        have HOUT := hide hout
        clear hout
        go_wp2_with (with_reducible refine wpList_copy_stop rfl (.tmp 30) (.tmp 31) 51 51 rfl 5 Tryd.underlying51 byteSize (g8 + 1) 0 16 16 ⟨g8, 0, none⟩ 32 32 rfl rfl _ _ F9.out out ?c1 HSR.out ?c2 H1.out ?_)
        case c1 => rw [H16.out]; rfl
        case c2 => rw [H16.out]; decide
        intro Z hZ
        have G9 := hide (show Z.heap[g8 + 1]? = some (.cells out.toArray 23 (0, 0)) by
          rw [← hZ.out]
          have e : out ++ List.drop out.length (BV Z16) = out := by
            rw [H16.out, List.drop_eq_nil_of_le (by simp [BV, Z16]), List.append_nil]
          first
            | (rw [e]; exact setRow_heap Y (g8 + 1) _ out.toArray _ _ F9.out)
            | (have h := setRow_heap Y (g8 + 1) _ out.toArray _ _ F9.out; simpa [e] using h))
        have G0 := hide (show Z.heap[w.heap.size]? = some (.cells zz 23 (0, 0)) by rw [← hZ.out]; exact F0.out.otherRow (by omega) _)
        have HZb := hide (show Below w.heap.size w Z by rw [← hZ.out]; exact below_setRow HXd.out (by omega) _)
        clear hZ
        go_wp2_with (first | (with_reducible refine wpList_load_row rfl 23 (.tmp 9) rfl (g8 + 1) rfl 23 out.toArray (0, 0) _ G9.out Tryd.underlying23 rfl ?f9 ?_) | (with_reducible refine wpList_store_row rfl 23 (.tmp 4) (.tmp 33) rfl w.heap.size out.toArray rfl rfl 23 _ G0.out ?g9 ?g8' ?ga ?_))
        case f9 => first | (rw [List.size_toArray, H16.out]; exact size16) | (rw [H16.out]; exact Option.map_eq_some_iff.1 size16)
        case g9 => first | (rw [List.size_toArray, H16.out]; exact size16) | (rw [H16.out]; exact Option.map_eq_some_iff.1 size16)
        case g8' => first | (rw [HZZ16.out, List.size_toArray, H16.out]) | (rw [HZZ16.out, H16.out])
        case ga => first | exact all_oneCell_toArray H1.out | exact H1.out
        have hload : (loadVar 23 ⟨w.heap.size, 0, none⟩).run Tryd.prog (Z.setRow w.heap.size out.toArray) = .ok (.agg out.toArray) (Z.setRow w.heap.size out.toArray) :=
          run_loadVar_row _ _ _ _ _ _ _ (setRow_heap Z w.heap.size _ out.toArray _ _ G0.out) Tryd.underlying23 rfl (by rw [List.size_toArray, H16.out]; exact size16)
        exact bodyPost_ret (v := .agg out.toArray) (results_cell0 Tryd.results33 _ _ ⟨w.heap.size, 0, none⟩ _ rfl hload) rfl ⟨by rw [HDO.out, HOUT.out], below_setRow HZb.out (Nat.le_refl _) _⟩
end Go.Proofs.YtedgjpoejoepjaaDoor
