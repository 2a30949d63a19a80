/-
  Cells: pages in memory; Pack, by contract.
-/
import Derived.Test.YtdjmfjmijpfijaaDoorPackD
namespace Go.Proofs.YtdjmfjmijpfijaaDoor
open Go.RowKit
set_option linter.unusedVariables false
set_option linter.unusedSimpArgs false
theorem name_world {P : Program} {c : Code} {Q : Exit → Act → World → Prop} {a : Act} {w : World} (h : ∀ W, Hid (w = W) → c.wp P Q a W) : c.wp P Q a w := h w rfl
/-- a page in memory -/
def Pg (w : World) (B : Nat) (A : Option Addr) (n : Nat) (ls : List (List UInt8)) : Prop :=
  ∃ vs : List Value, Reads w B 1 A n vs ∧ ls.length = n ∧ ∀ k (h : k < ls.length), ∃ A' m c, vs[k]? = some (.slice A' m c) ∧ m ≤ c ∧ Reads w B 1 A' m (BV ls[k])
section
variable {w w' : World} {B B' n : Nat} {A : Option Addr} {ls : List (List UInt8)}
theorem Pg.below (h : Pg w B A n ls) (hb : Below B w w') : Pg w' B A n ls := by
  obtain ⟨vs, h1, h2, h3⟩ := h
  refine ⟨vs, h1.below hb, h2, fun k hk => ?_⟩
  obtain ⟨A', m, c, h4, h5, h6⟩ := h3 k hk
  exact ⟨A', m, c, h4, h5, h6.below hb⟩
theorem Pg.more (h : Pg w B A n ls) (hB : B ≤ B') : Pg w B' A n ls := by
  obtain ⟨vs, h1, h2, h3⟩ := h
  refine ⟨vs, h1.more hB, h2, fun k hk => ?_⟩
  obtain ⟨A', m, c, h4, h5, h6⟩ := h3 k hk
  exact ⟨A', m, c, h4, h5, h6.more hB⟩
theorem Pg.nil (w : World) (B : Nat) : Pg w B none 0 [] := ⟨[], Reads.none_, rfl, fun k h => absurd h (by simp)⟩
theorem Pg.row (h : Pg w B A n ls) (k : Nat) (hk : k < n) : ∃ ad, A = some ad ∧ ∃ hk' : k < ls.length, ∃ A' c, w.cell? (ad.add k) = some (.slice A' ls[k].length c) ∧ ls[k].length ≤ c ∧ Reads w B 1 A' ls[k].length (BV ls[k]) := by
  obtain ⟨vs, h1, h2, h3⟩ := h
  obtain ⟨ad, u, hA, hb, hv, hc⟩ := h1.at_ hk
  have hk' : k < ls.length := by omega
  obtain ⟨A', m, c, h4, h5, h6⟩ := h3 k hk'
  have hm := reads_bytes_len h6
  subst hm
  rw [hv] at h4
  injection h4 with h4
  subst h4
  exact ⟨ad, hA, hk', A', c, hc, h5, h6⟩
end
theorem boolInfo : (Tryd.prog.info? 4).map (fun i => (i.zero, i.size, i.bytes)) = some (some (.bool false), 1, 1) := by kernel_rfl
theorem lineInfo : (Tryd.prog.info? 27).map (fun i => (i.zero, i.size, i.bytes)) = some (some (.slice none 0 0), 1, 24) := by kernel_rfl

theorem pageInfo : (Tryd.prog.info? 24).map (fun i => (i.zero, i.size, i.bytes)) = some (some (.slice none 0 0), 1, 24) := by kernel_rfl
theorem madeU8 (n : Nat) : madeCells #[Value.int .u8 0] n = (BV (List.replicate n 0)).toArray := by
  apply Array.toList_inj.1
  rw [toList_madeCells_one]
  simp [BV]
theorem madeLine (n : Nat) : madeCells #[Value.slice none 0 0] n = (filled n 0 [] (Value.slice none 0 0)).toArray := by
  apply Array.toList_inj.1
  rw [toList_madeCells_one]
  simp [filled]
/-- the value of a line that lies whole in a block of its own -/
def lnv (b wl j : Nat) : Value := .slice (some ⟨b + j, 0, none⟩) wl wl
theorem lines_next (b wl i hl : Nat) (h : i < hl) : ((filled hl i ((List.range i).map (lnv b wl)) (.slice none 0 0)).toArray).setIfInBounds i (lnv b wl i) = (filled hl (i + 1) ((List.range (i + 1)).map (lnv b wl)) (.slice none 0 0)).toArray := by
  apply Array.toList_inj.1
  rw [Array.toList_setIfInBounds]
  show (filled hl i _ _).set i _ = _
  rw [filled_set hl i _ _ _ (by simp) h, List.range_succ, List.map_append]
  rfl
theorem lines_get (b wl hl j : Nat) (h : j < hl) : (filled hl hl ((List.range hl).map (lnv b wl)) (.slice none 0 0)).toArray[j]? = some (lnv b wl j) := by
  rw [filled_full, List.getElem?_toArray, List.getElem?_map, List.getElem?_range h]
  rfl

theorem ne_row1 (g q : Nat) : g + 1 ≠ g + 2 + q := by omega
theorem ne_row0 (g q : Nat) : g ≠ g + 2 + q := by omega
theorem wrap_small (n : Nat) (h : n ≤ 65536) : IntKind.i64.wrap (n : Int) = (n : Int) := by rw [IntWalk.i64_in _ (by omega)]
theorem row_cell (W H : Nat) (bits : List Bool) (k i j : Nat) (hj : j < (W + 1) / 2) : (BV (Ce.rowTo W H bits k i)).toArray[j]? = some (.int .u8 ((Ce.packTo W H bits k i j : Nat) : Int)) := by
  have h := Ce.rowTo_get W H bits k i j hj
  have hl := Ce.packTo_lt W H bits k i j
  rw [List.getElem?_toArray]
  unfold BV
  rw [List.getElem?_map, h]
  simp only [Option.map_some]
  congr 2
  rw [UInt8.toNat_ofNat']
  omega
theorem row_cells_next (W H : Nat) (bits : List Bool) (k : Nat) (h : bits.getD k false = true) (hk : k < W * H) :
    (BV (Ce.rowTo W H bits k (k / W / 3))).toArray.setIfInBounds (k % W / 2) (.int .u8 ((Ce.packTo W H bits k (k / W / 3) (k % W / 2) ||| 2 ^ (k / W % 3 + k % W % 2 * 3) : Nat) : Int)) = (BV (Ce.rowTo W H bits (k + 1) (k / W / 3))).toArray := by
  apply Array.toList_inj.1
  rw [Array.toList_setIfInBounds, Ce.row_near W H bits k h hk, Ce.packTo_near W H bits k h hk]
  have hl := Ce.packTo_lt W H bits (k + 1) (k / W / 3) (k % W / 2)
  show (BV _).set _ _ = BV _
  unfold BV
  rw [List.map_set]
  congr 2
  rw [UInt8.toNat_ofNat']
  omega
theorem pg_of_lines {w : World} (gp b wl hl : Nat) (f : Nat → List UInt8) (hf : ∀ j, (f j).length = wl) (hp : Blk w gp 27 (filled hl hl ((List.range hl).map (lnv b wl)) (.slice none 0 0)).toArray)
    (hr : ∀ j, j < hl → Blk w (b + j) 5 (BV (f j)).toArray) : Pg w w.heap.size (some ⟨gp, 0, none⟩) hl ((List.range hl).map f) := by
  rw [filled_full] at hp
  refine ⟨(List.range hl).map (lnv b wl), ⟨by simp, fun _ => ⟨_, rfl, hp.lt, fun j u hj => ?_⟩⟩, by simp, fun k hk => ?_⟩
  · have : ((⟨gp, 0, none⟩ : Addr).add j) = ⟨gp, j, none⟩ := by simp [Addr.add]; intro h; omega
    rw [this, hp.cell, List.getElem?_toArray]
    exact hj
  · have hk' : k < hl := by simpa using hk
    refine ⟨some ⟨b + k, 0, none⟩, wl, wl, ?_, Nat.le_refl _, ⟨?_, fun _ => ⟨_, rfl, (hr k hk').lt, fun j u hj => ?_⟩⟩⟩
    · rw [List.getElem?_map, List.getElem?_range hk']; rfl
    · rw [BV_len]; simp [hf]
    · have : ((⟨b + k, 0, none⟩ : Addr).add j) = ⟨b + k, j, none⟩ := by simp [Addr.add]; intro h; omega
      rw [this, (hr k hk').cell, List.getElem?_toArray]
      simpa using hj

set_option maxHeartbeats 2000000 in
set_option maxRecDepth 100000 in
theorem pack_any (A : Option Addr) (n c W H : Nat) (bits : List Bool) (w : World) (hr : Reads w w.heap.size 1 A n (bits.map Value.bool)) (hn : n = W * H) (hW : W ≤ 65536) (hH : H ≤ 65536) (hn6 : n ≤ 65536) :
    Calls Tryd.prog 15 #[.agg #[.int .i64 (W : Int), .int .i64 (H : Int), .slice A n c]] w fun e w' => ∃ gp, e = .returned (.tuple #[.slice (some ⟨gp, 0, none⟩) ((H + 2) / 3) ((H + 2) / 3), .int .i64 0]) ∧ Pg w' w'.heap.size (some ⟨gp, 0, none⟩) ((H + 2) / 3) (Ce.pack W H bits) ∧ Below w.heap.size w w' := by
  have hmulN : (W : Int) * (H : Int) = (n : Int) := by rw [hn]; exact (Int.natCast_mul _ _).symm
  have hcan : Ce.can W H = true := by unfold Ce.can; rw [hmulN]; exact decide_eq_true ⟨by omega, by omega, by omega, by omega, by omega⟩
  have CP := hide (fun W' => possible_any (W : Int) (H : Int) W')
  rw [hcan] at CP
  obtain ⟨hl, hhl⟩ : ∃ hl, hl = (H + 2) / 3 := ⟨_, rfl⟩
  obtain ⟨wl, hwl⟩ : ∃ wl, wl = (W + 1) / 2 := ⟨_, rfl⟩
  have hm1 : IntKind.i64.wrap ((W : Int) * (H : Int)) = (n : Int) := by rw [hmulN, IntWalk.i64_in _ (by omega)]
  have hm2 : wrap64 ((W : Int) * (H : Int)) = (n : Int) := by rw [hmulN]; exact wrap64_in (by omega) (by omega)
  have hnn : ((n : Int) != (n : Int)) = false := by simp
  have hW0 : (0 : Int) ≤ (W : Int) := by omega
  have hH0 : (0 : Int) ≤ (H : Int) := by omega
  have hW6 : (W : Int) ≤ 65536 := by omega
  have hH6 : (H : Int) ≤ 65536 := by omega
  have hhi : ((H : Int) + 3 - 1) / 3 = (hl : Int) := by omega
  have hmkp : ∀ W', (Instr.makeSlice 24 (.int .i64 (hl : Int)) (.int .i64 (hl : Int))).run Tryd.prog W' = .ok (.slice (some ⟨W'.heap.size, 0, none⟩) hl hl) (W'.alloc (.cells (madeCells #[Value.slice none 0 0] hl) 27)) := fun W' =>
    run_make_row' 24 27 (.slice none 0 0) 24 Tryd.underlying24 lineInfo rfl .i64 .i64 hl (by omega) (by omega) W'
  have hmkl : ∀ W', (Instr.makeSlice 27 (.int .i64 (wl : Int)) (.int .i64 (wl : Int))).run Tryd.prog W' = .ok (.slice (some ⟨W'.heap.size, 0, none⟩) wl wl) (W'.alloc (.cells (madeCells #[Value.int .u8 0] wl) 5)) := fun W' =>
    run_make_row' 27 5 (.int .u8 0) 1 Tryd.underlying27 byteInfo rfl .i64 .i64 wl (by omega) (by omega) W'
  rw [madeLine] at hmkp
  rw [madeU8] at hmkl
  have HR := hide hr
  have HN := hide hn
  rw [← hhl]
  have HHL := hide hhl
  have HWL := hide hwl
  have HMKL := hide hmkl
  clear hr hn hcan hmulN hhl hwl hmkl
  go_enter Tryd.func15, Tryd.ntmps15
  go_upto_region 1 with fail
  refine name_world fun V hV => ?_
  have HBX := hide (show Blk V w.heap.size 37 #[.int .i64 (W : Int), .int .i64 (H : Int), .slice A n c] by rw [← hV.out]; exact Blk.new w _ _)
  have HV := hide (show Below w.heap.size w V by rw [← hV.out]; exact below_alloc w _)
  have HVS := hide (show V.heap.size = w.heap.size + 1 by rw [← hV.out]; simp)
  have hgx := HBX.out.lt
  clear hV
  have hc0 : V.cell? ⟨w.heap.size, 0, none⟩ = some (.int .i64 (W : Int)) := HBX.out.cell 0
  have hc1 : V.cell? ⟨w.heap.size, 1, none⟩ = some (.int .i64 (H : Int)) := HBX.out.cell 1
  have hc2 : V.cell? ⟨w.heap.size, 2, none⟩ = some (.slice A n c) := HBX.out.cell 2
  go_upto_region 3 with (go_at_call 34; refine (CP.out _).mono ?_; rintro e w1 ⟨rfl, rfl⟩)
  go_upto_region 4 with fail
  refine name_world fun X hX => ?_

  have HGP := hide (show Blk X V.heap.size 27 (filled hl 0 ((List.range 0).map (lnv (V.heap.size + 2) wl)) (.slice none 0 0)).toArray by
    rw [← hX.out]
    exact (Blk.new V _ _).alloc _)
  have HGV := hide (show Blk X (V.heap.size + 1) 24 #[.slice (some ⟨V.heap.size, 0, none⟩) hl hl] by
    rw [← hX.out]
    have := Blk.new (V.alloc (.cells (filled hl 0 [] (Value.slice none 0 0)).toArray 27)) 24 #[.slice (some ⟨V.heap.size, 0, none⟩) hl hl]
    rwa [show (V.alloc (.cells (filled hl 0 [] (Value.slice none 0 0)).toArray 27)).heap.size = V.heap.size + 1 by simp] at this)
  have HXS := hide (show X.heap.size = V.heap.size + 2 by rw [← hX.out]; simp)
  have HX := hide (show Below V.heap.size V X by rw [← hX.out]; exact (below_alloc V _).alloc (by simp) _)
  clear hX hmkp hhi hc0 hc1 hc2 CP hm1 hm2 hnn
  have hgpb := HGP.out.lt
  have hgvb := HGV.out.lt
  generalize V.heap.size = gp at *
  have HXX := hide (Below.refl gp X)
  have hcv : X.cell? ⟨gp + 1, 0, none⟩ = some (.slice (some ⟨gp, 0, none⟩) hl hl) := HGV.out.cell 0
  go_wp2
  go_loopw [34] (fun s34 wr => ∃ i : Nat, i ≤ hl ∧ s34 = .int .i64 (i : Int) ∧ wr.heap.size = gp + 2 + i ∧ Blk wr gp 27 (filled hl i ((List.range i).map (lnv (gp + 2) wl)) (.slice none 0 0)).toArray ∧ Blk wr (gp + 1) 24 #[.slice (some ⟨gp, 0, none⟩) hl hl] ∧ Hid (∀ j, j < i → Blk wr (gp + 2 + j) 5 (BV (List.replicate wl 0)).toArray) ∧ Below gp X wr) (fun s34 _ => hl - (intOf s34).toNat)
  case atStart => exact ⟨0, by omega, rfl, HXS.out, HGP.out, HGV.out, fun j hj => absurd hj (by omega), HXX.out⟩
  case round =>
    clear hcv
    obtain ⟨i, hi, rfl, hsz, hbp, hbv, HROW, hbel⟩ := hrel
    obtain ⟨wd, rfl⟩ : ∃ wd, wd = wr := ⟨wr, rfl⟩
    have HBP := hide hbp
    have HBV := hide hbv
    have HB := hide hbel
    have HSZ := hide hsz
    by_cases hlt : i < hl
    · have hc0 : wd.cell? ⟨w.heap.size, 0, none⟩ = some (.int .i64 (W : Int)) := by rw [((HBX.out.below HX.out hgx).below hbel hgx).cell]; rfl
      have hcv : wd.cell? ⟨gp + 1, 0, none⟩ = some (.slice (some ⟨gp, 0, none⟩) hl hl) := hbv.cell 0
      have hcp : wd.cell? ⟨gp, i, none⟩ = some (.slice none 0 0) := by rw [hbp.cell, List.getElem?_toArray]; exact filled_get hl i _ _ (by simp) hlt
      have hfz := hbp.frozen i
      have hi0 : (0 : Int) ≤ (i : Int) := by omega
      have hi1 : (i : Int) < (hl : Int) := by omega
      have hl6 : (hl : Int) ≤ 30000 := by have := HHL.out; omega
      have hmk := HMKL.out
      have hwl := HWL.out
      have hs1 : IntKind.i64.wrap ((W : Int) + 2) = (W : Int) + 2 := by rw [IntWalk.i64_in _ (by omega)]
      have hs2 : IntKind.i64.wrap ((W : Int) + 2 - 1) = ((W + 1 : Nat) : Int) := by rw [IntWalk.i64_in _ (by omega)]; omega
      have hs3 : Int.tdiv ((W + 1 : Nat) : Int) 2 = (wl : Int) := by rw [Int.tdiv_eq_ediv_of_nonneg (by omega)]; omega
      have hs4 : IntKind.i64.wrap (wl : Int) = (wl : Int) := by rw [IntWalk.i64_in _ (by omega)]
      generalize ((W + 1 : Nat) : Int) = W1 at *
      have HLT := hide hlt
      have hb0 := ((HBX.out.below HX.out hgx).below hbel hgx)
      have ha0 : (wd.alloc (.cells (BV (List.replicate wl 0)).toArray 5)).cell? ⟨w.heap.size, 0, none⟩ = some (.int .i64 (W : Int)) := by rw [(hb0.alloc _).cell]; rfl
      have hav : (wd.alloc (.cells (BV (List.replicate wl 0)).toArray 5)).cell? ⟨gp + 1, 0, none⟩ = some (.slice (some ⟨gp, 0, none⟩) hl hl) := (hbv.alloc _).cell 0
      have hap : (wd.alloc (.cells (BV (List.replicate wl 0)).toArray 5)).cell? ⟨gp, i, none⟩ = some (.slice none 0 0) := by rw [(hbp.alloc _).cell, List.getElem?_toArray]; exact filled_get hl i _ _ (by simp) hlt
      have haf := (hbp.alloc (.cells (BV (List.replicate wl 0)).toArray 5)).frozen i
      clear hbp hbv hbel hsz hlt hwl hb0
      go_upto_region 7 with fail
      go_region
      go_wp2
      have hsz := HSZ.out
      refine ⟨⟨i + 1, HLT.out, by go_num, by simp; omega, ?_, ?_, ?_, ?_⟩, by have := HLT.out; simp [intOf]; omega⟩
      · have h := (HBP.out.alloc (.cells (BV (List.replicate wl 0)).toArray 5)).set_ i (lnv (gp + 2) wl i)
        rw [lines_next (gp + 2) wl i hl HLT.out] at h
        rw [hsz]
        exact h
      · exact (HBV.out.alloc _).far (p := ⟨gp, i, none⟩) (by show gp + 1 ≠ gp; omega) _
      · intro j hj
        by_cases hji : j = i
        · subst hji
          have h := (Blk.new wd 5 (BV (List.replicate wl 0)).toArray).far (p := ⟨gp, j, none⟩) (by show wd.heap.size ≠ gp; omega) (.slice (some ⟨wd.heap.size, 0, none⟩) wl wl)
          have hg : gp + 2 + j = wd.heap.size := by omega
          rw [hg]
          exact h
        · exact ((HROW.out j (by omega)).alloc _).far (p := ⟨gp, i, none⟩) (by show gp + 2 + j ≠ gp; omega) _
      · exact ((HB.out.alloc (by omega) _).setCell (p := ⟨gp, i, none⟩) (Nat.le_refl _) _).drew
    · obtain rfl : i = hl := by omega
      have HWX := hide (HV.out.trans (HX.out.mono (Nat.le_of_lt hgx)))
      have hbx := (HBX.out.below HX.out hgx).below hbel hgx
      have HBX2 := hide hbx
      have hc2 : wd.cell? ⟨w.heap.size, 2, none⟩ = some (.slice A n c) := by rw [hbx.cell]; rfl
      have hr0 : ∀ j, j < i → Blk wd (gp + 2 + j) 5 (BV (Ce.rowTo W H bits 0 j)).toArray := fun j hj => by
        have h := HROW.out j hj
        rwa [HWL.out, ← Ce.rowTo_zero W H bits j] at h
      have HR0 := hide hr0
      clear hbp hbv hbel hsz hlt HROW hr0 hbx
      have hcvp := HBV.out
      go_wp2
      go_loopw [51] (fun s51 wr => ∃ k : Nat, k ≤ n ∧ s51 = .int .i64 (k : Int) ∧ Blk wr gp 27 (filled i i ((List.range i).map (lnv (gp + 2) wl)) (.slice none 0 0)).toArray ∧ Blk wr (gp + 1) 24 #[.slice (some ⟨gp, 0, none⟩) i i] ∧ Hid (∀ j, j < i → Blk wr (gp + 2 + j) 5 (BV (Ce.rowTo W H bits k j)).toArray) ∧ Below gp X wr) (fun s51 _ => n - (intOf s51).toNat)
      case atStart => exact ⟨0, by omega, rfl, HBP.out, HBV.out, HR0.out, HB.out⟩
      case round =>
        clear hc2 hcvp
        obtain ⟨k, hk, rfl, hbp, hbv, HROW, hbel⟩ := hrel
        obtain ⟨we, rfl⟩ : ∃ we, we = wr := ⟨wr, rfl⟩
        have JBP := hide hbp
        have JBV := hide hbv
        have JB := hide hbel
        by_cases hlt : k < n
        · obtain ⟨ad, rfl, hkl, hcb0⟩ := reads_item HR.out k hlt
          rw [List.length_map] at hkl
          have hcb : we.cell? (ad.add k) = some (.bool bits[k]) := by
            rw [(HWX.out.trans (hbel.mono (Nat.le_of_lt hgx))).cell (block_lt_of_cell hcb0), hcb0]
            simp
          have hk0 : (0 : Int) ≤ (k : Int) := by omega
          have hk1 : (k : Int) < (n : Int) := by omega
          have HLT := hide hlt
          have hgd : bits.getD k false = bits[k] := by simp [List.getD, hkl]
          have hkWH : k < W * H := by rw [← HN.out]; exact hlt
          cases hb : bits[k] with
          | false =>
            rw [hb] at hcb hgd
            have HNX := hide (show ∀ j, j < i → Blk we (gp + 2 + j) 5 (BV (Ce.rowTo W H bits (k + 1) j)).toArray from fun j hj => by
              rw [Ce.row_off W H bits k j hgd]; exact HROW.out j hj)
            clear hbp hbv hbel hlt hb hgd hkWH hcb0 HROW
            go_wp2
            exact ⟨⟨k + 1, HLT.out, by go_num, JBP.out, JBV.out, HNX.out, JB.out⟩, by have := HLT.out; simp [intOf]; omega⟩
          | true =>
            rw [hb] at hcb hgd
            have hWp : 0 < W := by
              rcases Nat.eq_zero_or_pos W with h0 | h0
              · rw [h0, Nat.zero_mul] at hkWH; exact absurd hkWH (by omega)
              · exact h0
            have hyH : k / W < H := by rw [Nat.div_lt_iff_lt_mul hWp, Nat.mul_comm]; exact hkWH
            have hxW := Nat.mod_lt k hWp
            have hrow := row_cell W H bits k (k / W / 3) (k % W / 2) (by omega)
            have hlt64 := Ce.packTo_lt W H bits k (k / W / 3) (k % W / 2)
            have hqi : k / W / 3 < i := by rw [HHL.out]; omega
            have CPS := hide (pset_any (gp + 1) gp (gp + 2 + k / W / 3) i wl (k % W) (k / W) (Ce.packTo W H bits k (k / W / 3) (k % W / 2)) (k % W / 2) (k % W % 2) (k / W / 3) (k / W % 3) (BV (Ce.rowTo W H bits k (k / W / 3))).toArray we.drew (JBV.out.cell 0)
              (by show we.cell? _ = _; rw [JBP.out.cell]; exact lines_get (gp + 2) wl i (k / W / 3) hqi) (HROW.out (k / W / 3) hqi).drew hrow (Int.natCast_ediv _ _).symm (Int.natCast_emod _ _).symm (by omega) (by omega) (Int.natCast_ediv _ _).symm (Int.natCast_emod _ _).symm hqi (by rw [HWL.out]; omega) (by have := HHL.out; omega) (by have := HWL.out; omega) hlt64 (ne_row1 _ _) (ne_row0 _ _))
            have hmt : Int.tmod (k : Int) (W : Int) = ((k % W : Nat) : Int) := by rw [Int.tmod_eq_emod_of_nonneg (by omega)]; exact (Int.natCast_emod _ _).symm
            have hdt : Int.tdiv (k : Int) (W : Int) = ((k / W : Nat) : Int) := by rw [Int.tdiv_eq_ediv_of_nonneg (by omega)]; exact (Int.natCast_ediv _ _).symm
            have HNR := hide (row_cells_next W H bits k hgd hkWH)
            have HFAR := hide (fun j hj (hne : j ≠ k / W / 3) => (show Blk we (gp + 2 + j) 5 (BV (Ce.rowTo W H bits (k + 1) j)).toArray by
              rw [Ce.row_far W H bits k j hgd hkWH hne]; exact HROW.out j hj))
            have hc0 : we.cell? ⟨w.heap.size, 0, none⟩ = some (.int .i64 (W : Int)) := by rw [((HBX.out.below HX.out hgx).below JB.out hgx).cell]; rfl
            have hwx : IntKind.i64.wrap ((k % W : Nat) : Int) = ((k % W : Nat) : Int) := wrap_small _ (Nat.le_trans (Nat.le_of_lt hxW) hW)
            have hwy : IntKind.i64.wrap ((k / W : Nat) : Int) = ((k / W : Nat) : Int) := wrap_small _ (Nat.le_trans (Nat.le_of_lt hyH) hH)
            have hWne : ¬ ((W : Int) = 0) := by omega
            have hqd : k / W / 3 < i := hqi
            generalize hyy : k / W / 3 = qy at *
            generalize k / W = y at *
            generalize k % W = x at *
            clear hbp hbv hbel hlt hb hkWH hcb0 hrow hlt64 hyH hxW hgd
            go_upto_region 14 with fail
            go_region_with (go_at_call 35; refine (unhide CPS).mono ?_; rintro e w1 ⟨rfl, hblk, hgr⟩)
            all_goals
              have hg2 : we.grownBy w1 (some (gp + 2 + qy)) := ⟨hgr.os, hgr.tape, hgr.output, hgr.size, hgr.block⟩
              have HNW := hide (show ∀ j, j < i → Blk w1 (gp + 2 + j) 5 (BV (Ce.rowTo W H bits (k + 1) j)).toArray from fun j hj => by
                by_cases hjq : j = qy
                · subst hjq
                  rw [HNR.out] at hblk
                  exact hblk
                · exact ((unhide HFAR) j hj hjq).grown hg2 (fun e => hjq (by injection e with e; omega)))
              have HPW := hide (JBP.out.grown hg2 (fun e => absurd (Option.some.inj e) (ne_row0 _ _)))
              have HVW := hide (JBV.out.grown hg2 (fun e => absurd (Option.some.inj e) (ne_row1 _ _)))
              have HBW := hide (JB.out.grown hg2 (Nat.le_of_lt JBP.out.lt) (fun g e => by injection e with e; omega))
              clear hblk hgr hg2
              go_wp2
              exact ⟨⟨k + 1, HLT.out, by go_num, HPW.out, HVW.out, HNW.out, HBW.out⟩, by have := HLT.out; simp [intOf]; omega⟩
        · obtain rfl : k = n := by omega
          have HPG := hide (pg_of_lines gp (gp + 2) wl i (Ce.rowTo W H bits k) (fun j => by rw [Ce.rowTo_len, HWL.out]) hbp HROW.out)
          have hcv : we.cell? ⟨gp + 1, 0, none⟩ = some (.slice (some ⟨gp, 0, none⟩) i i) := hbv.cell 0
          have HEND := hide (HV.out.trans (HX.out.mono (Nat.le_of_lt hgx)) |>.trans (hbel.mono (Nat.le_of_lt hgx)))
          clear hbp hbv hbel hlt HROW
          go_wp2
          go_ret2
          exact ⟨gp, rfl, by have h := HPG.out; rw [HN.out, HHL.out] at h; rw [HHL.out]; exact h, HEND.out⟩
end Go.Proofs.YtdjmfjmijpfijaaDoor
