/-
  The reference's Bytes32 and Text, the law's hex: by contract.
-/
import Derived.Test.YtedgjpoejoepjaaDoorWs
namespace Go.Proofs.YtedgjpoejoepjaaDoor
open Go.RowKit
set_option linter.unusedVariables false
set_option linter.unusedSimpArgs false

theorem blk_BV {w : World} {g : Nat} {t : TypeId} {l : List UInt8} (h : Blk w g t (BV l).toArray) (i : Nat) (hi : i < l.length) : w.cell? ⟨g, i, none⟩ = some (.int .u8 ((l[i].toNat : Nat) : Int)) := by
  rw [h.cell, List.getElem?_toArray, BV_get l i hi]
theorem own_snoc {w : World} {b : Nat} {v : Value} {l : List UInt8} {k : Nat} {x : Int} {c : UInt8} (h : w.ownsRow b 5 1 v (k + 1) (BV l ++ [.int .u8 x])) (hx : x = (c.toNat : Int)) : w.ownsRow b 5 1 v (k + 1) (BV (l ++ [c])) := by
  subst hx
  rw [BV_append]
  exact h

set_option maxHeartbeats 400000 in
set_option maxRecDepth 100000 in
theorem bytes32_any (D : List UInt8) (w : World) (hD : D.length = 32) :
    Calls Tryd.prog 63 #[.agg (BV D).toArray] w fun e w' => e = .returned (.string (S D)) ∧ Below w.heap.size w w' := by
  obtain ⟨i0, hi, hz0, hz1, hz2⟩ := info_parts byteInfo
  have HI := hide hi
  have HZ0 := hide hz0
  have HZ1 := hide hz1
  have HZ2 := hide hz2
  clear hi hz0 hz1 hz2
  have HL := hide hD
  clear hD
  have HBOX := hide (show Blk (w.alloc (.cells (BV D).toArray 84)) w.heap.size 84 (BV D).toArray from Blk.new w _ _)
  have HB0 := hide (below_alloc w (.cells (BV D).toArray 84))
  have hsz : (w.alloc (.cells (BV D).toArray 84)).heap.size = w.heap.size + 1 := by simp
  have HSZ := hide hsz
  clear hsz
  go_enter Tryd.func63, Tryd.ntmps63
  go_wp2_with fail
  refine name_world fun W hW => ?_
  rw [hW.out] at HBOX HB0 HSZ
  have HN := hide (World.ownsRow_nil W (w.heap.size + 1) 5 1)
  go_loopw [3, 4] (fun v i wr => ∃ j : Nat, j ≤ 32 ∧ i = .int .i64 (j : Int) ∧ wr.ownsRow (w.heap.size + 1) 5 1 v j (BV (D.take j)) ∧ Below w.heap.size w wr ∧ Blk wr w.heap.size 84 (BV D).toArray ∧ w.heap.size + 1 ≤ wr.heap.size) (fun _ i _ => 32 - (intOf i).toNat)
  case atStart => exact ⟨0, Nat.zero_le _, rfl, HN.out, HB0.out, HBOX.out, by rw [HSZ.out]; exact Nat.le_refl _⟩
  case round =>
    obtain ⟨j, hj, rfl, hown, hb, hbox, hws⟩ := hrel
    by_cases hlt : j < 32
    · have hjD : j < D.length := by have := HL.out; omega
      have hc := blk_BV hbox j hjD
      have HTK := hide (List.take_succ_eq_append_getElem hjD)
      have hcn : ((D[j].toNat : Nat) : Int) = ((D[j].toNat : Nat) : Int) := rfl
      generalize D[j] = c at *
      have HO := hide hown
      have HB := hide hb
      have HX := hide hbox
      generalize D.take j = L at *
      have hby := c.toNat_lt
      clear hown hb hbox hcn
      go_wp2_with (at_builtin; refine wpList_append_any _ rfl (.tmp 9) (.tmp 13) 51 rfl (w.heap.size + 1) 5 i0 (.int .u8 0) 1 1 Tryd.underlying51 HI.out HZ0.out HZ1.out HZ2.out rfl (by omega) _ j (BV L) rfl (HO.out.alloc _) _ (some ⟨wr.heap.size, 0, none⟩) 1 1 [.int .u8 (c.toNat : Int)] rfl (reads_new wr _ _) (by simp [Value.oneCell']) (by unfold maxLen; omega) (by omega) (by simp; omega) ?_; intro v2 w2 hown2 hgrow2 hat2; have HO2 := hide hown2; have HB2 := hide (((HB.out.alloc HB.out.size _).trans ((below_grown hgrow2 (HO.out.alloc _) (by simp; omega)).mono (by omega)))); have HX2 := hide ((HX.out.alloc (.cells #[.int .u8 (c.toNat : Int)] 5)).grown hgrow2 (fun e => by have := ((HO.out.alloc (.cells #[.int .u8 (c.toNat : Int)] 5)).lt _ e.symm).1; omega)); have hws2 : w.heap.size + 1 ≤ w2.heap.size := by have := hgrow2.size; simp at this; omega)
      clear hown2 hgrow2 hat2
      go_roundw
      case rel => exact ⟨j + 1, by omega, by go_num, by rw [HTK.out]; exact own_snoc HO2.out rfl, HB2.out, HX2.out, hws2⟩
      case measure => simp [intOf]; omega
    · obtain rfl : j = 32 := by omega
      rw [List.take_of_length_le (by have := HL.out; omega)] at hown
      have hcv := conv_own hown (Below.refl wr.heap.size wr)
      have HB := hide hb
      clear hown hb hbox hws
      go_wp2
      go_ret
      exact ⟨rfl, HB.out⟩

set_option maxHeartbeats 400000 in
set_option maxRecDepth 100000 in
theorem text_any (D : List UInt8) (w : World) (hD : D.length = 16) :
    Calls Tryd.prog 30 #[.agg (BV D).toArray] w fun e w' => e = .returned (.string (S D)) ∧ Below w.heap.size w w' := by
  obtain ⟨i0, hi, hz0, hz1, hz2⟩ := info_parts byteInfo
  have HI := hide hi
  have HZ0 := hide hz0
  have HZ1 := hide hz1
  have HZ2 := hide hz2
  clear hi hz0 hz1 hz2
  have HL := hide hD
  clear hD
  have HBOX := hide (show Blk (w.alloc (.cells (BV D).toArray 23)) w.heap.size 23 (BV D).toArray from Blk.new w _ _)
  have HB0 := hide (below_alloc w (.cells (BV D).toArray 23))
  have hsz : (w.alloc (.cells (BV D).toArray 23)).heap.size = w.heap.size + 1 := by simp
  have HSZ := hide hsz
  clear hsz
  go_enter Tryd.func30, Tryd.ntmps30
  go_wp2_with fail
  refine name_world fun W hW => ?_
  rw [hW.out] at HBOX HB0 HSZ
  have HN := hide (World.ownsRow_nil W (w.heap.size + 1) 5 1)
  go_loopw [3, 4] (fun v i wr => ∃ j : Nat, j ≤ 16 ∧ i = .int .i64 (j : Int) ∧ wr.ownsRow (w.heap.size + 1) 5 1 v j (BV (D.take j)) ∧ Below w.heap.size w wr ∧ Blk wr w.heap.size 23 (BV D).toArray ∧ w.heap.size + 1 ≤ wr.heap.size) (fun _ i _ => 16 - (intOf i).toNat)
  case atStart => exact ⟨0, Nat.zero_le _, rfl, HN.out, HB0.out, HBOX.out, by rw [HSZ.out]; exact Nat.le_refl _⟩
  case round =>
    obtain ⟨j, hj, rfl, hown, hb, hbox, hws⟩ := hrel
    by_cases hlt : j < 16
    · have hjD : j < D.length := by have := HL.out; omega
      have hc := blk_BV hbox j hjD
      have HTK := hide (List.take_succ_eq_append_getElem hjD)
      have hcn : ((D[j].toNat : Nat) : Int) = ((D[j].toNat : Nat) : Int) := rfl
      generalize D[j] = c at *
      have HO := hide hown
      have HB := hide hb
      have HX := hide hbox
      generalize D.take j = L at *
      have hby := c.toNat_lt
      clear hown hb hbox hcn
      go_wp2_with (at_builtin; refine wpList_append_any _ rfl (.tmp 9) (.tmp 13) 51 rfl (w.heap.size + 1) 5 i0 (.int .u8 0) 1 1 Tryd.underlying51 HI.out HZ0.out HZ1.out HZ2.out rfl (by omega) _ j (BV L) rfl (HO.out.alloc _) _ (some ⟨wr.heap.size, 0, none⟩) 1 1 [.int .u8 (c.toNat : Int)] rfl (reads_new wr _ _) (by simp [Value.oneCell']) (by unfold maxLen; omega) (by omega) (by simp; omega) ?_; intro v2 w2 hown2 hgrow2 hat2; have HO2 := hide hown2; have HB2 := hide (((HB.out.alloc HB.out.size _).trans ((below_grown hgrow2 (HO.out.alloc _) (by simp; omega)).mono (by omega)))); have HX2 := hide ((HX.out.alloc (.cells #[.int .u8 (c.toNat : Int)] 5)).grown hgrow2 (fun e => by have := ((HO.out.alloc (.cells #[.int .u8 (c.toNat : Int)] 5)).lt _ e.symm).1; omega)); have hws2 : w.heap.size + 1 ≤ w2.heap.size := by have := hgrow2.size; simp at this; omega)
      clear hown2 hgrow2 hat2
      go_roundw
      case rel => exact ⟨j + 1, by omega, by go_num, by rw [HTK.out]; exact own_snoc HO2.out rfl, HB2.out, HX2.out, hws2⟩
      case measure => simp [intOf]; omega
    · obtain rfl : j = 16 := by omega
      rw [List.take_of_length_le (by have := HL.out; omega)] at hown
      have hcv := conv_own hown (Below.refl wr.heap.size wr)
      have HB := hide hb
      clear hown hb hbox hws
      go_wp2
      go_ret
      exact ⟨rfl, HB.out⟩
theorem reads_block (w : World) (cs : List Value) (t : TypeId) (m : Nat) (hm : cs.length = m) : Reads (w.alloc (.cells cs.toArray t)) (w.alloc (.cells cs.toArray t)).heap.size 1 (some ⟨w.heap.size, 0, none⟩) m cs := by
  refine ⟨by omega, fun _ => ⟨_, rfl, by simp, fun j u hj => ?_⟩⟩
  rw [show ((⟨w.heap.size, 0, none⟩ : Addr).add j) = ⟨w.heap.size, j, none⟩ by simp [Addr.add]; intro h; omega, Blk.cell (Blk.new w t cs.toArray), List.getElem?_toArray]
  exact hj
end Go.Proofs.YtedgjpoejoepjaaDoor
