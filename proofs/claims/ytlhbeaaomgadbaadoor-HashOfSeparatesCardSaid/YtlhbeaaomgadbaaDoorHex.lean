/-
  The law's hex, by contract.
-/
import Derived.Test.YtlhbeaaomgadbaaDoorTxt
namespace Go.Proofs.YtlhbeaaomgadbaaDoor
open Go.RowKit
set_option linter.unusedVariables false
set_option linter.unusedSimpArgs false

/-- the digits of a number below sixteen -/
def hexD : List UInt8 := [48, 49, 50, 51, 52, 53, 54, 55, 56, 57, 97, 98, 99, 100, 101, 102]
def hexL (l : List UInt8) : List UInt8 := l.flatMap fun c => [hexD.getD (c.toNat / 16) 0, hexD.getD (c.toNat % 16) 0]
theorem hexL_snoc (l : List UInt8) (c : UInt8) : hexL (l ++ [c]) = hexL l ++ [hexD.getD (c.toNat / 16) 0, hexD.getD (c.toNat % 16) 0] := by simp [hexL, List.flatMap_append]
theorem hexL_len (l : List UInt8) : (hexL l).length = 2 * l.length := by
  induction l with
  | nil => rfl
  | cons c r ih => simp only [hexL, List.flatMap_cons, List.length_append, List.length_cons] at *; simp at *; omega
theorem hexD_get (k : Nat) (h : k < (S hexD).size) : (S hexD)[k] = hexD.getD k 0 := by
  have h' : k < 16 := h
  show hexD.toArray[k] = _
  simp only [List.getElem_toArray, List.getD]
  rw [List.getElem?_eq_getElem h']
  rfl
theorem reads_block (w : World) (cs : List Value) (t : TypeId) (m : Nat) (hm : cs.length = m) : Reads (w.alloc (.cells cs.toArray t)) (w.alloc (.cells cs.toArray t)).heap.size 1 (some ⟨w.heap.size, 0, none⟩) m cs := by
  refine ⟨by omega, fun _ => ⟨_, rfl, by simp, fun j u hj => ?_⟩⟩
  rw [show ((⟨w.heap.size, 0, none⟩ : Addr).add j) = ⟨w.heap.size, j, none⟩ by simp [Addr.add]; intro h; omega, Blk.cell (Blk.new w t cs.toArray), List.getElem?_toArray]
  exact hj
set_option maxHeartbeats 400000 in
set_option maxRecDepth 100000 in
theorem hex_any (s : ByteArray) (w : World) (hs : s.size ≤ 4096) :
    Calls Tryd.prog 25 #[.string s] w fun e w' => e = .returned (.string (S (hexL s.data.toList))) ∧ Below w.heap.size w w' := by
  obtain ⟨i0, hi, hz0, hz1, hz2⟩ := info_parts byteInfo
  have HI := hide hi
  have HZ0 := hide hz0
  have HZ1 := hide hz1
  have HZ2 := hide hz2
  clear hi hz0 hz1 hz2
  go_enter Tryd.func25, Tryd.ntmps25
  go_wp2_with fail
  have hds : ({ data := #[48, 49, 50, 51, 52, 53, 54, 55, 56, 57, 97, 98, 99, 100, 101, 102] } : ByteArray) = S hexD := rfl
  have hd16 : (S hexD).size = 16 := rfl
  have hdg := hexD_get
  rw [hds]
  generalize S hexD = ds at *
  have HDG := hide hdg
  have HD16 := hide hd16
  clear hds hdg hd16
  have HN := hide (World.ownsRow_nil w w.heap.size 5 1)
  go_loopw [4, 5] (fun v i wr => ∃ j : Nat, j ≤ s.size ∧ i = .int .i64 (j : Int) ∧ wr.ownsRow w.heap.size 5 1 v (2 * j) (BV (hexL (s.data.toList.take j))) ∧ Below w.heap.size w wr) (fun _ i _ => s.size - (intOf i).toNat)
  case atStart => exact ⟨0, Nat.zero_le _, rfl, HN.out, Below.refl _ _⟩
  case round =>
    obtain ⟨j, hj, rfl, hown, hb⟩ := hrel
    by_cases hlt : j < s.size
    · have hjl : j < s.data.toList.length := by simpa using hlt
      have hst := List.take_succ_eq_append_getElem hjl
      have hcc : s.data.toList[j] = s[j] := rfl
      rw [hcc] at hst
      have hsn := hexL_snoc (s.data.toList.take j) s[j]
      rw [← hst] at hsn
      have hby := s[j].toNat_lt
      have b1 : (0 : Int) ≤ (j : Int) := by omega
      have b2 : (j : Int) < (s.size : Int) := by omega
      have hq : s[j].toNat / 16 < ds.size := by rw [HD16.out]; omega
      have hr : s[j].toNat % 16 < ds.size := by rw [HD16.out]; omega
      rw [← HDG.out _ hq, ← HDG.out _ hr] at hsn
      have HSN := hide hsn
      have HO := hide hown
      have HB := hide hb
      clear hown hb hcc hst hsn
      generalize hexL (s.data.toList.take j) = L at *
      have e1 : IntKind.u8.wrap ((s[j].toNat : Int) / 16) = ((s[j].toNat / 16 : Nat) : Int) := by rw [IntWalk.u8_in _ (by omega)]; omega
      have e2 : ((s[j].toNat : Int)).tmod 16 = ((s[j].toNat % 16 : Nat) : Int) := by rw [IntWalk.rem_in _ _ (by omega)]; omega
      have q2 : ((s[j].toNat / 16 : Nat) : Int) < (ds.size : Int) := by have := HD16.out; omega
      have r2 : ((s[j].toNat % 16 : Nat) : Int) < (ds.size : Int) := by have := HD16.out; omega
      have q1 : (0 : Int) ≤ ((s[j].toNat / 16 : Nat) : Int) := by omega
      have r1 : (0 : Int) ≤ ((s[j].toNat % 16 : Nat) : Int) := by omega
      have E1 := hide e1
      have E2 := hide e2
      clear e1 e2
      go_wp2
      have e1 := E1.out
      have e2 := E2.out
      generalize s[j].toNat / 16 = q at *
      generalize s[j].toNat % 16 = r at *
      have hd1 := ds[q].toNat_lt
      have hd2 := ds[r].toNat_lt
      have hnews : BV [ds[q], ds[r]] = [.int .u8 (ds[q].toNat : Int), .int .u8 (ds[r].toNat : Int)] := rfl
      have HNW := hide hnews
      clear hnews
      have HOD := hide (show wr.drew.ownsRow w.heap.size 5 1 u4 (2 * j) (BV L) from HO.out)
      have HBD := hide HB.out.drew
      have hws := HB.out.size
      go_region_held3 (fun _ => True) (trivial)
        ((refine step_append_any _ (by rfl) (.tmp 12) (.tmp 25) 22 (by rfl) w.heap.size 5 i0 (.int .u8 0) 1 1 Tryd.underlying22 HI.out HZ0.out HZ1.out HZ2.out rfl (by omega) _ (2 * j) (BV L) (by rfl) (HOD.out.alloc _) _ (some ⟨wr.heap.size, 0, none⟩) 2 2 [.int .u8 (ds[q].toNat : Int), .int .u8 (ds[r].toNat : Int)] (by rfl) (reads_block wr.drew _ _ 2 rfl) (by simp [Value.oneCell']) (by unfold maxLen; omega) (by omega) (by simp; omega) ?_; intro v2 w2 hown2 hgrow2 hat2; have HO2 := hide hown2; have HB2 := hide ((HBD.out.alloc HBD.out.size _).trans (below_grown hgrow2 (HOD.out.alloc _) (by simp; omega))); clear hown2 hgrow2 hat2))
      all_goals
        clear e1 e2
        go_wp2
        exact ⟨⟨j + 1, by omega, by go_num, by rw [HSN.out, BV_append, HNW.out, show 2 * (j + 1) = 2 * j + 2 by omega]; exact HO2.out, HB2.out⟩, by simp [intOf]; omega⟩
    · obtain rfl : j = s.size := by omega
      rw [List.take_of_length_le (by simp)] at hown
      have hcv := conv_own hown (Below.refl wr.heap.size wr)
      have HB := hide hb
      clear hown hb
      go_wp2
      go_ret
      exact ⟨rfl, HB.out⟩
end Go.Proofs.YtlhbeaaomgadbaaDoor
