/-
  A text is added to a stream, by contract.
-/
import Derived.Test.YtedgjpoejoepjaaDoorStream
namespace Go.Proofs.YtedgjpoejoepjaaDoor
open Go.RowKit
set_option linter.unusedVariables false
set_option linter.unusedSimpArgs false

/-- the length of a string value -/
def szOf : Value → Nat
  | .string b => b.size
  | _ => 0
theorem S_drop (l : List UInt8) (n : Nat) : (S l).extract n (S l).size = S (l.drop n) := by
  have h : ((S l).extract n (S l).size).data.toList = l.drop n := by
    rw [ByteArray.data_extract]
    simp [S, ByteArray.size]
    exact List.take_of_length_le (by rw [List.length_drop]; omega)
  rw [← h, S_of]

set_option maxHeartbeats 1000000 in
set_option maxRecDepth 100000 in
theorem add_any (m t : List UInt8) (w : World) (hK : KLaid w) (hm : m.length + t.length ≤ 9223372036854775807) :
    Calls Tryd.prog 53 #[.agg (ST m).toArray, .string (S t)] w fun e w' => e = .returned (.agg (ST (m ++ t)).toArray) ∧ Below w.heap.size w w' := by
  have HCL := hide (fun v b n W hv hb hW => closed_any v b n W hv hb hW)
  have HM := hide hm
  have HK := hide hK
  have hzs := zeroStream
  have HS := hide (ST_len m)
  generalize hcs : ST m = cs at *
  have HCS := hide hcs
  clear hm hK hcs
  go_enter Tryd.func53, Tryd.ntmps53
  go_wp2_with fail
  refine name_world fun W hW => ?_
  have B1 := hide (show Blk W w.heap.size 80 (ST (m ++ t.take 0)).toArray by rw [← hW.out, List.take_zero, List.append_nil, HCS.out]; exact (Blk.new w _ _).alloc _)
  have B2 := hide (show Blk W (w.heap.size + 1) 80 (SC W8 Z64 0).toArray by
    rw [← hW.out]
    have := Blk.new (w.alloc (.cells cs.toArray 80)) 80 (SC W8 Z64 0).toArray
    rw [show (w.alloc (.cells cs.toArray 80)).heap.size = w.heap.size + 1 by simp] at this
    exact this)
  have HW := hide (show Below w.heap.size w W by rw [← hW.out]; exact ((Below.refl _ _).alloc (Nat.le_refl _) _).alloc (by simp) _)
  have hWs : w.heap.size + 2 ≤ W.heap.size := by rw [← hW.out]; simp
  have HWS := hide hWs
  clear hW hWs hzs
  go_loopw [1] (fun s wr => ∃ k : Nat, k ≤ t.length ∧ s = .string (S (t.drop k)) ∧ Blk wr w.heap.size 80 (ST (m ++ t.take k)).toArray ∧ Blk wr (w.heap.size + 1) 80 (SC W8 Z64 0).toArray ∧ Below w.heap.size w wr ∧ w.heap.size + 2 ≤ wr.heap.size) (fun s _ => szOf s)
  case atStart => exact ⟨0, Nat.zero_le _, rfl, B1.out, B2.out, HW.out, HWS.out⟩
  case round =>
    obtain ⟨k, hk, rfl, hB1, hB2, hbel, hws⟩ := hrel
    by_cases hlt : k < t.length
    · have hm' : (m ++ t.take k).length = m.length + k := by rw [List.length_append, List.length_take]; omega
      have hmL := HM.out
      generalize hmm : m ++ t.take k = m' at *
      generalize hL : m'.length = L at *
      have hr : (L : Int) % 64 = ((L % 64 : Nat) : Int) := by omega
      have hr64 : L % 64 < 64 := Nat.mod_lt _ (by omega)
      have hrl : (Sha.restOf m').length = L % 64 := by rw [Sha.restOf_len, hL]
      have hv8 : (Sha.blocks Sha.H0 m' (m'.length / 64)).length = 8 := Sha.blocks_len _ _ _ rfl
      have hp64 : (Sha.pad64 (Sha.restOf m')).length = 64 := Sha.pad64_len _ (by rw [hrl]; omega)
      have hcl := len_cell hB1 hv8 hp64
      rw [hL] at hcl
      generalize hrr : L % 64 = r at *
      have hsz : (S (t.drop k)).size = t.length - k := by rw [S_size, List.length_drop]
      have hpos : (0 : Int) < (((S (t.drop k)).size : Nat) : Int) := by rw [hsz]; omega
      have H1 := hide hB1
      have H2 := hide hB2
      have HB := hide hbel
      obtain ⟨n, hn⟩ : ∃ n, n = min (t.length - k) (64 - r) := ⟨_, rfl⟩
      have hn1 : 0 < n := by omega
      have hn2 : n ≤ 64 - r := by omega
      have hn3 : n ≤ t.length - k := by omega
      have HT := hide (hB1.there_ (8 + r) n (by rw [ST_len]; omega))
      have HSZ := hide hsz
      have HL := hide hL
      have HMM := hide hmm
      have HRR := hide hrr
      have HRL := hide hrl
      have HV8 := hide hv8
      have HP := hide hp64
      have hlen : ((t.drop k).length) = t.length - k := List.length_drop
      have HLN := hide hlen
      have hLle : L ≤ 9223372036854775807 := by omega
      have HMP := hide hm'
      have r0 : (0 : Int) ≤ (r : Int) := by omega
      have r64 : (r : Int) ≤ 64 := by omega
      clear hm' hmL hB1 hB2 hbel hsz hL hmm hrr hrl hv8 hp64 hlen
      have hx : ((t.drop k).take n).length = n := by rw [List.length_take, List.length_drop]; omega
      have HN := hide hn
      have HX := hide hx
      have hszn : (n : Int) ≤ (((S (t.drop k)).size : Nat) : Int) := by rw [HSZ.out]; omega
      have n0 : (0 : Int) ≤ (n : Int) := by omega
      have hLn : (L : Int) + (n : Int) ≤ 9223372036854775807 := by have := HM.out; have := HMP.out; omega
      clear hn hx
      go_upto_region 4 with (with_reducible refine wpList_copy_text rfl (.tmp 15) (.tmp 16) 51 9 rfl 5 Tryd.underlying51 byteOne w.heap.size (8 + r) (64 - r) (64 - r) rfl (t.drop k) rfl n ?c1 HT.out ?_)
      case c1 => rw [HN.out, List.length_drop]
      intro X hX
      have K1 := hide (show Blk X w.heap.size 80 (SC (Sha.blocks Sha.H0 m' (m'.length / 64)) (Sha.pad64 (Sha.restOf m' ++ (t.drop k).take n)) L).toArray by
        have h1 := H1.out
        unfold ST at h1
        rw [HL.out] at h1
        have := added (x := (t.drop k).take n) (HL.out ▸ h1) HV8.out (by rw [HRL.out, HX.out]; omega)
        rw [HRL.out, hX.out] at this
        exact HL.out ▸ this)
      have K2 := hide (show Blk X (w.heap.size + 1) 80 (SC W8 Z64 0).toArray by rw [← hX.out]; exact H2.out.farCells _ _ (by omega))
      have KB := hide (show Below w.heap.size w X by rw [← hX.out]; exact below_setCells (Nat.le_refl _) _ _ _ HB.out)
      have hXs : w.heap.size + 2 ≤ X.heap.size := by have := (below_setCells (B := w.heap.size) (b := w.heap.size) (Nat.le_refl _) (BV ((t.drop k).take n)) (8 + r) wr (Below.refl w.heap.size wr)).size; rw [hX.out] at this; omega
      have hcl' := len_cell K1.out HV8.out (Sha.pad64_len _ (by rw [List.length_append, HRL.out, HX.out]; omega))
      have hfr := K1.out.frozen 72
      clear hX hcl H1 H2 HB hws HT
      have hext := S_drop (t.drop k) n
      rw [List.drop_drop] at hext
      go_upto_region 6 with fail
      refine name_world fun Y hY => ?_
      have J1 := hide (show Blk Y w.heap.size 80 (SC (Sha.blocks Sha.H0 m' (m'.length / 64)) (Sha.pad64 (Sha.restOf m' ++ (t.drop k).take n)) (L + n)).toArray by
        rw [← hY.out]
        have := len_set K1.out HV8.out (Sha.pad64_len _ (by rw [List.length_append, HRL.out, HX.out]; omega)) (L + n)
        rwa [show (((L + n : Nat) : Int)) = (L : Int) + (n : Int) by omega] at this)
      have J2 := hide (show Blk Y (w.heap.size + 1) 80 (SC W8 Z64 0).toArray by rw [← hY.out]; exact K2.out.far (by show w.heap.size + 1 ≠ w.heap.size; omega) _)
      have JB := hide (show Below w.heap.size w Y by rw [← hY.out]; exact KB.out.setCell (by show w.heap.size ≤ w.heap.size; omega) _)
      have hYs : w.heap.size + 2 ≤ Y.heap.size := by rw [← hY.out]; simpa using hXs
      have hcy := len_cell J1.out HV8.out (Sha.pad64_len _ (by rw [List.length_append, HRL.out, HX.out]; omega))
      rw [show (((L + n : Nat) : Int)) = (L : Int) + (n : Int) by omega] at hcy
      have htk : m ++ t.take (k + n) = m' ++ (t.drop k).take n := by rw [← HMM.out, List.append_assoc, List.take_add]
      have HTK := hide htk
      have hmlen : (m' ++ (t.drop k).take n).length = L + n := by rw [List.length_append, HX.out, HL.out]
      have HML := hide hmlen
      have hmeas : (S (t.drop (k + n))).size < (S (t.drop k)).size := by rw [S_size, S_size, List.length_drop, List.length_drop]; omega
      clear hY hcl' hfr K1 K2 KB hXs htk hmlen
      by_cases hfull : r + n = 64
      · have hrem : ((L : Int) + (n : Int)) % 64 = 0 := by have := HRR.out; omega
        have hres : ST (m ++ t.take (k + n)) = SC (Sha.compress (Sha.blocks Sha.H0 m' (m'.length / 64)) (Sha.pad64 (Sha.restOf m' ++ (t.drop k).take n))) Z64 (L + n) := by
          have hx64 : m'.length % 64 + ((t.drop k).take n).length = 64 := by rw [HL.out, HRR.out, HX.out]; exact hfull
          obtain ⟨a1, a2⟩ := Sha.add_full m' ((t.drop k).take n) hx64
          rw [HTK.out]
          unfold ST
          rw [a1, a2, HML.out]
          have hpad : Sha.pad64 (Sha.restOf m' ++ (t.drop k).take n) = Sha.restOf m' ++ (t.drop k).take n := by
            unfold Sha.pad64
            rw [List.length_append, HRL.out, HX.out, hfull]
            simp
          rw [hpad]
          rfl
        have HRS := hide hres
        have C := hide (HCL.out (Sha.blocks Sha.H0 m' (m'.length / 64)) (Sha.pad64 (Sha.restOf m' ++ (t.drop k).take n)) (L + n) Y HV8.out (Sha.pad64_len _ (by rw [List.length_append, HRL.out, HX.out]; omega)) (HK.out.below JB.out (Nat.le_refl _)))
        have hl1 : (SC (Sha.blocks Sha.H0 m' (m'.length / 64)) (Sha.pad64 (Sha.restOf m' ++ (t.drop k).take n)) (L + n)).length = 73 := by rw [SC_len, HV8.out, Sha.pad64_len _ (by rw [List.length_append, HRL.out, HX.out]; omega)]
        have hl2 : (SC (Sha.compress (Sha.blocks Sha.H0 m' (m'.length / 64)) (Sha.pad64 (Sha.restOf m' ++ (t.drop k).take n))) Z64 (L + n)).length = 73 := by rw [SC_len, compress_len _ _ HV8.out]; rfl
        have hone2 := SC_one (Sha.compress (Sha.blocks Sha.H0 m' (m'.length / 64)) (Sha.pad64 (Sha.restOf m' ++ (t.drop k).take n))) Z64 (L + n)
        generalize SC (Sha.compress (Sha.blocks Sha.H0 m' (m'.length / 64)) (Sha.pad64 (Sha.restOf m' ++ (t.drop k).take n))) Z64 (L + n) = c2 at *
        generalize SC (Sha.blocks Sha.H0 m' (m'.length / 64)) (Sha.pad64 (Sha.restOf m' ++ (t.drop k).take n)) (L + n) = c1 at *
        have HL1 := hide hl1
        have HL2 := hide hl2
        have HO2 := hide hone2
        have G1 := hide (show Y.heap[w.heap.size]? = some (.cells c1.toArray 80 (0, 0)) from J1.out)
        clear hres hl1 hl2 hone2
        go_wp2_with (first
          | (with_reducible refine wpList_load_row rfl 80 (.tmp 2) rfl w.heap.size rfl 80 c1.toArray (0, 0) _ G1.out Tryd.underlying80 rfl ?f1 ?_)
          | (go_at_call 65; refine (unhide C).mono ?_; rintro e Z ⟨rfl, hbz⟩; have HBZ := hide hbz; have G2 := hide (show Z.heap[w.heap.size]? = some (.cells c1.toArray 80 (0, 0)) from J1.out.below hbz (by omega)); clear hbz)
          | (with_reducible refine wpList_store_row rfl 80 (.tmp 2) (.tmp 32) rfl w.heap.size c2.toArray rfl rfl 80 _ G2.out ?g1 ?g2 ?g3 ?_))
        case f1 => rw [List.size_toArray, HL1.out]; exact streamSize
        case g1 => rw [List.size_toArray, HL2.out]; exact streamSize
        case g2 => rw [List.size_toArray, List.size_toArray, HL1.out, HL2.out]
        case g3 => exact all_oneCell_toArray HO2.out
        go_simp
        go_roundw
        case rel =>
          refine ⟨k + n, by omega, rfl, ?_, ?_, ?_, ?_⟩
          · rw [HRS.out]; exact setRow_heap Z w.heap.size _ _ _ _ G2.out
          · exact (J2.out.below HBZ.out (by omega)).otherRow (by omega) _
          · exact below_setRow (JB.out.trans (HBZ.out.mono (by omega))) (Nat.le_refl _) _
          · have := HBZ.out.size; simp; omega
        case measure => exact hmeas
      · have hrem : ¬ ((L : Int) + (n : Int)) % 64 = 0 := by have := HRR.out; omega
        have hres : ST (m ++ t.take (k + n)) = SC (Sha.blocks Sha.H0 m' (m'.length / 64)) (Sha.pad64 (Sha.restOf m' ++ (t.drop k).take n)) (L + n) := by
          have hx64 : m'.length % 64 + ((t.drop k).take n).length < 64 := by rw [HL.out, HRR.out, HX.out]; omega
          obtain ⟨a1, a2⟩ := Sha.add_part m' ((t.drop k).take n) hx64
          rw [HTK.out]
          unfold ST
          rw [a1, a2, HML.out]
        have HRS := hide hres
        clear hres
        go_wp2
        refine ⟨⟨k + n, by omega, rfl, ?_, ?_, ?_, ?_⟩, hmeas⟩
        · rw [HRS.out]; exact J1.out
        · exact J2.out
        · exact JB.out
        · exact hYs
    · obtain rfl : k = t.length := by omega
      rw [List.take_length] at hB1
      have hneg : ¬ (0 : Int) < (((S (t.drop t.length)).size : Nat) : Int) := by rw [S_size, List.length_drop]; omega
      have hlen := ST_len (m ++ t)
      have hone : ∀ x ∈ ST (m ++ t), x.oneCell' = true := SC_one _ _ _
      generalize hout : ST (m ++ t) = out at *
      have HLN := hide hlen
      have H1 := hide hone
      have HOUT := hide hout
      have D1 := hide (show wr.heap[w.heap.size]? = some (.cells out.toArray 80 (0, 0)) from hB1)
      have D2 := hide (show wr.heap[w.heap.size + 1]? = some (.cells (SC W8 Z64 0).toArray 80 (0, 0)) from hB2)
      have HBL := hide hbel
      clear hB1 hB2 hbel hlen hone hout
      go_wp2_with (first | (with_reducible refine wpList_load_row rfl 80 (.tmp 2) rfl w.heap.size rfl 80 out.toArray (0, 0) _ D1.out Tryd.underlying80 rfl ?f1 ?_) | (with_reducible refine wpList_store_row rfl 80 (.tmp 4) (.tmp 33) rfl (w.heap.size + 1) out.toArray rfl rfl 80 _ D2.out ?g1 ?g2 ?g3 ?_))
      case f1 => first | (rw [List.size_toArray, HLN.out]; exact streamSize) | (rw [HLN.out]; exact Option.map_eq_some_iff.1 streamSize)
      case g1 => first | (rw [List.size_toArray, HLN.out]; exact streamSize) | (rw [HLN.out]; exact Option.map_eq_some_iff.1 streamSize)
      case g2 => first | (rw [show out.toArray.size = 73 by rw [List.size_toArray, HLN.out]]; rfl) | (rw [HLN.out]; rfl)
      case g3 => first | exact all_oneCell_toArray H1.out | exact H1.out
      have hload : (loadVar 80 ⟨w.heap.size + 1, 0, none⟩).run Tryd.prog (wr.setRow (w.heap.size + 1) out.toArray) = .ok (.agg out.toArray) (wr.setRow (w.heap.size + 1) out.toArray) :=
        run_loadVar_row _ _ _ _ _ _ _ (setRow_heap wr (w.heap.size + 1) _ out.toArray _ _ D2.out) Tryd.underlying80 rfl (by rw [List.size_toArray, HLN.out]; exact streamSize)
      exact bodyPost_ret (v := .agg out.toArray) (results_cell0 Tryd.results53 _ _ ⟨w.heap.size + 1, 0, none⟩ _ rfl hload) rfl ⟨by rw [HOUT.out], below_setRow HBL.out (by omega) _⟩
end Go.Proofs.YtedgjpoejoepjaaDoor
