/-
  A text is added to a stream, by contract.
-/
import Derived.Test.YtjnnohghgkjhcaaDoorM14
import Derived.Test.YtjnnohghgkjhcaaDoorM2
import Derived.Deep.DrawnRows
namespace Go.Proofs.YtjnnohghgkjhcaaDoor
open Go.RowKit
set_option linter.unusedVariables false
set_option linter.unusedSimpArgs false
def szOf : Value → Nat
 | .string b => b.size
 | _ => 0
theorem S_drop (l : List UInt8) (n : Nat) : (S l).extract n (S l).size = S (l.drop n) := by
 have h : ((S l).extract n (S l).size).data.toList = l.drop n := by
  rw [ByteArray.data_extract]
  simp [S, ByteArray.size]
  exact List.take_of_length_le (by rw [List.length_drop]; omega)
 rw [← h, S_of]
set_option maxHeartbeats 1000000 in
set_option maxRecDepth 100000 in
theorem add_any (m t : List UInt8) (w : World) (hK : KLaid w) (hm : m.length + t.length ≤ 9223372036854775807) :
  Calls Tryd.prog 31 #[.agg (ST m).toArray, .string (S t)] w fun e w' => e = .returned (.agg (ST (m ++ t)).toArray) ∧ Below w.heap.size w w' := by
 have HCL := hide (fun v b n W hv hb hW => closed_any v b n W hv hb hW)
 have HM := hide hm
 have HK := hide hK
 have hzs := zeroStream
 have HS := hide (ST_len m)
 generalize hcs : ST m = cs at *
 have HCS := hide hcs
 clear hm hK hcs
 go_enter Tryd.func31, Tryd.ntmps31
 go_wp2_with fail
 refine name_worldh fun W hW => ?_
 have B1 := hide (show Blk W w.heap.size 69 (ST (m ++ t.take 0)).toArray by rw [← hW.out, List.take_zero, List.append_nil, HCS.out]; exact (Blk.new w _ _).alloc _)
 have B2 := hide (show Blk W (w.heap.size + 1) 69 (SCh W8 Z64 0).toArray by
  rw [← hW.out]
  have := Blk.new (w.alloc (.cells cs.toArray 69)) 69 (SCh W8 Z64 0).toArray
  rw [show (w.alloc (.cells cs.toArray 69)).heap.size = w.heap.size + 1 by simp] at this
  exact this)
 have HW := hide (show Below w.heap.size w W by rw [← hW.out]; exact ((Below.refl _ _).alloc (Nat.le_refl _) _).alloc (by simp) _)
 have hWs : w.heap.size + 2 ≤ W.heap.size := by rw [← hW.out]; simp
 have HWS := hide hWs
 clear hW hWs hzs
 go_loopw [1] (fun s wr => ∃ k : Nat, k ≤ t.length ∧ s = .string (S (t.drop k)) ∧ Blk wr w.heap.size 69 (ST (m ++ t.take k)).toArray ∧ Blk wr (w.heap.size + 1) 69 (SCh W8 Z64 0).toArray ∧ Below w.heap.size w wr ∧ w.heap.size + 2 ≤ wr.heap.size) (fun s _ => szOf s)
 case atStart => exact ⟨0, Nat.zero_le _, rfl, B1.out, B2.out, HW.out, HWS.out⟩
 case round =>
  obtain ⟨k, hk, rfl, hB1, hB2, hbel, hws⟩ := hrel
  by_cases hlt : k < t.length
  ·have hm' : (m ++ t.take k).length = m.length + k := by rw [List.length_append, List.length_take]; omega
   have hmL := HM.out
   generalize hmm : m ++ t.take k = m' at *
   generalize hL : m'.length = L at *
   have hr : (L : Int) % 64 = ((L % 64 : Nat) : Int) := by omega
   have hr64 : L % 64 < 64 := Nat.mod_lt _ (by omega)
   have hrl : (Sha.restOf m').length = L % 64 := by rw [Sha.restOf_len, hL]
   have hv8 : (Sha.blocks Sha.H0 m' (m'.length / 64)).length = 8 := Sha.blocks_len _ _ _ rfl
   have hp64 : (Sha.pad64 (Sha.restOf m')).length = 64 := Sha.pad64_len _ (by rw [hrl]; omega)
   have hcl := len_cell hB1 hv8 hp64
   rw [hL] at hcl
   generalize hrr : L % 64 = r at *
   have hsz : (S (t.drop k)).size = t.length - k := by rw [S_size, List.length_drop]
   have hpos : (0 : Int) < (((S (t.drop k)).size : Nat) : Int) := by rw [hsz]; omega
   have H1 := hide hB1
   have H2 := hide hB2
   have HB := hide hbel
   obtain ⟨n, hn⟩ : ∃ n, n = min (t.length - k) (64 - r) := ⟨_, rfl⟩
   have hn1 : 0 < n := by omega
   have hn2 : n ≤ 64 - r := by omega
   have hn3 : n ≤ t.length - k := by omega
   have HT := hide (hB1.there_ (8 + r) n (by rw [ST_len]; omega))
   have HSZ := hide hsz
   have HL := hide hL
   have HMM := hide hmm
   have HRR := hide hrr
   have HRL := hide hrl
   have HV8 := hide hv8
   have HP := hide hp64
   have hlen : ((t.drop k).length) = t.length - k := List.length_drop
   have HLN := hide hlen
   have hLle : L ≤ 9223372036854775807 := by omega
   have HMP := hide hm'
   have r0 : (0 : Int) ≤ (r : Int) := by omega
   have r64 : (r : Int) ≤ 64 := by omega
   clear hm' hmL hB1 hB2 hbel hsz hL hmm hrr hrl hv8 hp64 hlen
   have hx : ((t.drop k).take n).length = n := by rw [List.length_take, List.length_drop]; omega
   have HN := hide hn
   have HX := hide hx
   have hszn : (n : Int) ≤ (((S (t.drop k)).size : Nat) : Int) := by rw [HSZ.out]; omega
   have n0 : (0 : Int) ≤ (n : Int) := by omega
   have hLn : (L : Int) + (n : Int) ≤ 9223372036854775807 := by have := HM.out; have := HMP.out; omega
   clear hn hx
   go_upto_region 4 with (with_reducible refine wpList_copy_text rfl (.tmp 15) (.tmp 16) 23 9 rfl 5 Tryd.underlying23 byteOne w.heap.size (8 + r) (64 - r) (64 - r) rfl (t.drop k) rfl n ?c1 HT.out ?_)
   case c1 => rw [HN.out, List.length_drop]
   intro X hX
   have K1 := hide (show Blk X w.heap.size 69 (SCh (Sha.blocks Sha.H0 m' (m'.length / 64)) (Sha.pad64 (Sha.restOf m' ++ (t.drop k).take n)) L).toArray by
    have h1 := H1.out
    unfold ST at h1
    rw [HL.out] at h1
    have := added (x := (t.drop k).take n) (HL.out ▸ h1) HV8.out (by rw [HRL.out, HX.out]; omega)
    rw [HRL.out, hX.out] at this
    exact HL.out ▸ this)
   have K2 := hide (show Blk X (w.heap.size + 1) 69 (SCh W8 Z64 0).toArray by rw [← hX.out]; exact H2.out.farCells _ _ (by omega))
   have KB := hide (show Below w.heap.size w X by rw [← hX.out]; exact below_setCells (Nat.le_refl _) _ _ _ HB.out)
   have hXs : w.heap.size + 2 ≤ X.heap.size := by have := (below_setCells (B := w.heap.size) (b := w.heap.size) (Nat.le_refl _) (BV ((t.drop k).take n)) (8 + r) wr (Below.refl w.heap.size wr)).size; rw [hX.out] at this; omega
   have hcl' := len_cell K1.out HV8.out (Sha.pad64_len _ (by rw [List.length_append, HRL.out, HX.out]; omega))
   have hfr := K1.out.frozen 72
   clear hX hcl H1 H2 HB hws HT
   have hext := S_drop (t.drop k) n
   rw [List.drop_drop] at hext
   go_upto_region 6 with fail
   refine name_worldh fun Y hY => ?_
   have J1 := hide (show Blk Y w.heap.size 69 (SCh (Sha.blocks Sha.H0 m' (m'.length / 64)) (Sha.pad64 (Sha.restOf m' ++ (t.drop k).take n)) (L + n)).toArray by
    rw [← hY.out]
    have := len_set K1.out HV8.out (Sha.pad64_len _ (by rw [List.length_append, HRL.out, HX.out]; omega)) (L + n)
    rwa [show (((L + n : Nat) : Int)) = (L : Int) + (n : Int) by omega] at this)
   have J2 := hide (show Blk Y (w.heap.size + 1) 69 (SCh W8 Z64 0).toArray by rw [← hY.out]; exact K2.out.far (by show w.heap.size + 1 ≠ w.heap.size; omega) _)
   have JB := hide (show Below w.heap.size w Y by rw [← hY.out]; exact KB.out.setCell (by show w.heap.size ≤ w.heap.size; omega) _)
   have hYs : w.heap.size + 2 ≤ Y.heap.size := by rw [← hY.out]; simpa using hXs
   have hcy := len_cell J1.out HV8.out (Sha.pad64_len _ (by rw [List.length_append, HRL.out, HX.out]; omega))
   rw [show (((L + n : Nat) : Int)) = (L : Int) + (n : Int) by omega] at hcy
   have htk : m ++ t.take (k + n) = m' ++ (t.drop k).take n := by rw [← HMM.out, List.append_assoc, List.take_add]
   have HTK := hide htk
   have hmlen : (m' ++ (t.drop k).take n).length = L + n := by rw [List.length_append, HX.out, HL.out]
   have HML := hide hmlen
   have hmeas : (S (t.drop (k + n))).size < (S (t.drop k)).size := by rw [S_size, S_size, List.length_drop, List.length_drop]; omega
   clear hY hcl' hfr K1 K2 KB hXs htk hmlen
   by_cases hfull : r + n = 64
   ·have hrem : ((L : Int) + (n : Int)) % 64 = 0 := by have := HRR.out; omega
    have hres : ST (m ++ t.take (k + n)) = SCh (Sha.compress (Sha.blocks Sha.H0 m' (m'.length / 64)) (Sha.pad64 (Sha.restOf m' ++ (t.drop k).take n))) Z64 (L + n) := by
     have hx64 : m'.length % 64 + ((t.drop k).take n).length = 64 := by rw [HL.out, HRR.out, HX.out]; exact hfull
     obtain ⟨a1, a2⟩ := Sha.add_full m' ((t.drop k).take n) hx64
     rw [HTK.out]
     unfold ST
     rw [a1, a2, HML.out]
     have hpad : Sha.pad64 (Sha.restOf m' ++ (t.drop k).take n) = Sha.restOf m' ++ (t.drop k).take n := by
      unfold Sha.pad64
      rw [List.length_append, HRL.out, HX.out, hfull]
      simp
     rw [hpad]
     rfl
    have HRS := hide hres
    have C := hide (HCL.out (Sha.blocks Sha.H0 m' (m'.length / 64)) (Sha.pad64 (Sha.restOf m' ++ (t.drop k).take n)) (L + n) Y HV8.out (Sha.pad64_len _ (by rw [List.length_append, HRL.out, HX.out]; omega)) (HK.out.below JB.out (Nat.le_refl _)))
    have hl1 : (SCh (Sha.blocks Sha.H0 m' (m'.length / 64)) (Sha.pad64 (Sha.restOf m' ++ (t.drop k).take n)) (L + n)).length = 73 := by rw [SC_lenh, HV8.out, Sha.pad64_len _ (by rw [List.length_append, HRL.out, HX.out]; omega)]
    have hl2 : (SCh (Sha.compress (Sha.blocks Sha.H0 m' (m'.length / 64)) (Sha.pad64 (Sha.restOf m' ++ (t.drop k).take n))) Z64 (L + n)).length = 73 := by rw [SC_lenh, compress_len _ _ HV8.out]; rfl
    have hone2 := SC_oneh (Sha.compress (Sha.blocks Sha.H0 m' (m'.length / 64)) (Sha.pad64 (Sha.restOf m' ++ (t.drop k).take n))) Z64 (L + n)
    generalize SCh (Sha.compress (Sha.blocks Sha.H0 m' (m'.length / 64)) (Sha.pad64 (Sha.restOf m' ++ (t.drop k).take n))) Z64 (L + n) = c2 at *
    generalize SCh (Sha.blocks Sha.H0 m' (m'.length / 64)) (Sha.pad64 (Sha.restOf m' ++ (t.drop k).take n)) (L + n) = c1 at *
    have HL1 := hide hl1
    have HL2 := hide hl2
    have HO2 := hide hone2
    have G1 := hide (show Y.heap[w.heap.size]? = some (.cells c1.toArray 69 (0, 0)) from J1.out)
    clear hres hl1 hl2 hone2
    go_wp2_with (first
     | (with_reducible refine wpList_load_row rfl 69 (.tmp 2) rfl w.heap.size rfl 69 c1.toArray (0, 0) _ G1.out Tryd.underlying69 rfl ?f1 ?_)
     | (go_at_call 54; refine (unhide C).mono ?_; rintro e Z ⟨rfl, hbz⟩; have HBZ := hide hbz; have G2 := hide (show Z.heap[w.heap.size]? = some (.cells c1.toArray 69 (0, 0)) from J1.out.below hbz (by omega)); clear hbz)
     | (with_reducible refine wpList_store_row rfl 69 (.tmp 2) (.tmp 32) rfl w.heap.size c2.toArray rfl rfl 69 _ G2.out ?g1 ?g2 ?g3 ?_))
    case f1 => rw [List.size_toArray, HL1.out]; exact streamSize
    case g1 => rw [List.size_toArray, HL2.out]; exact streamSize
    case g2 => rw [List.size_toArray, List.size_toArray, HL1.out, HL2.out]
    case g3 => exact all_oneCell_toArray HO2.out
    go_simp
    go_roundw
    case rel =>
     refine ⟨k + n, by omega, rfl, ?_, ?_, ?_, ?_⟩
     ·rw [HRS.out]; exact setRow_heap Z w.heap.size _ _ _ _ G2.out
     ·exact (J2.out.below HBZ.out (by omega)).otherRow (by omega) _
     ·exact below_setRowh (JB.out.trans (HBZ.out.mono (by omega))) (Nat.le_refl _) _
     ·have := HBZ.out.size; simp; omega
    case measure => exact hmeas
   ·have hrem : ¬ ((L : Int) + (n : Int)) % 64 = 0 := by have := HRR.out; omega
    have hres : ST (m ++ t.take (k + n)) = SCh (Sha.blocks Sha.H0 m' (m'.length / 64)) (Sha.pad64 (Sha.restOf m' ++ (t.drop k).take n)) (L + n) := by
     have hx64 : m'.length % 64 + ((t.drop k).take n).length < 64 := by rw [HL.out, HRR.out, HX.out]; omega
     obtain ⟨a1, a2⟩ := Sha.add_part m' ((t.drop k).take n) hx64
     rw [HTK.out]
     unfold ST
     rw [a1, a2, HML.out]
    have HRS := hide hres
    clear hres
    go_wp2
    refine ⟨⟨k + n, by omega, rfl, ?_, ?_, ?_, ?_⟩, hmeas⟩
    ·rw [HRS.out]; exact J1.out
    ·exact J2.out
    ·exact JB.out
    ·exact hYs
  ·obtain rfl : k = t.length := by omega
   rw [List.take_length] at hB1
   have hneg : ¬ (0 : Int) < (((S (t.drop t.length)).size : Nat) : Int) := by rw [S_size, List.length_drop]; omega
   have hlen := ST_len (m ++ t)
   have hone : ∀ x ∈ ST (m ++ t), x.oneCell' = true := SC_oneh _ _ _
   generalize hout : ST (m ++ t) = out at *
   have HLN := hide hlen
   have H1 := hide hone
   have HOUT := hide hout
   have D1 := hide (show wr.heap[w.heap.size]? = some (.cells out.toArray 69 (0, 0)) from hB1)
   have D2 := hide (show wr.heap[w.heap.size + 1]? = some (.cells (SCh W8 Z64 0).toArray 69 (0, 0)) from hB2)
   have HBL := hide hbel
   clear hB1 hB2 hbel hlen hone hout
   go_wp2_with (first | (with_reducible refine wpList_load_row rfl 69 (.tmp 2) rfl w.heap.size rfl 69 out.toArray (0, 0) _ D1.out Tryd.underlying69 rfl ?f1 ?_) | (with_reducible refine wpList_store_row rfl 69 (.tmp 4) (.tmp 33) rfl (w.heap.size + 1) out.toArray rfl rfl 69 _ D2.out ?g1 ?g2 ?g3 ?_))
   case f1 => first | (rw [List.size_toArray, HLN.out]; exact streamSize) | (rw [HLN.out]; exact Option.map_eq_some_iff.1 streamSize)
   case g1 => first | (rw [List.size_toArray, HLN.out]; exact streamSize) | (rw [HLN.out]; exact Option.map_eq_some_iff.1 streamSize)
   case g2 => first | (rw [show out.toArray.size = 73 by rw [List.size_toArray, HLN.out]]; rfl) | (rw [HLN.out]; rfl)
   case g3 => first | exact all_oneCell_toArray H1.out | exact H1.out
   have hload : (loadVar 69 ⟨w.heap.size + 1, 0, none⟩).run Tryd.prog (wr.setRow (w.heap.size + 1) out.toArray) = .ok (.agg out.toArray) (wr.setRow (w.heap.size + 1) out.toArray) :=
    run_loadVar_row _ _ _ _ _ _ _ (setRow_heap wr (w.heap.size + 1) _ out.toArray _ _ D2.out) Tryd.underlying69 rfl (by rw [List.size_toArray, HLN.out]; exact streamSize)
   exact bodyPost_ret (v := .agg out.toArray) (results_cell0h Tryd.results31 _ _ ⟨w.heap.size + 1, 0, none⟩ _ rfl hload) rfl ⟨by rw [HOUT.out], below_setRowh HBL.out (by omega) _⟩
namespace Sha
theorem be8_len (n : Nat) : (be8 n).length = 8 := by simp [be8]
theorem be8_get (n j : Nat) (h : j < 8) : (be8 n)[j]? = some (UInt8.ofNat (n / 2 ^ (56 - 8 * j))) := by
 simp only [be8, List.getElem?_map, List.getElem?_range h, Option.map_some]
theorem fin_near (m : List UInt8) (h : m.length % 64 < 56) (E : List UInt8) (hE : E = be8 (8 * m.length % 2 ^ 64)) :
  blocks H0 (pad m) ((pad m).length / 64) = compress (blocks H0 m (m.length / 64)) ((pad64 (restOf m ++ [128])).take 56 ++ E) := by
 have hr := restOf_len m
 have hel : E.length = 8 := by rw [hE, be8_len]
 have hz : (119 - m.length % 64) % 64 = 55 - m.length % 64 := by omega
 have hp : pad m = m ++ (128 :: List.replicate (55 - m.length % 64) 0 ++ E) := by unfold pad; rw [hz, ← hE]; simp
 rw [hp]
 obtain ⟨a1, _⟩ := add_full m (128 :: List.replicate (55 - m.length % 64) 0 ++ E) (by simp [hel]; omega)
 rw [a1]
 congr 1
 unfold pad64
 rw [List.length_append, hr, List.length_singleton, show 64 - (m.length % 64 + 1) = (55 - m.length % 64) + 8 by omega, ← List.replicate_append_replicate, ← List.append_assoc (restOf m ++ [128])]
 rw [List.take_left' (by simp [hr]; omega)]
 simp
theorem fin_far (m : List UInt8) (h : 56 ≤ m.length % 64) (E : List UInt8) (hE : E = be8 (8 * m.length % 2 ^ 64)) :
  blocks H0 (pad m) ((pad m).length / 64) = compress (compress (blocks H0 m (m.length / 64)) (pad64 (restOf m ++ [128]))) (Z64.take 56 ++ E) := by
 have hr := restOf_len m
 have h64 : m.length % 64 < 64 := Nat.mod_lt _ (by omega)
 have hel : E.length = 8 := by rw [hE, be8_len]
 have hz : (119 - m.length % 64) % 64 = 119 - m.length % 64 := by omega
 have hp : pad m = (m ++ (128 :: List.replicate (63 - m.length % 64) 0)) ++ (List.replicate 56 0 ++ E) := by
  unfold pad
  rw [hz, ← hE, show 119 - m.length % 64 = (63 - m.length % 64) + 56 by omega, ← List.replicate_append_replicate]
  simp
 rw [hp]
 obtain ⟨a1, a2⟩ := add_full m (128 :: List.replicate (63 - m.length % 64) 0) (by simp; omega)
 have hl : (m ++ (128 :: List.replicate (63 - m.length % 64) 0)).length % 64 = 0 := by
  have := restOf_len (m ++ (128 :: List.replicate (63 - m.length % 64) 0))
  rw [a2] at this
  exact this.symm
 obtain ⟨b1, _⟩ := add_full (m ++ (128 :: List.replicate (63 - m.length % 64) 0)) (List.replicate 56 0 ++ E) (by rw [hl]; simp [hel])
 rw [b1, a1, a2, List.nil_append]
 have e1 : pad64 (restOf m ++ [128]) = restOf m ++ (128 :: List.replicate (63 - m.length % 64) 0) := by
  unfold pad64
  rw [List.length_append, hr, List.length_singleton, show 64 - (m.length % 64 + 1) = 63 - m.length % 64 by omega]
  simp
 rw [e1]
 rfl
def tailed (A E : List UInt8) (i : Nat) : List UInt8 := A.take (64 - i) ++ E.drop (8 - i)
theorem tailed_zero (A E : List UInt8) (hA : A.length = 64) (hE : E.length = 8) : tailed A E 0 = A := by
 unfold tailed
 rw [List.take_of_length_le (by omega), List.drop_eq_nil_of_le (by omega), List.append_nil]
theorem tailed_eight (A E : List UInt8) : tailed A E 8 = A.take 56 ++ E := rfl
theorem tailed_len (A E : List UInt8) (i : Nat) (hA : A.length = 64) (hE : E.length = 8) (hi : i ≤ 8) : (tailed A E i).length = 64 := by unfold tailed; simp; omega
theorem tailed_succ (A E : List UInt8) (i : Nat) (hA : A.length = 64) (hE : E.length = 8) (hi : i < 8) (x : UInt8) (hx : E[7 - i]? = some x) : (tailed A E i).set (63 - i) x = tailed A E (i + 1) := by
 unfold tailed
 have hl : (A.take (64 - i)).length = 64 - i := by simp; omega
 have e1 : A.take (64 - i) = A.take (63 - i) ++ [A[63 - i]'(by omega)] := by
  rw [show 64 - i = (63 - i) + 1 by omega, List.take_succ_eq_append_getElem (by omega)]
 have hx' : E[7 - i]'(by omega) = x := by rw [List.getElem?_eq_getElem (by omega)] at hx; injection hx
 have e2 : E.drop (8 - (i + 1)) = x :: E.drop (8 - i) := by
  rw [show 8 - (i + 1) = 7 - i by omega, List.drop_eq_getElem_cons (by omega), hx', show 7 - i + 1 = 8 - i by omega]
 have hl2 : (A.take (63 - i)).length = 63 - i := by simp; omega
 rw [e1, e2, List.append_assoc, List.set_append_right _ _ (by omega), hl2, Nat.sub_self, show 64 - (i + 1) = 63 - i by omega]
 rfl
theorem bytes_len (v : List UInt32) : (bytes v).length = 4 * v.length := by
 induction v with
 | nil => rfl
 | cons x r ih => simp only [bytes, List.flatMap_cons, List.length_append, List.length_cons] at *; simp at *; omega
theorem bytes_get (v : List UInt32) : ∀ k, k < 4 * v.length → (bytes v)[k]? = some (UInt8.ofNat ((v.getD (k / 4) 0).toNat / 2 ^ (24 - 8 * (k % 4)))) := by
 induction v with
 | nil => intro k h; simp at h
 | cons x r ih =>
  intro k h
  have hb : bytes (x :: r) = [UInt8.ofNat (x.toNat / 2 ^ 24), UInt8.ofNat (x.toNat / 2 ^ 16), UInt8.ofNat (x.toNat / 2 ^ 8), UInt8.ofNat x.toNat] ++ bytes r := rfl
  rw [hb]
  rcases Nat.lt_or_ge k 4 with hk | hk
  ·rw [List.getElem?_append_left (by simpa using hk)]
   match k, hk with
   | 0, _ => rfl
   | 1, _ => rfl
   | 2, _ => rfl
   | 3, _ => simp
   | _ + 4, h => exact absurd h (by omega)
  ·rw [List.getElem?_append_right (by simpa using hk)]
   have := ih (k - 4) (by simp at h; omega)
   rw [show ([UInt8.ofNat (x.toNat / 2 ^ 24), UInt8.ofNat (x.toNat / 2 ^ 16), UInt8.ofNat (x.toNat / 2 ^ 8), UInt8.ofNat x.toNat] : List UInt8).length = 4 from rfl, this]
   rw [show k / 4 = (k - 4) / 4 + 1 by omega, show k % 4 = (k - 4) % 4 by omega]
   rfl
end Sha
theorem block_set {w : World} {g : Nat} {t : TypeId} {v : List UInt32} {l : List UInt8} {n : Nat} (h : Blk w g t (SCh v l n).toArray) (hv : v.length = 8) (hl : l.length = 64) (j : Nat) (hj : j < 64) (x : UInt8) :
  Blk (w.setCell ⟨g, 8 + j, none⟩ (.int .u8 (x.toNat : Int))) g t (SCh v (l.set j x) n).toArray := by
 have := h.set_ (8 + j) (.int .u8 (x.toNat : Int))
 rw [List.setIfInBounds_toArray] at this
 unfold SCh at this ⊢
 rw [List.set_append_right _ _ (by rw [UV_len]; omega), UV_len, hv, show 8 + j - 8 = j by omega, List.set_append_left _ _ (by rw [BV_len]; omega)] at this
 have e : (BV l).set j (.int .u8 (x.toNat : Int)) = BV (l.set j x) := by simp [BV, List.map_set]
 rw [e] at this
 exact this
theorem value_cell {w : World} {g : Nat} {t : TypeId} {v : List UInt32} {l : List UInt8} {n : Nat} (h : Blk w g t (SCh v l n).toArray) (k : Nat) (hk : k < v.length) : w.cell? ⟨g, k, none⟩ = some (U (v.getD k 0)) := by
 rw [h.cell, List.getElem?_toArray]
 unfold SCh
 rw [List.getElem?_append_left (by rw [UV_len]; omega), UV_get v k hk]
 simp [List.getD, hk]
theorem block_cell {w : World} {g : Nat} {t : TypeId} {v : List UInt32} {l : List UInt8} {n : Nat} (h : Blk w g t (SCh v l n).toArray) (hv : v.length = 8) (j : Nat) (hj : j < l.length) : w.cell? ⟨g, 8 + j, none⟩ = some (.int .u8 ((l[j].toNat : Nat) : Int)) := by
 rw [h.cell, List.getElem?_toArray]
 unfold SCh
 rw [List.getElem?_append_right (by rw [UV_len]; omega), UV_len, hv, show 8 + j - 8 = j by omega, List.getElem?_append_left (by rw [BV_len]; omega), BV_get l j hj]
def Z32 : List UInt8 := List.replicate 32 0
theorem zero32 (W : World) : (zeroValue 72).run Tryd.prog W = .ok (.agg (BV Z32).toArray) W := by kernel_rfl
theorem size32 : (Tryd.prog.info? 72).map (·.size) = some 32 := by kernel_rfl
theorem bytes_set (D : List UInt8) (k : Nat) (hD : D.length = 32) (hk : k < 32) (x : UInt8) (hx : D[k]? = some x) : (BV (D.take k ++ Z32.drop k)).set k (.int .u8 (x.toNat : Int)) = BV (D.take (k + 1) ++ Z32.drop (k + 1)) := by
 have e : (BV (D.take k ++ Z32.drop k)).set k (.int .u8 (x.toNat : Int)) = BV ((D.take k ++ Z32.drop k).set k x) := by simp [BV, List.map_set]
 have hz : Z32.length = 32 := rfl
 have hl : (D.take k).length = k := by rw [List.length_take]; omega
 have hx' : D[k]'(by omega) = x := by rw [List.getElem?_eq_getElem (by omega)] at hx; injection hx
 rw [e, List.set_append_right _ _ (by omega), hl, Nat.sub_self, List.drop_eq_getElem_cons (by omega : k < Z32.length), List.set_cons_zero, List.take_succ_eq_append_getElem (by omega : k < D.length), List.append_assoc, hx']
 rfl
theorem shr_byte (L i : Nat) (hL : L ≤ 1152921504606846975) (hi : i < 8) (x : UInt8) (hx : (Sha.be8 (8 * L % 2 ^ 64))[7 - i]? = some x) : ((L : Int) * 8 / 2 ^ (8 * i)) % 256 = ((x.toNat : Nat) : Int) := by
 rw [Sha.be8_get _ _ (by omega)] at hx
 injection hx with hx
 rw [← hx, show 56 - 8 * (7 - i) = 8 * i by omega, Nat.mod_eq_of_lt (show 8 * L < 2 ^ 64 by omega), UInt8.toNat_ofNat']
 have e : (L : Int) * 8 / 2 ^ (8 * i) = ((8 * L / 2 ^ (8 * i) : Nat) : Int) := by simp [Int.mul_comm]
 rw [e]
 omega
theorem word_byte (v : List UInt32) (k : Nat) (h : k < 4 * v.length) (x : UInt8) (hx : (Sha.bytes v)[k]? = some x) : (((v.getD (k / 4) 0).toNat : Int) / 2 ^ (24 - k % 4 * 8)) % 256 = ((x.toNat : Nat) : Int) := by
 rw [Sha.bytes_get v k h] at hx
 injection hx with hx
 rw [← hx, UInt8.toNat_ofNat', show 8 * (k % 4) = k % 4 * 8 by omega]
 have e : (((v.getD (k / 4) 0).toNat : Int) / 2 ^ (24 - k % 4 * 8)) = (((v.getD (k / 4) 0).toNat / 2 ^ (24 - k % 4 * 8) : Nat) : Int) := by simp
 rw [e]
 omega
set_option maxHeartbeats 2000000 in
set_option maxRecDepth 100000 in
theorem sumM_any (m : List UInt8) (w : World) (hK : KLaid w) (hm : m.length ≤ 1152921504606846975) :
  Calls Tryd.prog 32 #[.agg (ST m).toArray] w fun e w' => e = .returned (.agg (BV (Sha.sum m)).toArray) ∧ Below w.heap.size w w' := by
 have HCL := hide (fun v b n W hv hb hW => closed_any v b n W hv hb hW)
 have HK := hide hK
 have hzs := zero32
 have HST := hide (ST_len m)
 have hr64 : m.length % 64 < 64 := Nat.mod_lt _ (by omega)
 have hv8 : (Sha.blocks Sha.H0 m (m.length / 64)).length = 8 := Sha.blocks_len _ _ _ rfl
 have hp64 : (Sha.pad64 (Sha.restOf m)).length = 64 := Sha.pad64_len _ (by rw [Sha.restOf_len]; omega)
 have hpre : Sha.pad64 (Sha.restOf m ++ [128]) = (Sha.pad64 (Sha.restOf m)).set (m.length % 64) 128 := by
  have hr := Sha.restOf_len m
  unfold Sha.pad64
  rw [List.set_append_right _ _ (by omega), hr, Nat.sub_self, show 64 - m.length % 64 = (63 - m.length % 64) + 1 by omega, List.replicate_succ, List.set_cons_zero, List.length_append, hr, List.length_singleton, show 64 - (m.length % 64 + 1) = 63 - m.length % 64 by omega]
  simp
 have hq64 : (Sha.pad64 (Sha.restOf m ++ [128])).length = 64 := Sha.pad64_len _ (by rw [List.length_append, Sha.restOf_len, List.length_singleton]; omega)
 have hnear := fun h E hE => Sha.fin_near m h E hE
 have hfar := fun h E hE => Sha.fin_far m h E hE
 have HSUM := hide (show Sha.sum m = Sha.bytes (Sha.blocks Sha.H0 (Sha.pad m) ((Sha.pad m).length / 64)) from rfl)
 have HDEF := hide (show ST m = SCh (Sha.blocks Sha.H0 m (m.length / 64)) (Sha.pad64 (Sha.restOf m)) m.length from rfl)
 have hel : (Sha.be8 (8 * m.length % 2 ^ 64)).length = 8 := Sha.be8_len _
 have hsb := fun i hi x hx => shr_byte m.length i hm hi x hx
 generalize ST m = cs at *
 generalize Sha.blocks Sha.H0 m (m.length / 64) = v at *
 generalize Sha.blocks Sha.H0 (Sha.pad m) ((Sha.pad m).length / 64) = vf at *
 generalize Sha.pad64 (Sha.restOf m ++ [128]) = q at *
 generalize Sha.pad64 (Sha.restOf m) = p at *
 generalize hE : Sha.be8 (8 * m.length % 2 ^ 64) = E at *
 generalize hL : m.length = L at *
 have hr : (L : Int) % 64 = ((L % 64 : Nat) : Int) := by omega
 generalize hrr : L % 64 = r at *
 have r0 : (0 : Int) ≤ (r : Int) := by omega
 have r64 : (r : Int) < 64 := by omega
 have L0 : (0 : Int) ≤ (L : Int) := by omega
 have L1 : (L : Int) * 8 ≤ 9223372036854775800 := by omega
 have HV8 := hide hv8
 have HP := hide hp64
 have HQ := hide hq64
 have HPRE := hide hpre
 have HEL := hide hel
 have HNEAR := hide (fun h => hnear h E rfl)
 have HFAR := hide (fun h => hfar h E rfl)
 have HSB := hide hsb
 clear hK hv8 hp64 hq64 hpre hel hnear hfar hsb hE hL hrr
 go_enter Tryd.func32, Tryd.ntmps32
 go_upto_region 1 with fail
 refine name_worldh fun W hW => ?_
 have B1 := hide (show Blk W w.heap.size 69 (SCh v p L).toArray by rw [← hW.out, ← HDEF.out]; exact (Blk.new w _ _).alloc _)
 have B2 := hide (show Blk W (w.heap.size + 1) 72 (BV Z32).toArray by
  rw [← hW.out]
  have := Blk.new (w.alloc (.cells cs.toArray 69)) 72 (BV Z32).toArray
  rw [show (w.alloc (.cells cs.toArray 69)).heap.size = w.heap.size + 1 by simp] at this
  exact this)
 have HW := hide (show Below w.heap.size w W by rw [← hW.out]; exact ((Below.refl _ _).alloc (Nat.le_refl _) _).alloc (by simp) _)
 have hWs : w.heap.size + 2 ≤ W.heap.size := by rw [← hW.out]; simp
 have hcl := len_cell B1.out HV8.out HP.out
 have hct := block_cell B1.out HV8.out r (by have := HP.out; omega)
 have hfr := B1.out.frozen (8 + r)
 clear hW
 go_upto_region 3 with fail
 refine name_worldh fun X hX => ?_
 have C1 := hide (show Blk X w.heap.size 69 (SCh v q L).toArray by
  rw [← hX.out, HPRE.out]
  exact block_set B1.out HV8.out HP.out r (by omega) 128)
 have C2 := hide (show Blk X (w.heap.size + 1) 72 (BV Z32).toArray by rw [← hX.out]; exact B2.out.far (by show w.heap.size + 1 ≠ w.heap.size; omega) _)
 have HX := hide (show Below w.heap.size w X by rw [← hX.out]; exact HW.out.setCell (by show w.heap.size ≤ w.heap.size; omega) _)
 have hXs : w.heap.size + 2 ≤ X.heap.size := by rw [← hX.out]; simpa using hWs
 clear hX hcl hct hfr B1 B2 HW hWs
 by_cases hfar : 56 ≤ r
 ·have hge : (56 : Int) ≤ (r : Int) := by omega
  have hfin := HFAR.out hfar
  have hl1 : (SCh v q L).length = 73 := by rw [SC_lenh, HV8.out, HQ.out]
  have hl2 : (SCh (Sha.compress v q) Z64 L).length = 73 := by rw [SC_lenh, compress_len _ _ HV8.out]; rfl
  have hone2 := SC_oneh (Sha.compress v q) Z64 L
  have hv1 := compress_len v q HV8.out
  have C := hide (HCL.out v q L X HV8.out HQ.out (HK.out.below HX.out (Nat.le_refl _)))
  have HD2 := hide (show SCh (Sha.compress v q) Z64 L = SCh (Sha.compress v q) Z64 L from rfl)
  have G1 := hide (show X.heap[w.heap.size]? = some (.cells (SCh v q L).toArray 69 (0, 0)) from C1.out)
  generalize SCh v q L = c1 at *
  generalize hc2 : SCh (Sha.compress v q) Z64 L = c2 at C hl2 hone2
  have HC2 := hide hc2
  have HL1 := hide hl1
  have HL2 := hide hl2
  have HO2 := hide hone2
  have HV1 := hide hv1
  have HFIN := hide hfin
  clear hl1 hl2 hone2 hv1 hfin hc2 HD2
  go_upto_region 5 with (first
   | (with_reducible refine wpList_load_row rfl 69 (.tmp 1) rfl w.heap.size rfl 69 c1.toArray (0, 0) _ G1.out Tryd.underlying69 rfl ?f1 ?_)
   | (go_at_call 54; refine (unhide C).mono ?_; rintro e Z ⟨rfl, hbz⟩; have HBZ := hide hbz; have G2 := hide (show Z.heap[w.heap.size]? = some (.cells c1.toArray 69 (0, 0)) from C1.out.below hbz (by omega)); clear hbz)
   | (with_reducible refine wpList_store_row rfl 69 (.tmp 1) (.tmp 16) rfl w.heap.size c2.toArray rfl rfl 69 _ G2.out ?g1 ?g2 ?g3 ?_))
  case f1 => rw [List.size_toArray, HL1.out]; exact streamSize
  case g1 => rw [List.size_toArray, HL2.out]; exact streamSize
  case g2 => rw [List.size_toArray, List.size_toArray, HL1.out, HL2.out]
  case g3 => exact all_oneCell_toArray HO2.out
  refine name_worldh fun Y hY => ?_
  obtain ⟨A, hA⟩ : ∃ A, A = Z64 := ⟨_, rfl⟩
  have D1 := hide (show Blk Y w.heap.size 69 (SCh (Sha.compress v q) A L).toArray by rw [← hY.out, hA, HC2.out]; exact setRow_heap Z w.heap.size _ _ _ _ G2.out)
  have D2 := hide (show Blk Y (w.heap.size + 1) 72 (BV Z32).toArray by rw [← hY.out]; exact (C2.out.below HBZ.out (by omega)).otherRow (by omega) _)
  have HY := hide (show Below w.heap.size w Y by rw [← hY.out]; exact below_setRowh (HX.out.trans (HBZ.out.mono (by omega))) (Nat.le_refl _) _)
  have hYs : w.heap.size + 2 ≤ Y.heap.size := by rw [← hY.out]; have := HBZ.out.size; simp; omega
  have HA := hide (show A.length = 64 by rw [hA]; rfl)
  have hfin := HFIN.out
  rw [← hA] at hfin
  have HFIN := hide hfin
  clear hY hA hfin
  generalize Sha.compress v q = v1 at *
  go_wp2_with fail
  go_loopw [17] (fun i wr => ∃ k : Nat, k ≤ 8 ∧ i = .int .i64 (k : Int) ∧ Blk wr w.heap.size 69 (SCh v1 (Sha.tailed A E k) L).toArray ∧ Blk wr (w.heap.size + 1) 72 (BV Z32).toArray ∧ Below w.heap.size w wr ∧ w.heap.size + 2 ≤ wr.heap.size) (fun i _ => 8 - (intOf i).toNat)
  case atStart => exact ⟨0, Nat.zero_le _, rfl, by rw [Sha.tailed_zero A E HA.out HEL.out]; exact D1.out, D2.out, HY.out, hYs⟩
  case round =>
   obtain ⟨k, hk, rfl, hB1, hB2, hbel, hws⟩ := hrel
   by_cases hlt8 : k < 8
   ·obtain ⟨x, hx⟩ : ∃ x, E[7 - k]? = some x := ⟨_, List.getElem?_eq_getElem (by have := HEL.out; omega)⟩
    have htl := Sha.tailed_len A E k HA.out HEL.out hk
    have hsh := HSB.out k hlt8 x hx
    have hcl := len_cell hB1 HV1.out htl
    have hct := block_cell hB1 HV1.out (63 - k) (by omega)
    have hfr := hB1.frozen (8 + (63 - k))
    have hset := block_set hB1 HV1.out htl (63 - k) (by omega) x
    rw [Sha.tailed_succ A E k HA.out HEL.out hlt8 x hx] at hset
    have HSET := hide hset
    have H2 := hide hB2
    have HB := hide hbel
    have k0 : (0 : Int) ≤ (k : Int) := by omega
    have k1 : (0 : Int) ≤ 63 - (k : Int) := by omega
    have k2 : 63 - (k : Int) < 64 := by omega
    have k3 : (63 - (k : Int)).toNat = 63 - k := by omega
    have k4 : (0 : Int) ≤ 8 * (k : Int) := by omega
    have k5 : (8 * (k : Int)).toNat = 8 * k := by omega
    clear hB1 hB2 hbel hset hx
    go_wp2
    refine ⟨⟨k + 1, by omega, by go_num, HSET.out, H2.out.far (by show w.heap.size + 1 ≠ w.heap.size; omega) _, HB.out.setCell (by show w.heap.size ≤ w.heap.size; omega) _, by simpa using hws⟩, by simp [intOf]; omega⟩
   ·obtain rfl : k = 8 := by omega
    rw [Sha.tailed_eight] at hB1
    have hb2 : (A.take 56 ++ E).length = 64 := by have h1 := HA.out; have h2 := HEL.out; simp; omega
    have hfin := HFIN.out
    have HKr := HK.out.below hbel (Nat.le_refl _)
    generalize A.take 56 ++ E = b2 at *
    have hl3 : (SCh v1 b2 L).length = 73 := by rw [SC_lenh, HV1.out, hb2]
    have hl4 : (SCh (Sha.compress v1 b2) Z64 L).length = 73 := by rw [SC_lenh, compress_len _ _ HV1.out]; rfl
    have hone4 := SC_oneh (Sha.compress v1 b2) Z64 L
    have hv2 := compress_len v1 b2 HV1.out
    have C5 := HCL.out v1 b2 L wr HV1.out hb2 HKr
    have G3 := hide (show wr.heap[w.heap.size]? = some (.cells (SCh v1 b2 L).toArray 69 (0, 0)) from hB1)
    have G3' := hide (show Blk wr w.heap.size 69 (SCh v1 b2 L).toArray from hB1)
    generalize SCh v1 b2 L = c3 at *
    rw [← hfin] at C5 hl4 hone4 hv2
    generalize hc4 : SCh vf Z64 L = c4 at C5 hl4 hone4
    have HC4 := hide hc4
    have HL3 := hide hl3
    have HL4 := hide hl4
    have HO4 := hide hone4
    have HV2 := hide hv2
    have HB2 := hide hB2
    have HBL := hide hbel
    have C5 := hide C5
    clear hB1 hB2 hbel hl3 hl4 hone4 hv2 hc4 hfin hb2 HKr
    obtain ⟨wd, rfl⟩ : ∃ wd, wd = wr := ⟨wr, rfl⟩
    go_upto_region 12 with (first
     | (with_reducible refine wpList_load_row rfl 69 (.tmp 1) rfl w.heap.size rfl 69 c3.toArray (0, 0) _ G3.out Tryd.underlying69 rfl ?f5 ?_)
     | (go_at_call 54; refine (unhide C5).mono ?_; rintro e Zb ⟨rfl, hbz⟩; have HBZb := hide hbz; have G5 := hide (show Zb.heap[w.heap.size]? = some (.cells c3.toArray 69 (0, 0)) from G3'.out.below hbz (by omega)); clear hbz)
     | (with_reducible refine wpList_store_row rfl 69 (.tmp 1) (.tmp 33) rfl w.heap.size c4.toArray rfl rfl 69 _ G5.out ?g5 ?g6 ?g7 ?_))
    case f5 => first | (rw [List.size_toArray, HL3.out]; exact streamSize) | (rw [HL3.out]; exact Option.map_eq_some_iff.1 streamSize)
    case g5 => first | (rw [List.size_toArray, HL4.out]; exact streamSize) | (rw [HL4.out]; exact Option.map_eq_some_iff.1 streamSize)
    case g6 => first | (rw [List.size_toArray, List.size_toArray, HL3.out, HL4.out]) | (rw [HL3.out, HL4.out])
    case g7 => first | exact all_oneCell_toArray HO4.out | exact HO4.out
    refine name_worldh fun V hV => ?_
    have hbzb := HBZb.out.size
    have K1 := hide (show Blk V w.heap.size 69 (SCh vf Z64 L).toArray by rw [← hV.out, HC4.out]; exact Blk.alloc (setRow_heap Zb w.heap.size _ _ _ _ G5.out) _)
    have K2 := hide (show Blk V (w.heap.size + 1) 72 (BV Z32).toArray by rw [← hV.out]; exact ((HB2.out.below HBZb.out (by omega)).otherRow (by omega) _).alloc _)
    have K5 := hide (show Blk V Zb.heap.size 72 (BV Z32).toArray by
     rw [← hV.out]
     have := Blk.new (Zb.setRow w.heap.size c4.toArray) 72 (BV Z32).toArray
     rwa [show (Zb.setRow w.heap.size c4.toArray).heap.size = Zb.heap.size by simp] at this)
    have HVb := hide (show Below w.heap.size w V by rw [← hV.out]; exact (below_setRowh (HBL.out.trans (HBZb.out.mono (by omega))) (Nat.le_refl _) _).alloc (by simp; omega) _)
    have hg5 : w.heap.size + 2 ≤ Zb.heap.size := by omega
    have hDl : (Sha.bytes vf).length = 32 := by rw [Sha.bytes_len, HV2.out]
    have hwb := fun k h x hx => word_byte vf k h x hx
    have HSM := hide (show Sha.sum m = Sha.bytes vf from HSUM.out)
    clear hV hzs
    generalize Zb.heap.size = g5 at *
    generalize Sha.bytes vf = D at *
    have HDL := hide hDl
    have HWB := hide hwb
    clear hDl hwb
    go_wp2_with fail
    go_loopw [34] (fun i wr => ∃ k : Nat, k ≤ 32 ∧ i = .int .i64 (k : Int) ∧ Blk wr g5 72 (BV (D.take k ++ Z32.drop k)).toArray ∧ Blk wr w.heap.size 69 (SCh vf Z64 L).toArray ∧ Blk wr (w.heap.size + 1) 72 (BV Z32).toArray ∧ Below w.heap.size w wr) (fun i _ => 32 - (intOf i).toNat)
    case atStart => exact ⟨0, Nat.zero_le _, rfl, K5.out, K1.out, K2.out, HVb.out⟩
    case round =>
     obtain ⟨k, hk, rfl, hB5, hB1, hB2, hbel⟩ := hrel
     by_cases hlt32 : k < 32
     ·obtain ⟨x, hx⟩ : ∃ x, D[k]? = some x := ⟨_, List.getElem?_eq_getElem (by have := HDL.out; omega)⟩
      have hsh := HWB.out k (by have := HV2.out; omega) x hx
      have hcv := value_cell hB1 (k / 4) (by have := HV2.out; omega)
      have hct : wr.cell? ⟨g5, k, none⟩ = some (.int .u8 0) := by
       have hl : (D.take k).length = k := by rw [List.length_take]; have := HDL.out; omega
       have hz : Z32.drop k = List.replicate (32 - k) 0 := by unfold Z32; rw [List.drop_replicate]
       rw [hB5.cell, List.getElem?_toArray, BV_append, List.getElem?_append_right (by rw [BV_len, hl]; omega), BV_len, hl, Nat.sub_self, hz, BV_zeros, List.getElem?_replicate, if_pos (by omega)]
      have hfr := hB5.frozen k
      have hset := bytes_set D k HDL.out hlt32 x hx
      generalize vf.getD (k / 4) 0 = y at *
      have HSET := hide hset
      have H5 := hide hB5
      have H1 := hide hB1
      have H2 := hide hB2
      have HB := hide hbel
      have k0 : (0 : Int) ≤ (k : Int) := by omega
      have k1 : (0 : Int) ≤ (k : Int) / 4 := by omega
      have k2 : (k : Int) / 4 < 8 := by omega
      have k3 : ((k : Int) / 4).toNat = k / 4 := by omega
      have k4 : (0 : Int) ≤ 24 - (k : Int) % 4 * 8 := by omega
      have k5 : (24 - (k : Int) % 4 * 8).toNat = 24 - k % 4 * 8 := by omega
      have k6 : (k : Int) < 32 := by omega
      clear hB5 hB1 hB2 hbel hset hx
      go_wp2
      refine ⟨⟨k + 1, by omega, by go_num, ?_, ?_, ?_, ?_⟩, by simp [intOf]; omega⟩
      ·have := H5.out.set_ k (.int .u8 ((x.toNat : Nat) : Int))
       rwa [List.setIfInBounds_toArray, HSET.out] at this
      ·exact H1.out.far (by show w.heap.size ≠ g5; omega) _
      ·exact H2.out.far (by show w.heap.size + 1 ≠ g5; omega) _
      ·exact HB.out.setCell (by show w.heap.size ≤ g5; omega) _
     ·obtain rfl : k = 32 := by omega
      rw [List.take_of_length_le (by have := HDL.out; omega), List.drop_eq_nil_of_le (by simp [Z32]), List.append_nil] at hB5
      have hlen : (BV D).length = 32 := by rw [BV_len, HDL.out]
      have hone := BV_one D
      have hfin2 : Sha.sum m = D := HSM.out
      generalize hout : BV D = out at *
      have HOUT := hide hout
      have HLN := hide hlen
      have H1' := hide hone
      have HF := hide hfin2
      have E5 := hide (show wr.heap[g5]? = some (.cells out.toArray 72 (0, 0)) from hB5)
      have E2 := hide (show wr.heap[w.heap.size + 1]? = some (.cells (BV Z32).toArray 72 (0, 0)) from hB2)
      have HBe := hide hbel
      clear hB5 hB1 hB2 hbel hlen hone hout hfin2
      go_wp2_with (first | (with_reducible refine wpList_load_row rfl 72 (.tmp 5) rfl g5 rfl 72 out.toArray (0, 0) _ E5.out Tryd.underlying72 rfl ?f9 ?_) | (with_reducible refine wpList_store_row rfl 72 (.tmp 2) (.tmp 51) rfl (w.heap.size + 1) out.toArray rfl rfl 72 _ E2.out ?g9 ?g8 ?ga ?_))
      case f9 => first | (rw [List.size_toArray, HLN.out]; exact size32) | (rw [HLN.out]; exact Option.map_eq_some_iff.1 size32)
      case g9 => first | (rw [List.size_toArray, HLN.out]; exact size32) | (rw [HLN.out]; exact Option.map_eq_some_iff.1 size32)
      case g8 => first | (rw [show out.toArray.size = 32 by rw [List.size_toArray, HLN.out]]; rfl) | (rw [HLN.out]; rfl)
      case ga => first | exact all_oneCell_toArray H1'.out | exact H1'.out
      have hload : (loadVar 72 ⟨w.heap.size + 1, 0, none⟩).run Tryd.prog (wr.setRow (w.heap.size + 1) out.toArray) = .ok (.agg out.toArray) (wr.setRow (w.heap.size + 1) out.toArray) :=
       run_loadVar_row _ _ _ _ _ _ _ (setRow_heap wr (w.heap.size + 1) _ out.toArray _ _ E2.out) Tryd.underlying72 rfl (by rw [List.size_toArray, HLN.out]; exact size32)
      exact bodyPost_ret (v := .agg out.toArray) (results_cell0h Tryd.results32 _ _ ⟨w.heap.size + 1, 0, none⟩ _ rfl hload) rfl ⟨by rw [HF.out, HOUT.out], below_setRowh HBe.out (by omega) _⟩
 ·have hlt : ¬ (56 : Int) ≤ (r : Int) := by omega
  have HFIN := hide (HNEAR.out (by omega))
  have HV1 := HV8
  have HA := HQ
  generalize hv1 : v = v1 at *
  generalize hA : q = A at *
  clear hv1 hA
  have HY := HX
  have hYs := hXs
  have D1 := C1
  have D2 := C2
  go_upto_region 5 with fail
  generalize hYY : X = Y at *
  clear hYY
  go_wp2_with fail
  go_loopw [17] (fun i wr => ∃ k : Nat, k ≤ 8 ∧ i = .int .i64 (k : Int) ∧ Blk wr w.heap.size 69 (SCh v1 (Sha.tailed A E k) L).toArray ∧ Blk wr (w.heap.size + 1) 72 (BV Z32).toArray ∧ Below w.heap.size w wr ∧ w.heap.size + 2 ≤ wr.heap.size) (fun i _ => 8 - (intOf i).toNat)
  case atStart => exact ⟨0, Nat.zero_le _, rfl, by rw [Sha.tailed_zero A E HA.out HEL.out]; exact D1.out, D2.out, HY.out, hYs⟩
  case round =>
   obtain ⟨k, hk, rfl, hB1, hB2, hbel, hws⟩ := hrel
   by_cases hlt8 : k < 8
   ·obtain ⟨x, hx⟩ : ∃ x, E[7 - k]? = some x := ⟨_, List.getElem?_eq_getElem (by have := HEL.out; omega)⟩
    have htl := Sha.tailed_len A E k HA.out HEL.out hk
    have hsh := HSB.out k hlt8 x hx
    have hcl := len_cell hB1 HV1.out htl
    have hct := block_cell hB1 HV1.out (63 - k) (by omega)
    have hfr := hB1.frozen (8 + (63 - k))
    have hset := block_set hB1 HV1.out htl (63 - k) (by omega) x
    rw [Sha.tailed_succ A E k HA.out HEL.out hlt8 x hx] at hset
    have HSET := hide hset
    have H2 := hide hB2
    have HB := hide hbel
    have k0 : (0 : Int) ≤ (k : Int) := by omega
    have k1 : (0 : Int) ≤ 63 - (k : Int) := by omega
    have k2 : 63 - (k : Int) < 64 := by omega
    have k3 : (63 - (k : Int)).toNat = 63 - k := by omega
    have k4 : (0 : Int) ≤ 8 * (k : Int) := by omega
    have k5 : (8 * (k : Int)).toNat = 8 * k := by omega
    clear hB1 hB2 hbel hset hx
    go_wp2
    refine ⟨⟨k + 1, by omega, by go_num, HSET.out, H2.out.far (by show w.heap.size + 1 ≠ w.heap.size; omega) _, HB.out.setCell (by show w.heap.size ≤ w.heap.size; omega) _, by simpa using hws⟩, by simp [intOf]; omega⟩
   ·obtain rfl : k = 8 := by omega
    rw [Sha.tailed_eight] at hB1
    have hb2 : (A.take 56 ++ E).length = 64 := by have h1 := HA.out; have h2 := HEL.out; simp; omega
    have hfin := HFIN.out
    have HKr := HK.out.below hbel (Nat.le_refl _)
    generalize A.take 56 ++ E = b2 at *
    have hl3 : (SCh v1 b2 L).length = 73 := by rw [SC_lenh, HV1.out, hb2]
    have hl4 : (SCh (Sha.compress v1 b2) Z64 L).length = 73 := by rw [SC_lenh, compress_len _ _ HV1.out]; rfl
    have hone4 := SC_oneh (Sha.compress v1 b2) Z64 L
    have hv2 := compress_len v1 b2 HV1.out
    have C5 := HCL.out v1 b2 L wr HV1.out hb2 HKr
    have G3 := hide (show wr.heap[w.heap.size]? = some (.cells (SCh v1 b2 L).toArray 69 (0, 0)) from hB1)
    have G3' := hide (show Blk wr w.heap.size 69 (SCh v1 b2 L).toArray from hB1)
    generalize SCh v1 b2 L = c3 at *
    rw [← hfin] at C5 hl4 hone4 hv2
    generalize hc4 : SCh vf Z64 L = c4 at C5 hl4 hone4
    have HC4 := hide hc4
    have HL3 := hide hl3
    have HL4 := hide hl4
    have HO4 := hide hone4
    have HV2 := hide hv2
    have HB2 := hide hB2
    have HBL := hide hbel
    have C5 := hide C5
    clear hB1 hB2 hbel hl3 hl4 hone4 hv2 hc4 hfin hb2 HKr
    obtain ⟨wd, rfl⟩ : ∃ wd, wd = wr := ⟨wr, rfl⟩
    go_upto_region 12 with (first
     | (with_reducible refine wpList_load_row rfl 69 (.tmp 1) rfl w.heap.size rfl 69 c3.toArray (0, 0) _ G3.out Tryd.underlying69 rfl ?f5 ?_)
     | (go_at_call 54; refine (unhide C5).mono ?_; rintro e Zb ⟨rfl, hbz⟩; have HBZb := hide hbz; have G5 := hide (show Zb.heap[w.heap.size]? = some (.cells c3.toArray 69 (0, 0)) from G3'.out.below hbz (by omega)); clear hbz)
     | (with_reducible refine wpList_store_row rfl 69 (.tmp 1) (.tmp 33) rfl w.heap.size c4.toArray rfl rfl 69 _ G5.out ?g5 ?g6 ?g7 ?_))
    case f5 => first | (rw [List.size_toArray, HL3.out]; exact streamSize) | (rw [HL3.out]; exact Option.map_eq_some_iff.1 streamSize)
    case g5 => first | (rw [List.size_toArray, HL4.out]; exact streamSize) | (rw [HL4.out]; exact Option.map_eq_some_iff.1 streamSize)
    case g6 => first | (rw [List.size_toArray, List.size_toArray, HL3.out, HL4.out]) | (rw [HL3.out, HL4.out])
    case g7 => first | exact all_oneCell_toArray HO4.out | exact HO4.out
    refine name_worldh fun V hV => ?_
    have hbzb := HBZb.out.size
    have K1 := hide (show Blk V w.heap.size 69 (SCh vf Z64 L).toArray by rw [← hV.out, HC4.out]; exact Blk.alloc (setRow_heap Zb w.heap.size _ _ _ _ G5.out) _)
    have K2 := hide (show Blk V (w.heap.size + 1) 72 (BV Z32).toArray by rw [← hV.out]; exact ((HB2.out.below HBZb.out (by omega)).otherRow (by omega) _).alloc _)
    have K5 := hide (show Blk V Zb.heap.size 72 (BV Z32).toArray by
     rw [← hV.out]
     have := Blk.new (Zb.setRow w.heap.size c4.toArray) 72 (BV Z32).toArray
     rwa [show (Zb.setRow w.heap.size c4.toArray).heap.size = Zb.heap.size by simp] at this)
    have HVb := hide (show Below w.heap.size w V by rw [← hV.out]; exact (below_setRowh (HBL.out.trans (HBZb.out.mono (by omega))) (Nat.le_refl _) _).alloc (by simp; omega) _)
    have hg5 : w.heap.size + 2 ≤ Zb.heap.size := by omega
    have hDl : (Sha.bytes vf).length = 32 := by rw [Sha.bytes_len, HV2.out]
    have hwb := fun k h x hx => word_byte vf k h x hx
    have HSM := hide (show Sha.sum m = Sha.bytes vf from HSUM.out)
    clear hV hzs
    generalize Zb.heap.size = g5 at *
    generalize Sha.bytes vf = D at *
    have HDL := hide hDl
    have HWB := hide hwb
    clear hDl hwb
    go_wp2_with fail
    go_loopw [34] (fun i wr => ∃ k : Nat, k ≤ 32 ∧ i = .int .i64 (k : Int) ∧ Blk wr g5 72 (BV (D.take k ++ Z32.drop k)).toArray ∧ Blk wr w.heap.size 69 (SCh vf Z64 L).toArray ∧ Blk wr (w.heap.size + 1) 72 (BV Z32).toArray ∧ Below w.heap.size w wr) (fun i _ => 32 - (intOf i).toNat)
    case atStart => exact ⟨0, Nat.zero_le _, rfl, K5.out, K1.out, K2.out, HVb.out⟩
    case round =>
     obtain ⟨k, hk, rfl, hB5, hB1, hB2, hbel⟩ := hrel
     by_cases hlt32 : k < 32
     ·obtain ⟨x, hx⟩ : ∃ x, D[k]? = some x := ⟨_, List.getElem?_eq_getElem (by have := HDL.out; omega)⟩
      have hsh := HWB.out k (by have := HV2.out; omega) x hx
      have hcv := value_cell hB1 (k / 4) (by have := HV2.out; omega)
      have hct : wr.cell? ⟨g5, k, none⟩ = some (.int .u8 0) := by
       have hl : (D.take k).length = k := by rw [List.length_take]; have := HDL.out; omega
       have hz : Z32.drop k = List.replicate (32 - k) 0 := by unfold Z32; rw [List.drop_replicate]
       rw [hB5.cell, List.getElem?_toArray, BV_append, List.getElem?_append_right (by rw [BV_len, hl]; omega), BV_len, hl, Nat.sub_self, hz, BV_zeros, List.getElem?_replicate, if_pos (by omega)]
      have hfr := hB5.frozen k
      have hset := bytes_set D k HDL.out hlt32 x hx
      generalize vf.getD (k / 4) 0 = y at *
      have HSET := hide hset
      have H5 := hide hB5
      have H1 := hide hB1
      have H2 := hide hB2
      have HB := hide hbel
      have k0 : (0 : Int) ≤ (k : Int) := by omega
      have k1 : (0 : Int) ≤ (k : Int) / 4 := by omega
      have k2 : (k : Int) / 4 < 8 := by omega
      have k3 : ((k : Int) / 4).toNat = k / 4 := by omega
      have k4 : (0 : Int) ≤ 24 - (k : Int) % 4 * 8 := by omega
      have k5 : (24 - (k : Int) % 4 * 8).toNat = 24 - k % 4 * 8 := by omega
      have k6 : (k : Int) < 32 := by omega
      clear hB5 hB1 hB2 hbel hset hx
      go_wp2
      refine ⟨⟨k + 1, by omega, by go_num, ?_, ?_, ?_, ?_⟩, by simp [intOf]; omega⟩
      ·have := H5.out.set_ k (.int .u8 ((x.toNat : Nat) : Int))
       rwa [List.setIfInBounds_toArray, HSET.out] at this
      ·exact H1.out.far (by show w.heap.size ≠ g5; omega) _
      ·exact H2.out.far (by show w.heap.size + 1 ≠ g5; omega) _
      ·exact HB.out.setCell (by show w.heap.size ≤ g5; omega) _
     ·obtain rfl : k = 32 := by omega
      rw [List.take_of_length_le (by have := HDL.out; omega), List.drop_eq_nil_of_le (by simp [Z32]), List.append_nil] at hB5
      have hlen : (BV D).length = 32 := by rw [BV_len, HDL.out]
      have hone := BV_one D
      have hfin2 : Sha.sum m = D := HSM.out
      generalize hout : BV D = out at *
      have HOUT := hide hout
      have HLN := hide hlen
      have H1' := hide hone
      have HF := hide hfin2
      have E5 := hide (show wr.heap[g5]? = some (.cells out.toArray 72 (0, 0)) from hB5)
      have E2 := hide (show wr.heap[w.heap.size + 1]? = some (.cells (BV Z32).toArray 72 (0, 0)) from hB2)
      have HBe := hide hbel
      clear hB5 hB1 hB2 hbel hlen hone hout hfin2
      go_wp2_with (first | (with_reducible refine wpList_load_row rfl 72 (.tmp 5) rfl g5 rfl 72 out.toArray (0, 0) _ E5.out Tryd.underlying72 rfl ?f9 ?_) | (with_reducible refine wpList_store_row rfl 72 (.tmp 2) (.tmp 51) rfl (w.heap.size + 1) out.toArray rfl rfl 72 _ E2.out ?g9 ?g8 ?ga ?_))
      case f9 => first | (rw [List.size_toArray, HLN.out]; exact size32) | (rw [HLN.out]; exact Option.map_eq_some_iff.1 size32)
      case g9 => first | (rw [List.size_toArray, HLN.out]; exact size32) | (rw [HLN.out]; exact Option.map_eq_some_iff.1 size32)
      case g8 => first | (rw [show out.toArray.size = 32 by rw [List.size_toArray, HLN.out]]; rfl) | (rw [HLN.out]; rfl)
      case ga => first | exact all_oneCell_toArray H1'.out | exact H1'.out
      have hload : (loadVar 72 ⟨w.heap.size + 1, 0, none⟩).run Tryd.prog (wr.setRow (w.heap.size + 1) out.toArray) = .ok (.agg out.toArray) (wr.setRow (w.heap.size + 1) out.toArray) :=
       run_loadVar_row _ _ _ _ _ _ _ (setRow_heap wr (w.heap.size + 1) _ out.toArray _ _ E2.out) Tryd.underlying72 rfl (by rw [List.size_toArray, HLN.out]; exact size32)
      exact bodyPost_ret (v := .agg out.toArray) (results_cell0h Tryd.results32 _ _ ⟨w.heap.size + 1, 0, none⟩ _ rfl hload) rfl ⟨by rw [HF.out, HOUT.out], below_setRowh HBe.out (by omega) _⟩
theorem begin_st (w : World) : Calls Tryd.prog 30 #[] w fun e w' => e = .returned (.agg (ST []).toArray) ∧ Below w.heap.size w w' := begin_any w
theorem add_new (t : List UInt8) (w : World) (hK : KLaid w) (hm : t.length ≤ 9223372036854775807) :
  Calls Tryd.prog 31 #[.agg (ST []).toArray, .string (S t)] w fun e w' => e = .returned (.agg (ST t).toArray) ∧ Below w.heap.size w w' := add_any [] t w hK (by simpa using hm)
theorem run_store_cells {P : Program} (W : World) (g : Nat) (cs : List Value) (h1 : ∀ v ∈ cs, v.oneCell' = true) (ht : W.there g 0 cs.length) : (storeCells ⟨g, 0, none⟩ cs 0).run P W = .ok () (W.setCells g 0 cs) :=
 run_storeCells_cells (P := P) g 0 cs 0 W (fun j hj => by have := (ht j hj).1; simpa using this) (fun j hj => by have := (ht j hj).2; simpa using this) h1
namespace Sha
theorem sum_len (m : List UInt8) : (sum m).length = 32 := by unfold sum; rw [bytes_len, blocks_len _ _ _ rfl]
end Sha
theorem reads_blk {w : World} {g : Nat} {t : TypeId} {l : List UInt8} {n : Nat} (h : Blk w g t (BV l).toArray) (hn : l.length = n) : Reads w w.heap.size 1 (some ⟨g, 0, none⟩) n (BV l) := by
 refine ⟨by rw [BV_len]; omega, fun _ => ⟨_, rfl, h.lt, fun j u hj => ?_⟩⟩
 rw [show ((⟨g, 0, none⟩ : Addr).add j) = ⟨g, j, none⟩ by simp [Addr.add]; intro h; omega, h.cell, List.getElem?_toArray]
 exact hj
end Go.Proofs.YtjnnohghgkjhcaaDoor
namespace Go.Proofs.YtjnnohghgkjhcaaDoor
open Go.RowKit
set_option linter.unusedVariables false
set_option linter.unusedSimpArgs false
attribute [local go_sem ↓] Go.wp_at_zero Go.wp_at_succ
theorem put_row {W : World} {g : Nat} {t : TypeId} {zs out : List Value} (h : Blk W g t zs.toArray) (hl : out.length = zs.length) : Blk (W.setCells g 0 out) g t out.toArray := by
 have := Blk.part [] zs [] out (by simpa using h) 0 rfl hl
 simpa using this
theorem from_here {V W z : World} (h : Below V.heap.size V W) (hz : Below W.heap.size W z) : Below V.heap.size V z := h.trans (hz.mono h.size)
end Go.Proofs.YtjnnohghgkjhcaaDoor
namespace Go.Proofs.YtjnnohghgkjhcaaDoor
open Go.RowKit
set_option linter.unusedVariables false
set_option linter.unusedSimpArgs false
theorem blk_BV {w : World} {g : Nat} {t : TypeId} {l : List UInt8} (h : Blk w g t (BV l).toArray) (i : Nat) (hi : i < l.length) : w.cell? ⟨g, i, none⟩ = some (.int .u8 ((l[i].toNat : Nat) : Int)) := by
 rw [h.cell, List.getElem?_toArray, BV_get l i hi]
theorem own_snoc {w : World} {b : Nat} {v : Value} {l : List UInt8} {k : Nat} {x : Int} {c : UInt8} (h : w.ownsRow b 5 1 v (k + 1) (BV l ++ [.int .u8 x])) (hx : x = (c.toNat : Int)) : w.ownsRow b 5 1 v (k + 1) (BV (l ++ [c])) := by
 subst hx
 rw [BV_append]
 exact h
def lenV : Value → Nat
 | .slice _ n _ => n
 | _ => 0
def zerosOf (n : Nat) : Nat := (119 - n % 64) % 64
theorem zeros_lt (n z : Nat) (h : z < zerosOf n) : (n + 1 + z) % 64 ≠ 56 := by unfold zerosOf at h; omega
theorem zeros_eq (n : Nat) : (n + 1 + zerosOf n) % 64 = 56 := by unfold zerosOf; omega
theorem zeros_le (n : Nat) : zerosOf n ≤ 63 := by unfold zerosOf; omega
def padZ (m : List UInt8) (z : Nat) : List UInt8 := m ++ 128 :: List.replicate z 0
theorem padZ_len (m : List UInt8) (z : Nat) : (padZ m z).length = m.length + 1 + z := by simp [padZ]; omega
theorem padZ_succ (m : List UInt8) (z : Nat) : padZ m (z + 1) = padZ m z ++ [0] := by simp [padZ, List.replicate_succ']
theorem pad_is (m : List UInt8) (h : 8 * m.length < 18446744073709551616) : Sha.pad m = padZ m (zerosOf m.length) ++ Sha.be8 (8 * m.length) := by
 unfold Sha.pad padZ zerosOf
 rw [Nat.mod_eq_of_lt (show 8 * m.length < 2 ^ 64 from h)]
theorem be8_take (n i : Nat) (h : i < 8) : (Sha.be8 n).take (i + 1) = (Sha.be8 n).take i ++ [UInt8.ofNat (n / 2 ^ (56 - 8 * i))] := by
 have hl : i < (Sha.be8 n).length := by simpa [Sha.be8] using h
 rw [List.take_succ_eq_append_getElem hl]
 simp [Sha.be8]
theorem be8_all (n : Nat) : (Sha.be8 n).take 8 = Sha.be8 n := List.take_of_length_le (by simp [Sha.be8])
theorem byte_shr (n i : Nat) : ((n : Int) / 2 ^ (56 - 8 * i)) % 256 = (((UInt8.ofNat (n / 2 ^ (56 - 8 * i))).toNat : Nat) : Int) := by
 have e : (n : Int) / 2 ^ (56 - 8 * i) = ((n / 2 ^ (56 - 8 * i) : Nat) : Int) := by
  rw [Int.natCast_ediv, Int.natCast_pow]; rfl
 rw [e, UInt8.toNat_ofNat']
 omega
set_option maxHeartbeats 1000000 in
set_option maxRecDepth 100000 in
theorem padded_any (A : Option Addr) (n c : Nat) (l : List UInt8) (w : World) (hr : Reads w w.heap.size 1 A n (BV l)) (hn : n ≤ 1099511627776) :
  Calls Tryd.prog 80 #[.slice A n c] w fun e w' => ∃ v, e = .returned v ∧ w'.ownsRow w.heap.size 5 1 v (Sha.pad l).length (BV (Sha.pad l)) ∧ Below w.heap.size w w' := by
 obtain ⟨i0, hi, hz0, hz1, hz2⟩ := info_parts byteInfo
 have HI := hide hi
 have HZ0 := hide hz0
 have HZ1 := hide hz1
 have HZ2 := hide hz2
 have hl : l.length = n := by have := hr.1; simp [BV] at this; omega
 have HP := hide (pad_is l (by omega))
 have HR := hide hr
 have HL := hide hl
 have HO0 := hide (own_empty w)
 clear hi hz0 hz1 hz2 hr hl
 go_enter Tryd.func80, Tryd.ntmps80
 go_wp2_with (first
  | (at_builtin; refine wpList_append_any _ rfl (.tmp 6) (.tmp 7) 23 rfl w.heap.size 5 i0 (.int .u8 0) 1 1 Tryd.underlying23 HI.out HZ0.out HZ1.out HZ2.out rfl (by omega) _ 0 [] rfl HO0.out w.heap.size A n c (BV l) rfl (HR.out.alloc (Nat.le_refl _) _) (BV_one l) (by unfold maxLen; omega) (by omega) (by simp) ?_; intro v1 w1 hown1 hgrow1 hat1; have HO1 := hide hown1; have HB1 := hide ((below_alloc w _).trans (below_grown hgrow1 HO0.out (by simp))); clear hown1 hgrow1 hat1)
  | (at_builtin; refine wpList_append_any _ rfl (.tmp 9) (.tmp 10) 23 rfl w.heap.size 5 i0 (.int .u8 0) 1 1 Tryd.underlying23 HI.out HZ0.out HZ1.out HZ2.out rfl (by omega) v1 (0 + n) ([] ++ BV l) rfl (HO1.out.alloc _) _ (some ⟨w1.heap.size, 0, none⟩) 1 1 [.int .u8 128] rfl (reads_new w1 _ _) (by simp [Value.oneCell']) (by unfold maxLen; omega) (by omega) (by have := HB1.out.size; simp; omega) ?_; intro v2 w2 hown2 hgrow2 hat2; have HO2 := hide hown2; have HB2 := hide ((HB1.out.alloc HB1.out.size _).trans (below_grown hgrow2 (HO1.out.alloc _) (by have := HB1.out.size; simp; omega))); clear hown2 hgrow2 hat2))
 have HZ := hide (show w2.ownsRow w.heap.size 5 1 v2 (n + 1 + 0) (BV (padZ l 0)) by
  have h := HO2.out
  rw [List.nil_append, Nat.zero_add] at h
  have e : BV (padZ l 0) = BV l ++ [.int .u8 128] := by unfold padZ; rw [BV_append]; rfl
  rw [e]
  exact h)
 have z63 := zeros_le n
 have HB := HB2
 clear HO0 HO1 HO2 HB1 HB2
 go_loopw [3] (fun v wr => ∃ z : Nat, z ≤ zerosOf n ∧ lenV v = n + 1 + z ∧ wr.ownsRow w.heap.size 5 1 v (n + 1 + z) (BV (padZ l z)) ∧ Below w.heap.size w wr) (fun v _ => n + 1 + zerosOf n - lenV v)
 case atStart =>
  refine ⟨0, Nat.zero_le _, ?_, HZ.out, HB.out⟩
  obtain ⟨A2, c2, rfl, _, _⟩ := own_slice HZ.out
  rfl
 case round =>
  obtain ⟨z, hz, hlv, hown, hb⟩ := hrel
  obtain ⟨A3, c3, rfl, hc3, _⟩ := own_slice hown
  have hws := hb.size
  by_cases hlt : z < zerosOf n
  ·have hne := zeros_lt n z hlt
   generalize hL : n + 1 + z = L at *
   have ht1 : (((L : Nat) : Int).tmod 64 != 56) = true := by rw [bne_iff_ne, Int.tmod_eq_emod_of_nonneg (by omega)]; omega
   have ht2 : (((L : Nat) : Int) % 64 != 56) = true := by rw [bne_iff_ne]; omega
   have HO := hide hown
   have HB := hide hb
   have HPS := hide (padZ_succ l z)
   have HLL := hide hL
   have hL1 : L ≤ 1099511627776 + 64 := by omega
   clear hown hb hlv hL
   generalize padZ l z = X at *
   go_wp2_with (at_builtin; refine wpList_append_any _ rfl (.tmp 16) (.tmp 17) 23 rfl w.heap.size 5 i0 (.int .u8 0) 1 1 Tryd.underlying23 HI.out HZ0.out HZ1.out HZ2.out rfl (by omega) _ L (BV X) rfl (HO.out.alloc _) _ (some ⟨wr.heap.size, 0, none⟩) 1 1 [.int .u8 0] rfl (reads_new wr _ _) (by simp [Value.oneCell']) (by unfold maxLen; omega) (by omega) (by simp; omega) ?_; intro v3 w3 hown3 hgrow3 hat3; have HO3 := hide hown3; have HB3 := hide ((HB.out.alloc HB.out.size _).trans (below_grown hgrow3 (HO.out.alloc _) (by simp; omega))); clear hown3 hgrow3 hat3)
   have hfin : w3.ownsRow w.heap.size 5 1 v3 (n + 1 + (z + 1)) (BV (padZ l (z + 1))) := by
    rw [HPS.out, BV_append, show n + 1 + (z + 1) = L + 1 by have := HLL.out; omega]
    exact HO3.out
   obtain ⟨A5, c5, rfl, _, _⟩ := own_slice HO3.out
   have HF := hide hfin
   clear hfin
   refine ⟨⟨z + 1, by omega, ?_, HF.out, HB3.out⟩, ?_⟩
   ·show L + 1 = n + 1 + (z + 1)
    have := HLL.out; omega
   ·show n + 1 + zerosOf n - (L + 1) < n + 1 + zerosOf n - L
    have := HLL.out; omega
  ·obtain rfl : z = zerosOf n := by omega
   have hne := zeros_eq n
   generalize hL : n + 1 + zerosOf n = L at *
   have ht1 : (((L : Nat) : Int).tmod 64 != 56) = false := by rw [bne_eq_false_iff_eq, Int.tmod_eq_emod_of_nonneg (by omega)]; omega
   have ht2 : (((L : Nat) : Int) % 64 != 56) = false := by rw [bne_eq_false_iff_eq]; omega
   have HO := hide hown
   have HB := hide hb
   have HLL := hide hL
   have HPE := hide (show Sha.pad l = padZ l (zerosOf n) ++ Sha.be8 (8 * n) by have := HP.out; rw [HL.out] at this; exact this)
   have hL1 : L ≤ 1099511627776 + 64 := by omega
   clear hown hb hlv hL
   generalize padZ l (zerosOf n) = P at *
   obtain ⟨wd, rfl⟩ : ∃ wd, wd = wr := ⟨wr, rfl⟩
   have HZZ := hide (show wd.ownsRow w.heap.size 5 1 (.slice A3 L c3) (L + 0) (BV (P ++ (Sha.be8 (8 * n)).take 0)) by rw [List.take_zero, List.append_nil]; exact HO.out)
   have hn8 : 8 * (n : Int) ≤ 18446744073709551615 := by omega
   go_wp2_with fail
   rw [show (8 * (n : Int)) = ((8 * n : Nat) : Int) by omega]
   have hN : 8 * n ≤ 8796093022208 := by omega
   clear hn8
   generalize 8 * n = N at *
   go_loopw [3, 5] (fun v i wr => ∃ j : Nat, j ≤ 8 ∧ i = .int .i64 (j : Int) ∧ wr.ownsRow w.heap.size 5 1 v (L + j) (BV (P ++ (Sha.be8 N).take j)) ∧ Below w.heap.size w wr) (fun _ i _ => 8 - (intOf i).toNat)
   case atStart => exact ⟨0, Nat.zero_le _, rfl, HZZ.out, HB.out⟩
   case round =>
    obtain ⟨j, hj, rfl, hown, hb⟩ := hrel
    have hws := hb.size
    by_cases hlt : j < 8
    ·obtain ⟨A4, c4, rfl, hc4, _⟩ := own_slice hown
     have hbs := byte_shr N j
     have htk := be8_take N j hlt
     have hby := (UInt8.ofNat (N / 2 ^ (56 - 8 * j))).toNat_lt
     generalize UInt8.ofNat (N / 2 ^ (56 - 8 * j)) = x at *
     have HO := hide hown
     have HB := hide hb
     have HTK := hide htk
     clear hown hb htk
     generalize hX : P ++ (Sha.be8 N).take j = X at *
     have HX := hide hX
     clear hX
     go_wp2_with (at_builtin; refine wpList_append_any _ rfl (.tmp 27) (.tmp 34) 23 rfl w.heap.size 5 i0 (.int .u8 0) 1 1 Tryd.underlying23 HI.out HZ0.out HZ1.out HZ2.out rfl (by omega) _ (L + j) (BV X) rfl (HO.out.alloc _) _ (some ⟨wr.heap.size, 0, none⟩) 1 1 [.int .u8 (x.toNat : Int)] rfl (reads_new wr _ _) (by simp [Value.oneCell']) (by unfold maxLen; omega) (by omega) (by simp; omega) ?_; intro v3 w3 hown3 hgrow3 hat3; have HO3 := hide hown3; have HB3 := hide ((HB.out.alloc HB.out.size _).trans (below_grown hgrow3 (HO.out.alloc _) (by simp; omega))); clear hown3 hgrow3 hat3)
     exact ⟨⟨j + 1, by omega, by go_num, by rw [HTK.out, ← List.append_assoc, HX.out, show L + (j + 1) = L + j + 1 by omega]; exact own_snoc HO3.out rfl, HB3.out⟩, by simp [intOf]; omega⟩
    ·obtain rfl : j = 8 := by omega
     have HO := hide hown
     have HB := hide hb
     clear hown hb
     go_wp2
     go_ret
     refine ⟨_, rfl, ?_, HB.out⟩
     have h := HO.out
     rw [be8_all, ← HPE.out] at h
     have hlen : (Sha.pad l).length = L + 8 := by have := HO.out.1; rw [be8_all, ← HPE.out, BV_len] at this; omega
     rw [hlen]
     exact h
def rst (b : List UInt8) (t : Nat) : List UInt32 := (List.range t).map (Sha.word b) ++ List.replicate (64 - t) 0
theorem rst_len (b : List UInt8) (t : Nat) (h : t ≤ 64) : (rst b t).length = 64 := by simp [rst]; omega
theorem rst_zero (b : List UInt8) : rst b 0 = List.replicate 64 0 := rfl
theorem rst_sst (b : List UInt8) : rst b 16 = sst b 0 := rfl
theorem rst_succ (b : List UInt8) (t : Nat) (h : t < 64) : rst b (t + 1) = (rst b t).set t (Sha.word b t) := by
 unfold rst
 rw [List.set_append_right _ _ (by simp), show t - ((List.range t).map (Sha.word b)).length = 0 by simp, show 64 - t = (64 - (t + 1)) + 1 by omega, List.replicate_succ, List.set_cons_zero, List.range_succ, List.map_append]
 simp
theorem rst_get (b : List UInt8) (t : Nat) (h : t < 64) : (rst b t)[t]? = some 0 := by
 unfold rst
 rw [List.getElem?_append_right (by simp), show t - ((List.range t).map (Sha.word b)).length = 0 by simp, List.getElem?_replicate, if_pos (by omega)]
theorem word_four (b : List UInt8) (t : Nat) (h : 4 * t + 3 < b.length) : Sha.word b t = ((b[4 * t].toUInt32 <<< 8 ||| b[4 * t + 1].toUInt32) <<< 8 ||| b[4 * t + 2].toUInt32) <<< 8 ||| b[4 * t + 3].toUInt32 := by
 unfold Sha.word
 have e : (b.drop (4 * t)).take 4 = [b[4 * t], b[4 * t + 1], b[4 * t + 2], b[4 * t + 3]] := by
  rw [List.drop_eq_getElem_cons (by omega), List.drop_eq_getElem_cons (by omega), List.drop_eq_getElem_cons (by omega), List.drop_eq_getElem_cons (by omega)]
  rfl
 rw [e]
 simp [Sha.pw]
theorem four_is (y0 y1 y2 y3 : UInt32) : ((y0 <<< 8 ||| y1) <<< 8 ||| y2) <<< 8 ||| y3 = y0 <<< 24 ||| y1 <<< 16 ||| y2 <<< 8 ||| y3 := by
 rw [UInt32.shiftLeft_or, UInt32.shiftLeft_or, UInt32.shiftLeft_or, ← UInt32.shiftLeft_add (by decide) (by decide) (by decide), ← UInt32.shiftLeft_add (by decide) (by decide) (by decide), ← UInt32.shiftLeft_add (by decide) (by decide) (by decide)]
 rfl
def wl (a k : UInt32) : UInt32 := a <<< k
def wo (a b : UInt32) : UInt32 := a ||| b
theorem wo_is (a b : UInt32) : bits .or .u32 (a.toNat : Int) (b.toNat : Int) = ((wo a b).toNat : Int) := U_or a b
theorem wl_is (a : UInt32) (k : Nat) (m : Int) (hm : m = 2 ^ k) (h : k < 32) : IntKind.u32.wrap ((a.toNat : Int) * m) = ((wl a (UInt32.ofNat k)).toNat : Int) := by
 subst hm
 rw [IntKind.wrap_u32', U_shl a k h]
 rfl
theorem u8_u32 (x : UInt8) : IntKind.u32.wrap (x.toNat : Int) = ((x.toUInt32).toNat : Int) := by
 rw [IntKind.wrap_u32']
 have := x.toNat_lt
 simp
 omega
theorem reads_cell' {w : World} {B n : Nat} {ad : Addr} {l : List UInt8} (hr : Reads w B 1 (some ad) n (BV l)) (i : Nat) (hi : i < l.length) (h0 : i ≠ 0) : w.cell? ⟨ad.block, ad.off + i, none⟩ = some (.int .u8 ((l[i]'hi).toNat : Int)) := by
 have := reads_cell hr i hi
 unfold Addr.add at this
 rwa [if_neg h0] at this
theorem quiet_more {P : Program} {f : FuncId} {args : Array Value} {w : World} {n : Nat} {v : Value}
  (h : Calls P f args (w.drewN n) fun e w' => e = .returned v ∧ ∃ k, w' = (w.drewN n).drewN k) : Calls P f args (w.drewN n) fun e w'' => e = .returned v ∧ ∃ m, w'' = w.drewN m :=
 h.mono fun _ _ ⟨he, k, hm⟩ => ⟨he, n + k, by rw [hm, World.drewN_drewN]⟩
theorem zeroWords (W : World) : (zeroValue 128).run Tryd.prog W = .ok (.agg (UV (List.replicate 64 0)).toArray) W := by kernel_rfl
set_option maxHeartbeats 1000000 in
set_option maxRecDepth 100000 in
theorem refWords_any (ad : Addr) (c : Nat) (b : List UInt8) (w : World) (hr : Reads w w.heap.size 1 (some ad) 64 (BV b)) (hc : 64 ≤ c) :
  Calls Tryd.prog 81 #[.slice (some ad) 64 c] w fun e w' => e = .returned (.agg (UV (Sha.words b)).toArray) ∧ Below w.heap.size w w' := by
 have hb : b.length = 64 := by have := hr.1; simp [BV] at this; omega
 have HB := hide hb
 have HR := hide hr
 have hzs := zeroWords
 clear hb hr
 rw [← rst_zero b] at hzs
 go_enter Tryd.func81, Tryd.ntmps81
 go_upto_region 2 with fail
 refine name_worldh fun W hW => ?_
 have H2 := hide (show Blk W w.heap.size 128 (UV (rst b 0)).toArray by rw [← hW.out]; exact ((Blk.new w _ _).alloc _))
 have H3 := hide (show Blk W (w.heap.size + 1) 128 (UV (rst b 0)).toArray by
  rw [← hW.out]
  have := Blk.new (w.alloc (.cells (UV (rst b 0)).toArray 128)) 128 (UV (rst b 0)).toArray
  rw [show (w.alloc (.cells (UV (rst b 0)).toArray 128)).heap.size = w.heap.size + 1 by simp] at this
  exact this)
 have HW := hide (show Below w.heap.size w W by rw [← hW.out]; exact ((Below.refl _ _).alloc (Nat.le_refl _) _).alloc (by simp) _)
 clear hW hzs
 go_wp2_with fail
 go_loopw [4] (fun i wr => ∃ t m : Nat, t ≤ 16 ∧ i = .int .i64 (t : Int) ∧ Blk wr (w.heap.size + 1) 128 (UV (rst b t)).toArray ∧ Blk wr w.heap.size 128 (UV (rst b 0)).toArray ∧ Below w.heap.size w wr) (fun i _ => 16 - (intOf i).toNat)
 case atStart => exact ⟨0, 0, Nat.zero_le _, rfl, H3.out, H2.out, HW.out⟩
 case round =>
  obtain ⟨t, m, ht, rfl, hB3, hB2, hbel⟩ := hrel
  by_cases hlt : t < 16
  ·have hbl : 4 * t + 3 < b.length := by have := HB.out; omega
   have hct := blk_UV hB3 t _ (rst_get b t (by omega))
   have hfz := hB3.frozen t
   have hrd := HR.out.below hbel
   have g0 := reads_cell hrd (4 * t) (by omega)
   have g1 := reads_cell' hrd (4 * t + 1) (by omega) (by omega)
   have g2 := reads_cell' hrd (4 * t + 2) (by omega) (by omega)
   have g3 := reads_cell' hrd (4 * t + 3) (by omega) (by omega)
   have HS := hide (rst_succ b t (by omega))
   have HWF := hide ((word_four b t hbl).trans (four_is _ _ _ _))
   generalize b[4 * t] = x0 at *
   generalize b[4 * t + 1] = x1 at *
   generalize b[4 * t + 2] = x2 at *
   generalize b[4 * t + 3] = x3 at *
   have H3' := hide hB3
   have H2' := hide hB2
   have HBL := hide hbel
   clear hB3 hB2 hbel hrd
   have v0 : IntKind.i64.wrap (4 * (t : Int)) = 4 * (t : Int) := IntWalk.i64_in _ (by omega)
   have v1 : IntKind.i64.wrap (4 * (t : Int) + 1) = 4 * (t : Int) + 1 := IntWalk.i64_in _ (by omega)
   have v2 : IntKind.i64.wrap (4 * (t : Int) + 2) = 4 * (t : Int) + 2 := IntWalk.i64_in _ (by omega)
   have v3 : IntKind.i64.wrap (4 * (t : Int) + 3) = 4 * (t : Int) + 3 := IntWalk.i64_in _ (by omega)
   have e0 : (4 * (t : Int)).toNat = 4 * t := by omega
   have e1 : (4 * (t : Int) + 1).toNat = 4 * t + 1 := by omega
   have e2 : (4 * (t : Int) + 2).toNat = 4 * t + 2 := by omega
   have e3 : (4 * (t : Int) + 3).toNat = 4 * t + 3 := by omega
   have f0 : (0 : Int) ≤ 4 * (t : Int) := by omega
   have f1 : 4 * (t : Int) < 64 := by omega
   have f2 : 4 * (t : Int) + 1 < 64 := by omega
   have f3 : 4 * (t : Int) + 2 < 64 := by omega
   have f4 : 4 * (t : Int) + 3 < 64 := by omega
   have f5 : (0 : Int) ≤ 4 * (t : Int) + 1 := by omega
   have f6 : (0 : Int) ≤ 4 * (t : Int) + 2 := by omega
   have f7 : (0 : Int) ≤ 4 * (t : Int) + 3 := by omega
   have f8 : (t : Int) < 64 := by omega
   have f9 : (0 : Int) ≤ (t : Int) := by omega
   have p0 := u8_u32 x0
   have p1 := u8_u32 x1
   have p2 := u8_u32 x2
   have p3 := u8_u32 x3
   have q0 := wl_is x0.toUInt32 24 16777216 rfl (by omega)
   have q1 := wl_is x1.toUInt32 16 65536 rfl (by omega)
   have q2 := wl_is x2.toUInt32 8 256 rfl (by omega)
   generalize x0.toUInt32 = y0 at *
   generalize x1.toUInt32 = y1 at *
   generalize x2.toUInt32 = y2 at *
   generalize x3.toUInt32 = y3 at *
   have qo := wo_is
   go_wp2_with fail
   go_still_tail 35, (by kernel_rfl)
   change wpList _ _ _ _ _ wr.drew
   clear v0 v1 v2 v3 p0 p1 p2 p3 q0 q1 q2 qo
   go_wp2
   refine ⟨⟨t + 1, m, by omega, by go_num, ?_, ?_, ?_⟩, by simp [intOf]; omega⟩
   ·rw [HS.out, HWF.out]; exact blk_UV_set (w := wr.drew) H3'.out t _
   ·exact Blk.far (w := wr.drew) H2'.out (by show w.heap.size ≠ w.heap.size + 1; omega) _
   ·exact (HBL.out.drew).setCell (by show w.heap.size ≤ w.heap.size + 1; omega) _
  ·obtain rfl : t = 16 := by omega
   rw [show ((16 : Nat) : Int) = 16 from rfl]
   rw [rst_sst b] at hB3
   obtain ⟨wd, rfl⟩ : ∃ wd, wd = wr := ⟨wr, rfl⟩
   have H3' := hide hB3
   have H2' := hide hB2
   have HW' := hide hbel
   clear hB3 hB2 hbel
   go_wp2_with fail
   go_loopw [5] (fun i wr => ∃ n t : Nat, n ≤ 48 ∧ t = 16 + n ∧ i = .int .i64 (t : Int) ∧ Blk wr (w.heap.size + 1) 128 (UV (sst b n)).toArray ∧ Blk wr w.heap.size 128 (UV (rst b 0)).toArray ∧ Below w.heap.size w wr) (fun i _ => 64 - (intOf i).toNat)
   case atStart => exact ⟨0, 16, Nat.zero_le _, rfl, rfl, H3'.out, H2'.out, HW'.out⟩
   case round =>
    obtain ⟨n, t, hn, htn, rfl, hB3, hB2, hbel⟩ := hrel
    by_cases hlt : t < 64
    ·have c16 := blk_UV hB3 (t - 16) _ (sst_get b n (t - 16) (by omega))
     have c15 := blk_UV hB3 (t - 15) _ (sst_get b n (t - 15) (by omega))
     have c7 := blk_UV hB3 (t - 7) _ (sst_get b n (t - 7) (by omega))
     have c2 := blk_UV hB3 (t - 2) _ (sst_get b n (t - 2) (by omega))
     have hfz := hB3.frozen t
     have hct : wr.cell? ⟨w.heap.size + 1, t, none⟩ = some (U ((sst b n)[t]'(by rw [sst_len b n hn]; exact hlt))) := blk_UV hB3 t _ (List.getElem?_eq_getElem (by rw [sst_len b n hn]; exact hlt))
     generalize (sst b n)[t]'(by rw [sst_len b n hn]; exact hlt) = old at *
     have hst := sst_succ b n (by omega)
     rw [← htn] at hst
     unfold Sha.next at hst
     generalize (Sha.sched ((List.range 16).map (Sha.word b)) n).getD (t - 16) 0 = x16 at *
     generalize (Sha.sched ((List.range 16).map (Sha.word b)) n).getD (t - 15) 0 = x15 at *
     generalize (Sha.sched ((List.range 16).map (Sha.word b)) n).getD (t - 7) 0 = x7 at *
     generalize (Sha.sched ((List.range 16).map (Sha.word b)) n).getD (t - 2) 0 = x2 at *
     have HS := hide hst
     have H3'' := hide hB3
     have H2'' := hide hB2
     have HT := hide htn
     clear hB3 hB2 hst htn
     have t16 : 16 ≤ t := by have := HT.out; omega
     have b1 : (0 : Int) ≤ (t : Int) - 16 := by omega
     have b2 : (0 : Int) ≤ (t : Int) - 15 := by omega
     have b3 : (0 : Int) ≤ (t : Int) - 7 := by omega
     have b4 : (0 : Int) ≤ (t : Int) - 2 := by omega
     have b5 : (t : Int) < 64 := by omega
     have e1 : ((t : Int) - 16).toNat = t - 16 := by omega
     have e2 : ((t : Int) - 15).toNat = t - 15 := by omega
     have e3 : ((t : Int) - 7).toNat = t - 7 := by omega
     have e4 : ((t : Int) - 2).toNat = t - 2 := by omega
     have d1 : (16 : Int) ≤ (t : Int) := by omega
     have d2 : (7 : Int) ≤ (t : Int) := by omega
     have d2' : (15 : Int) ≤ (t : Int) := by omega
     have d2'' : (2 : Int) ≤ (t : Int) := by omega
     have d3 : (t : Int) - 16 < 64 := by omega
     have d4 : (t : Int) - 7 < 64 := by omega
     have d4' : (t : Int) - 15 < 64 := by omega
     have d4'' : (t : Int) - 2 < 64 := by omega
     have d5 : (0 : Int) ≤ (t : Int) := by omega
     have H7 := hide (fun W => refRotr_7 x15 W)
     have H18 := hide (fun W => refRotr_18 x15 W)
     have H17 := hide (fun W => refRotr_17 x2 W)
     have H19 := hide (fun W => refRotr_19 x2 W)
     go_wp2
     have v1 : IntKind.i64.wrap ((t : Int) - 16) = (t : Int) - 16 := IntWalk.i64_in _ (by omega)
     have v2 : IntKind.i64.wrap ((t : Int) - 15) = (t : Int) - 15 := IntWalk.i64_in _ (by omega)
     have v3 : IntKind.i64.wrap ((t : Int) - 7) = (t : Int) - 7 := IntWalk.i64_in _ (by omega)
     have v4 : IntKind.i64.wrap ((t : Int) - 2) = (t : Int) - 2 := IntWalk.i64_in _ (by omega)
     have s3 : (x15.toNat : Int) / 8 = ((ws x15 3).toNat : Int) := by have := U_shr x15 3 (by omega); exact this
     have s10 : (x2.toNat : Int) / 1024 = ((ws x2 10).toNat : Int) := by have := U_shr x2 10 (by omega); exact this
     have rx := wx_is
     go_quiet ((first
      | (go_at_call_of 82 (Value.int .i64 7); exact quiet_more (unhide H7 _))
      | (go_at_call_of 82 (Value.int .i64 18); exact quiet_more (unhide H18 _))))
     go_wp2_with fail
     go_quiet ((first
      | (go_at_call_of 82 (Value.int .i64 17); exact quiet_add (unhide H17 _))
      | (go_at_call_of 82 (Value.int .i64 19); exact quiet_add (unhide H19 _))))
     go_wp2_with fail
     have rp := wp_is
     have rpw := wp_isw
     refine name_worldh fun W hW => ?_
     have w16 : W.cell? ⟨w.heap.size + 1, t - 16, none⟩ = some (U x16) := by rw [← hW.out]; exact c16
     have w7 : W.cell? ⟨w.heap.size + 1, t - 7, none⟩ = some (U x7) := by rw [← hW.out]; exact c7
     have wct : W.cell? ⟨w.heap.size + 1, t, none⟩ = some (U old) := by rw [← hW.out]; exact hct
     have wfz : W.frozen? ⟨w.heap.size + 1, t, none⟩ = false := by rw [← hW.out]; exact hfz
     have W3 := hide (show Blk W (w.heap.size + 1) 128 (UV (sst b n)).toArray by rw [← hW.out]; exact H3''.out)
     have W2 := hide (show Blk W w.heap.size 128 (UV (rst b 0)).toArray by rw [← hW.out]; exact H2''.out)
     have WB := hide (show Below w.heap.size w W by rw [← hW.out]; exact below_drewN (below_drewN hbel _) _)
     have C16 : ∀ tp dr o out, ({ heap := W.heap, tape := tp, drawn := dr, os := o, output := out } : World).cell? ⟨w.heap.size + 1, t - 16, none⟩ = some (U x16) := fun _ _ _ _ => w16
     have C7 : ∀ tp dr o out, ({ heap := W.heap, tape := tp, drawn := dr, os := o, output := out } : World).cell? ⟨w.heap.size + 1, t - 7, none⟩ = some (U x7) := fun _ _ _ _ => w7
     clear c16 c15 c7 c2 hct hfz hW w16 w7
     go_still_tail 15, (by kernel_rfl)
     clear v1 v2 v3 v4
     change wpList _ _ _ _ _ W.drew
     go_wp2
     refine ⟨⟨n + 1, t + 1, by have := HT.out; omega, by have := HT.out; omega, by go_num, ?_, ?_, ?_⟩, by simp [intOf]; omega⟩
     ·rw [HS.out]; exact blk_UV_set (w := W.drew) W3.out t _
     ·exact Blk.far (w := W.drew) W2.out (by show w.heap.size ≠ w.heap.size + 1; omega) _
     ·exact WB.out.drew.setCell (by show w.heap.size ≤ w.heap.size + 1; omega) _
    ·obtain rfl : n = 48 := by omega
     rw [sst_full] at hB3
     have hlen : (UV (Sha.words b)).length = 64 := by rw [UV_len, ← sst_full, sst_len b 48 (by omega)]
     have hlen0 : (UV (rst b 0)).length = 64 := by rw [UV_len, rst_len b 0 (by omega)]
     have hone : ∀ v ∈ UV (Sha.words b), v.oneCell' = true := by
      intro v hv
      simp only [UV, List.mem_map] at hv
      obtain ⟨c, _, rfl⟩ := hv
      rfl
     have HL := hide hlen
     have HL0 := hide hlen0
     have H1' := hide hone
     have H3'' := hide (show wr.heap[w.heap.size + 1]? = some (.cells (UV (Sha.words b)).toArray 128 (0, 0)) from hB3)
     have H2'' := hide (show wr.heap[w.heap.size]? = some (.cells (UV (rst b 0)).toArray 128 (0, 0)) from hB2)
     clear hB3 hB2 hlen hlen0 hone
     generalize hout : UV (Sha.words b) = out at *
     have HOUT := hide hout
     clear hout
     generalize UV (rst b 0) = zer at *
     go_wp2_with (first | (with_reducible refine wpList_load_row rfl 128 (.tmp 3) rfl (w.heap.size + 1) rfl 128 out.toArray (0, 0) _ H3''.out Tryd.underlying128 rfl ?c1 ?_) | (with_reducible refine wpList_store_row rfl 128 (.tmp 2) (.tmp 100) rfl w.heap.size out.toArray rfl rfl 128 zer.toArray H2''.out ?d1 ?d2 ?d3 ?_))
     case c1 => rw [List.size_toArray, HL.out]; exact wordsSize
     case d1 => rw [List.size_toArray, HL.out]; exact wordsSize
     case d2 => rw [List.size_toArray, List.size_toArray, HL.out, HL0.out]
     case d3 => simpa using H1'.out
     have hload : (loadVar 128 ⟨w.heap.size, 0, none⟩).run Tryd.prog (wr.setRow w.heap.size out.toArray) = .ok (.agg out.toArray) (wr.setRow w.heap.size out.toArray) :=
      run_loadVar_row _ _ _ _ _ _ _ (setRow_heap wr w.heap.size _ out.toArray _ _ H2''.out) Tryd.underlying128 rfl (by rw [List.size_toArray, HL.out]; exact wordsSize)
     exact bodyPost_ret (v := .agg out.toArray) (results_cell0h Tryd.results81 _ _ ⟨w.heap.size, 0, none⟩ _ rfl hload) rfl ⟨by rw [HOUT.out], below_setRowh hbel (Nat.le_refl _) _⟩
def RKLaid (w : World) : Prop := ∀ t, t < 64 → w.cell? ⟨0, t, none⟩ = some (U (Sha.K.getD t 0))
theorem RKLaid.below {w w' : World} {B : Nat} (h : RKLaid w) (hb : Below B w w') (hB : w.heap.size ≤ B) : RKLaid w' := fun t ht => by
 have := h t ht
 have hl := block_lt_of_cell this
 rw [hb.cell (p := ⟨0, t, none⟩) (by simp at hl ⊢; omega)]
 exact this
theorem pad_len (l : List UInt8) (h : 8 * l.length < 18446744073709551616) : (Sha.pad l).length = l.length + 1 + zerosOf l.length + 8 := by
 rw [pad_is l h, List.length_append, padZ_len, Sha.be8_len]
theorem H0_cells : (UV Sha.H0).toArray = #[Value.int .u32 1779033703, Value.int .u32 3144134277, Value.int .u32 1013904242, Value.int .u32 2773480762, Value.int .u32 1359893119, Value.int .u32 2600822924, Value.int .u32 528734635, Value.int .u32 1541459225] := by rfl
theorem own_far {w w' : World} {b e size n : Nat} {v : Value} {xs : List Value} (h : w.ownsRow b e size v n xs) (hk : ∀ i, b ≤ i → i < w.heap.size → w'.heap[i]? = w.heap[i]?) : w'.ownsRow b e size v n xs := by
 refine ⟨h.1, ?_⟩
 rcases h.2 with h0 | ⟨g, cap, cur, h1, h2, h3, h4⟩
 ·exact .inl h0
 ·refine .inr ⟨g, cap, cur, h1, h2, ?_, h4⟩
  have hg : g < w.heap.size := by
   rcases Nat.lt_or_ge g w.heap.size with h | h
   ·exact h
   ·rw [Array.getElem?_eq_none h] at h3; cases h3
  rw [hk g h2 hg]; exact h3
theorem own_setRowh {w : World} {b e size n : Nat} {v : Value} {xs : List Value} (h : w.ownsRow b e size v n xs) (g : Nat) (hg : g < b) (cs : Array Value) : (w.setRow g cs).ownsRow b e size v n xs :=
 own_far h fun i hi _ => setRow_other w g i cs (by omega)
theorem list8 (v : List UInt32) (h : v.length = 8) : v = [v.getD 0 0, v.getD 1 0, v.getD 2 0, v.getD 3 0, v.getD 4 0, v.getD 5 0, v.getD 6 0, v.getD 7 0] := by
 match v, h with
 | [a, b, c, d, e, f, g, i], _ => rfl
theorem wn_is' (a : UInt32) : bits .xor .u32 (a.toNat : Int) 4294967295 = ((wn a).toNat : Int) := by
 have := U_xor a 4294967295
 rw [UInt32.xor_comm, wn_eq] at this
 exact this
theorem word_byte' (v : List UInt32) (k : Nat) (h : k < 4 * v.length) (x : UInt8) (hx : (Sha.bytes v)[k]? = some x) : (((v.getD (k / 4) 0).toNat : Int) / 2 ^ (24 - 8 * (k % 4))) % 256 = ((x.toNat : Nat) : Int) := by
 have := word_byte v k h x hx
 rwa [Nat.mul_comm (k % 4) 8] at this
set_option maxHeartbeats 2000000 in
set_option maxRecDepth 100000 in
theorem refSum_any (A : Option Addr) (n c : Nat) (l : List UInt8) (w : World) (hr : Reads w w.heap.size 1 A n (BV l)) (hn : n ≤ 1099511627776) (hK : RKLaid w) :
  Calls Tryd.prog 66 #[.slice A n c] w fun e w' => e = .returned (.agg (BV (Sha.sum l)).toArray) ∧ Below w.heap.size w w' := by
 have hl : l.length = n := by have := hr.1; simp [BV] at this; omega
 have HPD := hide (fun (W : World) (hW : Reads W W.heap.size 1 A n (BV l)) => padded_any A n c l W hW hn)
 have HWD := hide (fun ad cc b (W : World) hr hc => refWords_any ad cc b W hr hc)
 have hpl := pad_len l (by omega)
 have hz56 := zeros_eq l.length
 have hz63 := zeros_le l.length
 have HSUM := hide (show Sha.sum l = Sha.bytes (Sha.blocks Sha.H0 (Sha.pad l) ((Sha.pad l).length / 64)) from rfl)
 generalize Sha.pad l = M at *
 obtain ⟨nb, hnb⟩ : ∃ nb, M.length = 64 * nb := ⟨M.length / 64, by omega⟩
 have hnb0 : 0 < nb := by omega
 have hnbl : nb ≤ 17179869200 := by omega
 have hq : M.length / 64 = nb := by omega
 rw [hq] at HSUM
 have HBK := hide (fun k => show Sha.blocks Sha.H0 M (k + 1) = Sha.compress (Sha.blocks Sha.H0 M k) ((M.drop (64 * k)).take 64) from rfl)
 have HB0 := hide (show Sha.blocks Sha.H0 M 0 = Sha.H0 from rfl)
 have HBL := hide (fun k => Sha.blocks_len Sha.H0 M k rfl)
 have HML := hide hnb
 have HR := hide hr
 have HK := hide hK
 have hzs := zero32
 have hh0 := H0_cells
 generalize hH0 : (UV Sha.H0).toArray = h0c at *
 have HH0 := hide hH0
 have HH := hide hh0
 clear hr hK hl hpl hz56 hz63 hnb hq hH0 hh0
 go_enter Tryd.func66, Tryd.ntmps66
 go_upto_region 2 with fail
 refine name_worldh fun W hW => ?_
 have B0 := hide (show Blk W w.heap.size 72 (BV Z32).toArray by rw [← hW.out]; exact ((Blk.new w _ _).alloc _))
 have B1 := hide (show Blk W (w.heap.size + 1) 65 (UV Sha.H0).toArray by
  rw [← hW.out, HH0.out, HH.out]
  have := Blk.new (w.alloc (.cells (BV Z32).toArray 72)) 65 #[Value.int .u32 1779033703, Value.int .u32 3144134277, Value.int .u32 1013904242, Value.int .u32 2773480762, Value.int .u32 1359893119, Value.int .u32 2600822924, Value.int .u32 528734635, Value.int .u32 1541459225]
  rw [show (w.alloc (.cells (BV Z32).toArray 72)).heap.size = w.heap.size + 1 by simp] at this
  exact this)
 have HW := hide (show Below w.heap.size w W by rw [← hW.out]; exact ((Below.refl _ _).alloc (Nat.le_refl _) _).alloc (by simp) _)
 have hWs : W.heap.size = w.heap.size + 1 + 1 := by rw [← hW.out]; simp
 have HWS := hide hWs
 clear hW hWs hzs
 go_upto_region 3 with (go_at_call 80; refine (unhide HPD W ((HR.out.below HW.out).more HW.out.size)).mono ?_; rintro e w2 ⟨v2, rfl, hown2, hb2⟩; obtain ⟨g2, cap2, rfl, hcap2, hrd2⟩ := own_form hown2 (by have := HML.out; omega); have HO2 := hide hown2; have HB2 := hide hb2; clear hown2 hb2 hrd2)
 go_wp2_with fail
 have hw2 : Below w.heap.size w w2 := HW.out.trans (HB2.out.mono (by have := HWS.out; omega))
 have C0 := hide (B0.out.below HB2.out (by have := HWS.out; omega))
 have C1 := hide (B1.out.below HB2.out (by have := HWS.out; omega))
 have HOW := hide (show w2.ownsRow (w.heap.size + 1 + 1) 5 1 (.slice (some ⟨g2, 0, none⟩) M.length cap2) M.length (BV M) by rw [← HWS.out]; exact HO2.out)
 have HW2 := hide hw2
 have hNM : M.length ≤ 1099511628800 := by have := HML.out; omega
 clear hw2 HO2 HB2 B0 B1
 go_loopw [5] (fun p wr => ∃ k : Nat, k ≤ nb ∧ p = .int .i64 ((64 * k : Nat) : Int) ∧ Blk wr (w.heap.size + 1) 65 (UV (Sha.blocks Sha.H0 M k)).toArray ∧ Blk wr w.heap.size 72 (BV Z32).toArray ∧ wr.ownsRow (w.heap.size + 1 + 1) 5 1 (.slice (some ⟨g2, 0, none⟩) M.length cap2) M.length (BV M) ∧ Below w.heap.size w wr) (fun p _ => M.length - (intOf p).toNat)
 case atStart => exact ⟨0, Nat.zero_le _, rfl, by rw [HB0.out]; exact C1.out, C0.out, HOW.out, HW2.out⟩
 case round =>
  obtain ⟨k, hk, rfl, hB1, hB0, hown, hbel⟩ := hrel
  by_cases hlt : k < nb
  ·have hp64 : 64 * k + 64 ≤ M.length := by have := HML.out; omega
   have hrs := reads_sub (Reads.of_own hown) (64 * k) 64 (by omega)
   have hbk := HBK.out k
   generalize (M.drop (64 * k)).take 64 = b at *
   rw [show ((⟨g2, 0, none⟩ : Addr).add (64 * k)) = ⟨g2, 64 * k, none⟩ by simp [Addr.add]; intro h; omega] at hrs
   have HWK := hide (HWD.out ⟨g2, 64 * k, none⟩ (cap2 - 64 * k) b wr ((hrs.more (Nat.le_refl _))) (by omega))
   have HBX1 := hide hB1
   have HBX0 := hide hB0
   have HO := hide hown
   have HBE := hide hbel
   have HBK' := hide hbk
   clear hB1 hB0 hown hbel hbk hrs
   generalize hp : 64 * k = p at *
   have HP := hide hp
   have hpc : p ≠ cap2 := by omega
   have hpc2 : ¬ cap2 = p := by omega
   have hp1 : (p : Int) + 64 ≤ (cap2 : Int) := by omega
   have hp2 : (p : Int) + 64 ≤ 1099511628800 := by omega
   have hp3 : (p : Int) < (M.length : Int) := by omega
   clear hp
   have hwl := words_lenh b
   generalize hws0 : Sha.words b = ws at *
   have HWS0 := hide hws0
   have HWL := hide hwl
   clear hwl hws0
   go_wp2_with (first
    | (go_at_call 81; refine (unhide HWK).mono ?_; rintro e w1 ⟨rfl, hb1⟩; have HB1 := hide hb1; clear hb1)
    | (with_reducible refine wpList_store_row rfl 128 (.tmp 6) (.tmp 34) rfl w1.heap.size (UV ws).toArray rfl rfl 128 _ (heap_alloc_new w1 _) ?d1 ?d2 ?d3 ?_))
   case d1 => first | (rw [List.size_toArray, UV_len, HWL.out]; exact wordsSize) | (rw [UV_len, HWL.out]; exact Option.map_eq_some_iff.1 wordsSize)
   case d2 => first | (rw [show (UV ws).toArray.size = 64 by rw [List.size_toArray, UV_len, HWL.out]]; rfl) | (rw [UV_len, HWL.out]; rfl)
   case d3 => first | exact all_oneCell_toArray (UV_one ws) | exact UV_one ws
   rw [World.setRow_alloc_new]
   refine name_worldh fun X hX => ?_
   have hb1 := HB1.out
   have hbe := HBE.out
   have hg5 : wr.heap.size ≤ w1.heap.size := hb1.size
   have hwr : w.heap.size + 1 < wr.heap.size := HBX1.out.lt
   have E1 := hide (show Blk X (w.heap.size + 1) 65 (UV (Sha.blocks Sha.H0 M k)).toArray by rw [← hX.out]; exact (HBX1.out.below hb1 (by omega)).alloc _)
   have E0 := hide (show Blk X w.heap.size 72 (BV Z32).toArray by rw [← hX.out]; exact (HBX0.out.below hb1 (by omega)).alloc _)
   have E6 := hide (show Blk X w1.heap.size 128 (UV ws).toArray by rw [← hX.out]; exact Blk.new w1 _ _)
   have EO := hide (show X.ownsRow (w.heap.size + 1 + 1) 5 1 (.slice (some ⟨g2, 0, none⟩) M.length cap2) M.length (BV M) by rw [← hX.out]; exact (own_below HO.out hb1).alloc _)
   have hXw : Below w.heap.size w X := by rw [← hX.out]; exact (hbe.trans (hb1.mono (by omega))).alloc (by omega) _
   have HXK := hide (HK.out.below hXw (Nat.le_refl _))
   have HX := hide hXw
   have hg : w.heap.size + 2 ≤ w1.heap.size := by omega
   generalize w1.heap.size = g at *
   have hv8 := HBL.out k
   have hdef : Sha.compress (Sha.blocks Sha.H0 M k) b = List.zipWith (· + ·) (Sha.blocks Sha.H0 M k) (Sha.rounds ws (Sha.ofList (Sha.blocks Sha.H0 M k)) 64).list := by unfold Sha.compress; rw [HWS0.out]
   rw [← HBK'.out] at hdef
   have HDEF := hide hdef
   have HV := hide hv8
   clear hX hb1 hbe hg5 hXw hwr hdef hv8 HWK HB1 HBX1 HBX0 HO HBE
   generalize hvk : Sha.blocks Sha.H0 M (k + 1) = vn at *
   have HVK := hide hvk
   clear hvk
   generalize Sha.blocks Sha.H0 M k = v at *
   have c0 := blk_UV E1.out 0 (v.getD 0 0) (by have := HV.out; simp [List.getD, this])
   have c1 := blk_UV E1.out 1 (v.getD 1 0) (by have := HV.out; simp [List.getD, this])
   have c2 := blk_UV E1.out 2 (v.getD 2 0) (by have := HV.out; simp [List.getD, this])
   have c3 := blk_UV E1.out 3 (v.getD 3 0) (by have := HV.out; simp [List.getD, this])
   have c4 := blk_UV E1.out 4 (v.getD 4 0) (by have := HV.out; simp [List.getD, this])
   have c5 := blk_UV E1.out 5 (v.getD 5 0) (by have := HV.out; simp [List.getD, this])
   have c6 := blk_UV E1.out 6 (v.getD 6 0) (by have := HV.out; simp [List.getD, this])
   have c7 := blk_UV E1.out 7 (v.getD 7 0) (by have := HV.out; simp [List.getD, this])
   have HRS := hide (show ∀ n, Sha.rounds ws (Sha.ofList v) (n + 1) = Sha.step (Sha.rounds ws (Sha.ofList v) n) (Sha.K.getD n 0) (ws.getD n 0) from fun n => rfl)
   have HR0 := hide (show Sha.rounds ws (Sha.ofList v) 0 = Sha.ofList v from rfl)
   generalize Sha.rounds ws (Sha.ofList v) = rs at *
   have HV8 := hide (list8 v HV.out)
   have HOL := hide (show Sha.ofList v = ⟨v.getD 0 0, v.getD 1 0, v.getD 2 0, v.getD 3 0, v.getD 4 0, v.getD 5 0, v.getD 6 0, v.getD 7 0⟩ from rfl)
   generalize v.getD 0 0 = v0 at *
   generalize v.getD 1 0 = v1 at *
   generalize v.getD 2 0 = v2 at *
   generalize v.getD 3 0 = v3 at *
   generalize v.getD 4 0 = v4 at *
   generalize v.getD 5 0 = v5 at *
   generalize v.getD 6 0 = v6 at *
   generalize v.getD 7 0 = v7 at *
   go_quiet (fail)
   obtain ⟨wo, rfl⟩ : ∃ wo, wo = wr := ⟨wr, rfl⟩
   go_wp2_with fail
   go_loopw [7, 8, 9, 10, 11, 12, 13, 14, 15] (fun t6 t7 t8 t9 t10 t11 t12 t13 i wr => ∃ n m : Nat, n ≤ 64 ∧ i = .int .i64 (n : Int) ∧ wr = X.drewN m ∧ t6 = U (rs n).a ∧ t7 = U (rs n).b ∧ t8 = U (rs n).c ∧ t9 = U (rs n).d ∧ t10 = U (rs n).e ∧ t11 = U (rs n).f ∧ t12 = U (rs n).g ∧ t13 = U (rs n).h) (fun _ _ _ _ _ _ _ _ i _ => 64 - (intOf i).toNat)
   case atStart => exact ⟨0, _, Nat.zero_le _, rfl, rfl, by rw [HR0.out, HOL.out], by rw [HR0.out, HOL.out], by rw [HR0.out, HOL.out], by rw [HR0.out, HOL.out], by rw [HR0.out, HOL.out], by rw [HR0.out, HOL.out], by rw [HR0.out, HOL.out], by rw [HR0.out, HOL.out]⟩
   case round =>
    obtain ⟨n', m, hn', rfl, hwr, rfl, rfl, rfl, rfl, rfl, rfl, rfl, rfl⟩ := hrel
    subst hwr
    by_cases hlt : n' < 64
    ·clear c0 c1 c2 c3 c4 c5 c6 c7
     have hnext := HRS.out n'
     have cK : X.cell? ⟨0, n', none⟩ = some (U (Sha.K.getD n' 0)) := HXK.out n' hlt
     have cW := blk_UV E6.out n' (ws.getD n' 0) (by have := HWL.out; simp [List.getD, this, hlt])
     generalize Sha.K.getD n' 0 = kn at *
     generalize ws.getD n' 0 = wn at *
     have HN := hide hnext
     generalize hrn : rs n' = r at *
     have HRN := hide hrn
     clear hnext hrn
     obtain ⟨ra, rb, rc, rd, re, rf, rg, rh⟩ := r
     have n0 : (0 : Int) ≤ (n' : Int) := by omega
     have n64 : (n' : Int) < 64 := by omega
     have H6 := hide (fun W => refRotr_6 re W)
     have H11 := hide (fun W => refRotr_11 re W)
     have H25 := hide (fun W => refRotr_25 re W)
     have H2 := hide (fun W => refRotr_2 ra W)
     have H13 := hide (fun W => refRotr_13 ra W)
     have H22 := hide (fun W => refRotr_22 ra W)
     go_wp2_with fail
     have rx := wx_is
     have ra' := wa_is
     have rn := wn_is'
     have rp := wp_is
     have rpw := wp_isw
     go_quiet ((first
      | (go_at_call_of 82 (Value.int .i64 6); exact quiet_add (unhide H6 _))
      | (go_at_call_of 82 (Value.int .i64 11); exact quiet_add (unhide H11 _))
      | (go_at_call_of 82 (Value.int .i64 25); exact quiet_add (unhide H25 _))))
     go_wp2_with (first
      | (go_at_call_of 82 (Value.int .i64 2); refine (unhide H2 _).mono ?_; rintro e w' ⟨rfl, k2, rfl⟩)
      | (go_at_call_of 82 (Value.int .i64 13); refine (unhide H13 _).mono ?_; rintro e w' ⟨rfl, k13, rfl⟩)
      | (go_at_call_of 82 (Value.int .i64 22); refine (unhide H22 _).mono ?_; rintro e w' ⟨rfl, k22, rfl⟩))
     refine ⟨⟨n' + 1, m + nq + k2 + k13 + k22, by omega, by go_num, by simp only [World.drewN_drewN], ?_, ?_, ?_, ?_, ?_, ?_, ?_, ?_⟩, by simp [intOf]; omega⟩
     all_goals (rw [HN.out]; rfl)
    ·obtain rfl : n' = 64 := by omega
     rw [show ((64 : Nat) : Int) = 64 from rfl]
     generalize hr64 : rs 64 = r at *
     obtain ⟨ra, rb, rc, rd, re, rf, rg, rh⟩ := r
     have hvn : vn = [wp v0 ra, wp v1 rb, wp v2 rc, wp v3 rd, wp v4 re, wp v5 rf, wp v6 rg, wp v7 rh] := by
      rw [HDEF.out, HV8.out]; rfl
     have HVN := hide hvn
     have hlen : (UV [wp v0 ra, wp v1 rb, wp v2 rc, wp v3 rd, wp v4 re, wp v5 rf, wp v6 rg, wp v7 rh]).length = 8 := rfl
     have E1h := hide (show (X.drewN m).heap[w.heap.size + 1]? = some (.cells (UV v).toArray 65 (0, 0)) from E1.out)
     have HUV := hide (UV_len v)
     clear hvn hr64
     have rp := wp_is
     have rpw := wp_isw
     go_wp2_with (with_reducible refine wpList_store_row rfl 65 (.tmp 3) (.tmp 146) rfl (w.heap.size + 1) (UV [wp v0 ra, wp v1 rb, wp v2 rc, wp v3 rd, wp v4 re, wp v5 rf, wp v6 rg, wp v7 rh]).toArray rfl rfl 65 _ E1h.out ?s1 ?s2 ?s3 ?_)
     case s1 => exact valueSize
     case s2 => rw [List.size_toArray, HUV.out, HV.out]; rfl
     case s3 => exact all_oneCell_toArray (UV_one _)
     refine ⟨⟨k + 1, by omega, ?_, ?_, ?_, ?_, ?_⟩, ?_⟩
     ·rw [show 64 * (k + 1) = p + 64 by have := HP.out; omega]; rfl
     ·rw [HVK.out, HVN.out]; exact setRow_heap (X.drewN m) (w.heap.size + 1) _ _ _ _ E1h.out
     ·exact Blk.otherRow (w := X.drewN m) E0.out (by omega) _
     ·exact own_setRowh (own_drewN EO.out m) _ (by omega) _
     ·exact below_setRowh (below_drewN HX.out m) (by omega) _
     ·simp [intOf]; omega
  ·obtain rfl : k = nb := by omega
   have hML := HML.out
   have hcmp : ¬ ((64 * k : Nat) : Int) < (M.length : Int) := by omega
   have hv8 := HBL.out k
   have HSM := hide (show Sha.sum l = Sha.bytes (Sha.blocks Sha.H0 M k) from HSUM.out)
   have hwb := fun j h x hx => word_byte' (Sha.blocks Sha.H0 M k) j h x hx
   have hDl := Sha.bytes_len (Sha.blocks Sha.H0 M k)
   generalize Sha.blocks Sha.H0 M k = vf at *
   generalize Sha.bytes vf = D at *
   have HDL := hide (show D.length = 32 by omega)
   have HV2 := hide hv8
   have HWB := hide hwb
   have HB1 := hide hB1
   have HB0' := hide hB0
   have HBE := hide hbel
   have HMX := hide hML
   have hzs := zero32
   have hwr : w.heap.size + 1 < wr.heap.size := hB1.lt
   clear hB1 hB0 hown hbel hv8 hwb hDl hML
   obtain ⟨wd, rfl⟩ : ∃ wd, wd = wr := ⟨wr, rfl⟩
   generalize ((64 * k : Nat) : Int) = pk at *
   go_upto_region 23 with fail
   refine name_worldh fun V hV => ?_
   have K1 := hide (show Blk V (w.heap.size + 1) 65 (UV vf).toArray by rw [← hV.out]; exact HB1.out.alloc _)
   have K2 := hide (show Blk V w.heap.size 72 (BV Z32).toArray by rw [← hV.out]; exact HB0'.out.alloc _)
   have K5 := hide (show Blk V wd.heap.size 72 (BV (D.take 0 ++ Z32.drop 0)).toArray by rw [← hV.out]; exact Blk.new wd _ _)
   have HVb := hide (show Below w.heap.size w V by rw [← hV.out]; exact HBE.out.alloc HBE.out.size _)
   have hg5 : w.heap.size + 1 < wd.heap.size := hwr
   clear hV hzs hwr
   generalize wd.heap.size = g5 at *
   go_wp2_with fail
   go_loopw [19] (fun i wr => ∃ k : Nat, k ≤ 32 ∧ i = .int .i64 (k : Int) ∧ Blk wr g5 72 (BV (D.take k ++ Z32.drop k)).toArray ∧ Blk wr (w.heap.size + 1) 65 (UV vf).toArray ∧ Blk wr w.heap.size 72 (BV Z32).toArray ∧ Below w.heap.size w wr) (fun i _ => 32 - (intOf i).toNat)
   case atStart => exact ⟨0, Nat.zero_le _, rfl, K5.out, K1.out, K2.out, HVb.out⟩
   case round =>
    obtain ⟨k, hk, rfl, hB5, hB1, hB2, hbel⟩ := hrel
    by_cases hlt32 : k < 32
    ·obtain ⟨x, hx⟩ : ∃ x, D[k]? = some x := ⟨_, List.getElem?_eq_getElem (by have := HDL.out; omega)⟩
     have hsh := HWB.out k (by have := HV2.out; omega) x hx
     have hcv := blk_UV hB1 (k / 4) (vf.getD (k / 4) 0) (by have := HV2.out; rw [List.getD_eq_getElem?_getD, List.getElem?_eq_getElem (by omega)]; rfl)
     have hct : wr.cell? ⟨g5, k, none⟩ = some (.int .u8 0) := by
      have hl : (D.take k).length = k := by rw [List.length_take]; have := HDL.out; omega
      have hz : Z32.drop k = List.replicate (32 - k) 0 := by unfold Z32; rw [List.drop_replicate]
      rw [hB5.cell, List.getElem?_toArray, BV_append, List.getElem?_append_right (by rw [BV_len, hl]; omega), BV_len, hl, Nat.sub_self, hz, BV_zeros, List.getElem?_replicate, if_pos (by omega)]
     have hfr := hB5.frozen k
     have hset := bytes_set D k HDL.out hlt32 x hx
     generalize vf.getD (k / 4) 0 = y at *
     have HSET := hide hset
     have H5 := hide hB5
     have H1 := hide hB1
     have H2 := hide hB2
     have HB := hide hbel
     have k0 : (0 : Int) ≤ (k : Int) := by omega
     have k1 : (0 : Int) ≤ (k : Int) / 4 := by omega
     have k2 : (k : Int) / 4 < 8 := by omega
     have k3 : ((k : Int) / 4).toNat = k / 4 := by omega
     have k4 : (0 : Int) ≤ 24 - 8 * ((k : Int) % 4) := by omega
     have k5 : (24 - 8 * ((k : Int) % 4)).toNat = 24 - 8 * (k % 4) := by omega
     have k6 : (k : Int) < 32 := by omega
     clear hB5 hB1 hB2 hbel hset hx
     go_wp2
     refine ⟨⟨k + 1, by omega, by go_num, ?_, ?_, ?_, ?_⟩, by simp [intOf]; omega⟩
     ·have := H5.out.set_ k (.int .u8 ((x.toNat : Nat) : Int))
      rwa [List.setIfInBounds_toArray, HSET.out] at this
     ·exact H1.out.far (by show w.heap.size + 1 ≠ g5; omega) _
     ·exact H2.out.far (by show w.heap.size ≠ g5; omega) _
     ·exact HB.out.setCell (by show w.heap.size ≤ g5; omega) _
    ·obtain rfl : k = 32 := by omega
     rw [List.take_of_length_le (by have := HDL.out; omega), List.drop_eq_nil_of_le (by simp [Z32]), List.append_nil] at hB5
     have hlen : (BV D).length = 32 := by rw [BV_len, HDL.out]
     have hone := BV_one D
     have hfin2 : Sha.sum l = D := HSM.out
     generalize hout : BV D = out at *
     have HOUT := hide hout
     have HLN := hide hlen
     have H1' := hide hone
     have HF := hide hfin2
     have E5 := hide (show wr.heap[g5]? = some (.cells out.toArray 72 (0, 0)) from hB5)
     have E2 := hide (show wr.heap[w.heap.size]? = some (.cells (BV Z32).toArray 72 (0, 0)) from hB2)
     have HBe := hide hbel
     clear hB5 hB1 hB2 hbel hlen hone hout hfin2
     go_wp2_with (first | (with_reducible refine wpList_load_row rfl 72 (.tmp 18) rfl g5 rfl 72 out.toArray (0, 0) _ E5.out Tryd.underlying72 rfl ?f9 ?_) | (with_reducible refine wpList_store_row rfl 72 (.tmp 2) (.tmp 163) rfl w.heap.size out.toArray rfl rfl 72 _ E2.out ?g9 ?g8 ?ga ?_))
     case f9 => first | (rw [List.size_toArray, HLN.out]; exact size32) | (rw [HLN.out]; exact Option.map_eq_some_iff.1 size32)
     case g9 => first | (rw [List.size_toArray, HLN.out]; exact size32) | (rw [HLN.out]; exact Option.map_eq_some_iff.1 size32)
     case g8 => first | (rw [show out.toArray.size = 32 by rw [List.size_toArray, HLN.out]]; rfl) | (rw [HLN.out]; rfl)
     case ga => first | exact all_oneCell_toArray H1'.out | exact H1'.out
     have hload : (loadVar 72 ⟨w.heap.size, 0, none⟩).run Tryd.prog (wr.setRow w.heap.size out.toArray) = .ok (.agg out.toArray) (wr.setRow w.heap.size out.toArray) :=
      run_loadVar_row _ _ _ _ _ _ _ (setRow_heap wr w.heap.size _ out.toArray _ _ E2.out) Tryd.underlying72 rfl (by rw [List.size_toArray, HLN.out]; exact size32)
     exact bodyPost_ret (v := .agg out.toArray) (results_cell0h Tryd.results66 _ _ ⟨w.heap.size, 0, none⟩ _ rfl hload) rfl ⟨by rw [HF.out, HOUT.out], below_setRowh HBe.out (Nat.le_refl _) _⟩
end Go.Proofs.YtjnnohghgkjhcaaDoor
