/-
  A masked key, by contract.
-/
import Derived.Test.YtedgjpoejoepjaaDoorHead
namespace Go.Proofs.YtedgjpoejoepjaaDoor
open Go.RowKit
set_option linter.unusedVariables false
set_option linter.unusedSimpArgs false

namespace Sha
/-- a key of at most 64 bytes, filled up and masked -/
def masked (k : List UInt8) (x : UInt8) : List UInt8 := (pad64 k).map (· ^^^ x)
theorem masked_len (k : List UInt8) (x : UInt8) (h : k.length ≤ 64) : (masked k x).length = 64 := by unfold masked; rw [List.length_map, pad64_len k h]
def keyOf (k : List UInt8) : List UInt8 := if 64 < k.length then sum k else k
def mac (k t : List UInt8) : List UInt8 := sum (masked (keyOf k) 92 ++ sum (masked (keyOf k) 54 ++ t))
theorem sum_len (m : List UInt8) : (sum m).length = 32 := by unfold sum; rw [bytes_len, blocks_len _ _ _ rfl]
theorem keyOf_len (k : List UInt8) : (keyOf k).length ≤ 64 := by unfold keyOf; split <;> first | (rw [sum_len]; omega) | omega
/-- the block while it is masked -/
def half (P : List UInt8) (x : UInt8) (i : Nat) : List UInt8 := (P.take i).map (· ^^^ x) ++ P.drop i
theorem half_len (P : List UInt8) (x : UInt8) (i : Nat) (h : i ≤ P.length) : (half P x i).length = P.length := by unfold half; simp; omega
theorem half_get (P : List UInt8) (x : UInt8) (i : Nat) (h : i < P.length) : (half P x i)[i]? = some P[i] := by
  have hl : ((P.take i).map (· ^^^ x)).length = i := by simp; omega
  unfold half
  rw [List.getElem?_append_right (by omega), hl, Nat.sub_self, List.getElem?_drop]
  simp [h]
theorem half_succ (P : List UInt8) (x : UInt8) (i : Nat) (h : i < P.length) : (half P x i).set i (P[i] ^^^ x) = half P x (i + 1) := by
  have hl : ((P.take i).map (· ^^^ x)).length = i := by simp; omega
  unfold half
  rw [List.set_append_right _ _ (by omega), hl, Nat.sub_self, List.drop_eq_getElem_cons h, List.set_cons_zero, List.take_succ_eq_append_getElem h, List.map_append, List.append_assoc]
  rfl
end Sha
theorem zeroBlock (W : World) : (zeroValue 77).run Tryd.prog W = .ok (.agg (BV Z64).toArray) W := by kernel_rfl
theorem reads_blk {w : World} {g : Nat} {t : TypeId} {l : List UInt8} {n : Nat} (h : Blk w g t (BV l).toArray) (hn : l.length = n) : Reads w w.heap.size 1 (some ⟨g, 0, none⟩) n (BV l) := by
  refine ⟨by rw [BV_len]; omega, fun _ => ⟨_, rfl, h.lt, fun j u hj => ?_⟩⟩
  rw [show ((⟨g, 0, none⟩ : Addr).add j) = ⟨g, j, none⟩ by simp [Addr.add]; intro h; omega, h.cell, List.getElem?_toArray]
  exact hj
theorem bytes_cell {w : World} {g : Nat} {t : TypeId} {l : List UInt8} (h : Blk w g t (BV l).toArray) (i : Nat) (x : UInt8) (hx : l[i]? = some x) : w.cell? ⟨g, i, none⟩ = some (.int .u8 (x.toNat : Int)) := by
  rw [h.cell, List.getElem?_toArray]
  simp [BV, hx]
theorem bytes_put {w : World} {g : Nat} {t : TypeId} {l : List UInt8} (h : Blk w g t (BV l).toArray) (i : Nat) (x : UInt8) : Blk (w.setCell ⟨g, i, none⟩ (.int .u8 (x.toNat : Int))) g t (BV (l.set i x)).toArray := by
  have := h.set_ i (.int .u8 (x.toNat : Int))
  rw [List.setIfInBounds_toArray] at this
  have e : (BV l).set i (.int .u8 (x.toNat : Int)) = BV (l.set i x) := by simp [BV, List.map_set]
  rwa [e] at this

set_option maxHeartbeats 1000000 in
set_option maxRecDepth 100000 in
theorem masked_any (k : List UInt8) (x : UInt8) (w : World) (hk : k.length ≤ 64) (hK : KLaid w) :
    Calls Tryd.prog 60 #[.string (S k), .int .u8 ((x.toNat : Nat) : Int)] w fun e w' => e = .returned (.agg (ST (Sha.masked k x)).toArray) ∧ Below w.heap.size w w' := by
  have hml := Sha.masked_len k x hk
  have hmd : Sha.masked k x = Sha.half (Sha.pad64 k) x 64 := by
    unfold Sha.masked Sha.half
    rw [List.take_of_length_le (by rw [Sha.pad64_len k hk]; omega), List.drop_eq_nil_of_le (by rw [Sha.pad64_len k hk]; omega), List.append_nil]
  have hpl := Sha.pad64_len k hk
  have HP := hide (show Sha.pad64 k = k ++ List.replicate (64 - k.length) 0 from rfl)
  generalize Sha.pad64 k = P at *
  generalize hMM : Sha.masked k x = M at *
  have HAD := hide (fun W hW => add_new M W hW (by omega))
  have hsl := ST_len M
  have hone : ∀ v ∈ ST M, v.oneCell' = true := SC_one _ _ _
  generalize hout : ST M = out at *
  have HOUT := hide hout
  have HLEN := hide hsl
  have HONE := hide hone
  have HML := hide hml
  have HMD := hide hmd
  have HPL := hide hpl
  have HKL0 := hide hK
  have hby := x.toNat_lt
  have HXX := hide (fun (c : UInt8) => xor_byte c x)
  generalize hxb : x.toNat = xb at *
  have HXB := hide hxb
  have hzs := zeroStream
  have hzb := zeroBlock
  have hks : (S k).size = k.length := rfl
  clear hK hml hmd hpl hone hout hMM hxb hks
  go_enter Tryd.func60, Tryd.ntmps60
  go_upto_region 2 with fail
  refine name_world fun W hW => ?_
  have B1 := hide (show Blk W w.heap.size 80 (SC W8 Z64 0).toArray by rw [← hW.out]; exact (Blk.new w _ _).alloc _)
  have B2 := hide (show Blk W (w.heap.size + 1) 77 (BV Z64).toArray by
    rw [← hW.out]
    have := Blk.new (w.alloc (.cells (SC W8 Z64 0).toArray 80)) 77 (BV Z64).toArray
    rw [show (w.alloc (.cells (SC W8 Z64 0).toArray 80)).heap.size = w.heap.size + 1 by simp] at this
    exact this)
  have HW := hide (show Below w.heap.size w W by rw [← hW.out]; exact ((Below.refl _ _).alloc (Nat.le_refl _) _).alloc (by simp) _)
  have hws : w.heap.size + 2 ≤ W.heap.size := by rw [← hW.out]; simp
  have HT := hide (B2.out.there_ 0 k.length (by rw [BV_len]; show 0 + k.length ≤ 64; omega))
  clear hW hzs hzb
  go_upto_region 3 with (with_reducible refine wpList_copy_text rfl (.tmp 7) (.tmp 8) 51 9 rfl 5 Tryd.underlying51 byteOne (w.heap.size + 1) 0 64 64 rfl k rfl k.length ?c1 HT.out ?_)
  case c1 => omega
  intro X hX
  have C1 := hide (show Blk X w.heap.size 80 (SC W8 Z64 0).toArray by rw [← hX.out]; exact B1.out.farCells _ _ (by omega))
  have C2 := hide (show Blk X (w.heap.size + 1) 77 (BV (Sha.half P x 0)).toArray by
    rw [← hX.out]
    have e0 : BV Z64 = [] ++ (BV (List.replicate k.length 0) ++ BV (List.replicate (64 - k.length) 0)) := by
      rw [List.nil_append, ← BV_append, List.replicate_append_replicate, show k.length + (64 - k.length) = 64 by omega]; rfl
    have h2 := B2.out
    rw [e0] at h2
    have := Blk.part [] _ _ (BV (k.take k.length)) h2 0 rfl (by rw [BV_len, BV_len]; simp)
    rw [List.take_length, List.nil_append, ← BV_append] at this
    have e1 : Sha.half P x 0 = k ++ List.replicate (64 - k.length) 0 := by unfold Sha.half; rw [HP.out]; rfl
    rw [e1]
    exact this)
  have HX := hide (show Below w.heap.size w X by rw [← hX.out]; exact below_setCells (by omega) _ _ _ HW.out)
  have hXs : w.heap.size + 2 ≤ X.heap.size := by have := (below_setCells (B := w.heap.size) (b := w.heap.size + 1) (by omega) (BV k) 0 W (Below.refl w.heap.size W)).size; have hX' := hX.out; first | (rw [hX'] at this; have h3 := C2.out.lt; have h4 := C1.out.lt; omega) | (have h3 := C2.out.lt; omega)
  clear hX B1 B2 HW hws HT
  go_wp2_with fail
  go_loopw [10] (fun i wr => ∃ j : Nat, j ≤ 64 ∧ i = .int .i64 (j : Int) ∧ Blk wr (w.heap.size + 1) 77 (BV (Sha.half P x j)).toArray ∧ Blk wr w.heap.size 80 (SC W8 Z64 0).toArray ∧ Below w.heap.size w wr ∧ w.heap.size + 2 ≤ wr.heap.size) (fun i _ => 64 - (intOf i).toNat)
  case atStart => exact ⟨0, Nat.zero_le _, rfl, C2.out, C1.out, HX.out, hXs⟩
  case round =>
    obtain ⟨j, hj, rfl, hB2, hB1, hbel, hws⟩ := hrel
    by_cases hlt : j < 64
    · have hjP : j < P.length := by have := HPL.out; omega
      have hcell := bytes_cell hB2 j _ (Sha.half_get P x j hjP)
      have hfr := hB2.frozen j
      have hxr := HXX.out P[j]
      have hset := bytes_put hB2 j (P[j] ^^^ x)
      rw [Sha.half_succ P x j hjP] at hset
      generalize (P[j] ^^^ x).toNat = yb at *
      generalize (P[j]).toNat = cb at *
      have HSET := hide hset
      have H1 := hide hB1
      have HB := hide hbel
      have j0 : (0 : Int) ≤ (j : Int) := by omega
      clear hset hB2 hB1 hbel
      go_wp2
      refine ⟨⟨j + 1, by omega, by go_num, HSET.out, H1.out.far (by show w.heap.size ≠ w.heap.size + 1; omega) _, HB.out.setCell (by show w.heap.size ≤ w.heap.size + 1; omega) _, by simpa using hws⟩, by simp [intOf]; omega⟩
    · obtain rfl : j = 64 := by omega
      rw [← HMD.out] at hB2
      obtain ⟨wd, rfl⟩ : ∃ wd, wd = wr := ⟨wr, rfl⟩
      have hwd : w.heap.size + 2 ≤ wd.heap.size := hws
      have HCV := hide (fun (W' : World) (hb : Below wd.heap.size wd W') => run_conv_reads (P := Tryd.prog) ((reads_blk hB2 HML.out).below hb) 51 9 5 64 Tryd.underlying51 Tryd.underlying5 Tryd.underlying9)
      have HKL := hide (fun (W' : World) (hb : Below wd.heap.size wd W') => HKL0.out.below (hbel.trans (hb.mono (by omega))) (Nat.le_refl _))
      have HTH := hide (fun (W' : World) (hb : Below wd.heap.size wd W') => there_below (hB1.there_ 0 73 (by rw [SC_len]; decide)) hb (by omega))
      have hst : ∀ W', W'.there w.heap.size 0 73 → (storeCells ⟨w.heap.size, 0, none⟩ out 0).run Tryd.prog W' = .ok () (W'.setCells w.heap.size 0 out) := fun W' h => run_store_cells W' w.heap.size out HONE.out (by rw [HLEN.out]; exact h)
      have hos : out.toArray.size = 73 := by rw [List.size_toArray, HLEN.out]
      have HBE := hide hbel
      have hc0 := unhide HCV wd.drew (Below.refl wd.heap.size wd).drew
      clear hB2 hB1 hbel
      go_upto_region 8 with fail
      go_region_with (first
        | (go_at_call 52; refine (begin_st _).mono ?_; rintro e w1 ⟨rfl, hb1⟩; have hB1 : Below wd.heap.size wd w1 := below_drawn hb1; have hc1 := unhide HCV w1 hB1)
        | (go_at_call 53; refine (unhide HAD w1 (unhide HKL w1 hB1)).mono ?_; rintro e w2 ⟨rfl, hb2⟩; have hB2 := hB1.trans (hb2.mono hB1.size); have ht3 := unhide HTH w2 hB2))
      all_goals
        have hrg := range_setCells (W := w2) (g := w.heap.size) (cs := out) (by rw [HLEN.out]; exact ht3)
        have hload := run_loadVar_mid (P := Tryd.prog) (w2.setCells w.heap.size 0 out) w.heap.size 0 80 out _ hrg Tryd.underlying80 rfl (by rw [HLEN.out]; exact streamSize)
        have HLOAD := hide hload
        have HB2 := hide hB2
        clear hst hos ht3 hrg hload hc0 hc1 hB1 hB2
        go_wp2
        exact bodyPost_ret (v := .agg out.toArray) (results_cell0 Tryd.results60 _ _ ⟨w.heap.size, 0, none⟩ _ rfl HLOAD.out) rfl ⟨rfl, below_setCells (Nat.le_refl _) _ _ _ (HBE.out.trans (HB2.out.mono (by omega)))⟩
end Go.Proofs.YtedgjpoejoepjaaDoor
