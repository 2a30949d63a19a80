/-
  The words of a block by the reference, by contract.
-/
import Derived.Test.YtedgjpoejoepjaaDoorPad
import Derived.Test.YtedgjpoejoepjaaDoorWs
namespace Go.Proofs.YtedgjpoejoepjaaDoor
open Go.RowKit
set_option linter.unusedVariables false
set_option linter.unusedSimpArgs false

/-- the words behind t rounds of the first loop -/
def rst (b : List UInt8) (t : Nat) : List UInt32 := (List.range t).map (Sha.word b) ++ List.replicate (64 - t) 0
theorem rst_len (b : List UInt8) (t : Nat) (h : t ≤ 64) : (rst b t).length = 64 := by simp [rst]; omega
theorem rst_zero (b : List UInt8) : rst b 0 = List.replicate 64 0 := rfl
theorem rst_sst (b : List UInt8) : rst b 16 = sst b 0 := rfl
theorem rst_succ (b : List UInt8) (t : Nat) (h : t < 64) : rst b (t + 1) = (rst b t).set t (Sha.word b t) := by
  unfold rst
  rw [List.set_append_right _ _ (by simp), show t - ((List.range t).map (Sha.word b)).length = 0 by simp, show 64 - t = (64 - (t + 1)) + 1 by omega, List.replicate_succ, List.set_cons_zero, List.range_succ, List.map_append]
  simp
theorem rst_get (b : List UInt8) (t : Nat) (h : t < 64) : (rst b t)[t]? = some 0 := by
  unfold rst
  rw [List.getElem?_append_right (by simp), show t - ((List.range t).map (Sha.word b)).length = 0 by simp, List.getElem?_replicate, if_pos (by omega)]
theorem word_four (b : List UInt8) (t : Nat) (h : 4 * t + 3 < b.length) : Sha.word b t = ((b[4 * t].toUInt32 <<< 8 ||| b[4 * t + 1].toUInt32) <<< 8 ||| b[4 * t + 2].toUInt32) <<< 8 ||| b[4 * t + 3].toUInt32 := by
  unfold Sha.word
  have e : (b.drop (4 * t)).take 4 = [b[4 * t], b[4 * t + 1], b[4 * t + 2], b[4 * t + 3]] := by
    rw [List.drop_eq_getElem_cons (by omega), List.drop_eq_getElem_cons (by omega), List.drop_eq_getElem_cons (by omega), List.drop_eq_getElem_cons (by omega)]
    rfl
  rw [e]
  simp [Sha.pw]
theorem four_is (y0 y1 y2 y3 : UInt32) : ((y0 <<< 8 ||| y1) <<< 8 ||| y2) <<< 8 ||| y3 = y0 <<< 24 ||| y1 <<< 16 ||| y2 <<< 8 ||| y3 := by
  rw [UInt32.shiftLeft_or, UInt32.shiftLeft_or, UInt32.shiftLeft_or, ← UInt32.shiftLeft_add (by decide) (by decide) (by decide), ← UInt32.shiftLeft_add (by decide) (by decide) (by decide), ← UInt32.shiftLeft_add (by decide) (by decide) (by decide)]
  rfl
def wl (a k : UInt32) : UInt32 := a <<< k
def wo (a b : UInt32) : UInt32 := a ||| b
theorem wo_is (a b : UInt32) : bits .or .u32 (a.toNat : Int) (b.toNat : Int) = ((wo a b).toNat : Int) := U_or a b
theorem wl_is (a : UInt32) (k : Nat) (m : Int) (hm : m = 2 ^ k) (h : k < 32) : IntKind.u32.wrap ((a.toNat : Int) * m) = ((wl a (UInt32.ofNat k)).toNat : Int) := by
  subst hm
  rw [IntKind.wrap_u32', U_shl a k h]
  rfl
theorem u8_u32 (x : UInt8) : IntKind.u32.wrap (x.toNat : Int) = ((x.toUInt32).toNat : Int) := by
  rw [IntKind.wrap_u32']
  have := x.toNat_lt
  simp
  omega
theorem reads_cell' {w : World} {B n : Nat} {ad : Addr} {l : List UInt8} (hr : Reads w B 1 (some ad) n (BV l)) (i : Nat) (hi : i < l.length) (h0 : i ≠ 0) : w.cell? ⟨ad.block, ad.off + i, none⟩ = some (.int .u8 ((l[i]'hi).toNat : Int)) := by
  have := reads_cell hr i hi
  unfold Addr.add at this
  rwa [if_neg h0] at this
theorem quiet_more {P : Program} {f : FuncId} {args : Array Value} {w : World} {n : Nat} {v : Value}
    (h : Calls P f args (w.drewN n) fun e w' => e = .returned v ∧ ∃ k, w' = (w.drewN n).drewN k) : Calls P f args (w.drewN n) fun e w'' => e = .returned v ∧ ∃ m, w'' = w.drewN m :=
  h.mono fun _ _ ⟨he, k, hm⟩ => ⟨he, n + k, by rw [hm, World.drewN_drewN]⟩
theorem zeroWords (W : World) : (zeroValue 97).run Tryd.prog W = .ok (.agg (UV (List.replicate 64 0)).toArray) W := by kernel_rfl

set_option maxHeartbeats 1000000 in
set_option maxRecDepth 100000 in
theorem refWords_any (ad : Addr) (c : Nat) (b : List UInt8) (w : World) (hr : Reads w w.heap.size 1 (some ad) 64 (BV b)) (hc : 64 ≤ c) :
    Calls Tryd.prog 69 #[.slice (some ad) 64 c] w fun e w' => e = .returned (.agg (UV (Sha.words b)).toArray) ∧ Below w.heap.size w w' := by
  have hb : b.length = 64 := by have := hr.1; simp [BV] at this; omega
  have HB := hide hb
  have HR := hide hr
  have hzs := zeroWords
  clear hb hr
  rw [← rst_zero b] at hzs
  go_enter Tryd.func69, Tryd.ntmps69
  go_upto_region 2 with fail
  refine name_world fun W hW => ?_
  have H2 := hide (show Blk W w.heap.size 97 (UV (rst b 0)).toArray by rw [← hW.out]; exact ((Blk.new w _ _).alloc _))
  have H3 := hide (show Blk W (w.heap.size + 1) 97 (UV (rst b 0)).toArray by
    rw [← hW.out]
    have := Blk.new (w.alloc (.cells (UV (rst b 0)).toArray 97)) 97 (UV (rst b 0)).toArray
    rw [show (w.alloc (.cells (UV (rst b 0)).toArray 97)).heap.size = w.heap.size + 1 by simp] at this
    exact this)
  have HW := hide (show Below w.heap.size w W by rw [← hW.out]; exact ((Below.refl _ _).alloc (Nat.le_refl _) _).alloc (by simp) _)
  clear hW hzs
  go_wp2_with fail
  go_loopw [4] (fun i wr => ∃ t m : Nat, t ≤ 16 ∧ i = .int .i64 (t : Int) ∧ Blk wr (w.heap.size + 1) 97 (UV (rst b t)).toArray ∧ Blk wr w.heap.size 97 (UV (rst b 0)).toArray ∧ Below w.heap.size w wr) (fun i _ => 16 - (intOf i).toNat)
  case atStart => exact ⟨0, 0, Nat.zero_le _, rfl, H3.out, H2.out, HW.out⟩
  case round =>
    obtain ⟨t, m, ht, rfl, hB3, hB2, hbel⟩ := hrel
    by_cases hlt : t < 16
    · have hbl : 4 * t + 3 < b.length := by have := HB.out; omega
      have hct := blk_UV hB3 t _ (rst_get b t (by omega))
      have hfz := hB3.frozen t
      have hrd := HR.out.below hbel
      have g0 := reads_cell hrd (4 * t) (by omega)
      have g1 := reads_cell' hrd (4 * t + 1) (by omega) (by omega)
      have g2 := reads_cell' hrd (4 * t + 2) (by omega) (by omega)
      have g3 := reads_cell' hrd (4 * t + 3) (by omega) (by omega)
      have HS := hide (rst_succ b t (by omega))
      have HWF := hide ((word_four b t hbl).trans (four_is _ _ _ _))
      generalize b[4 * t] = x0 at *
      generalize b[4 * t + 1] = x1 at *
      generalize b[4 * t + 2] = x2 at *
      generalize b[4 * t + 3] = x3 at *
      have H3' := hide hB3
      have H2' := hide hB2
      have HBL := hide hbel
      clear hB3 hB2 hbel hrd
      have v0 : IntKind.i64.wrap (4 * (t : Int)) = 4 * (t : Int) := IntWalk.i64_in _ (by omega)
      have v1 : IntKind.i64.wrap (4 * (t : Int) + 1) = 4 * (t : Int) + 1 := IntWalk.i64_in _ (by omega)
      have v2 : IntKind.i64.wrap (4 * (t : Int) + 2) = 4 * (t : Int) + 2 := IntWalk.i64_in _ (by omega)
      have v3 : IntKind.i64.wrap (4 * (t : Int) + 3) = 4 * (t : Int) + 3 := IntWalk.i64_in _ (by omega)
      have e0 : (4 * (t : Int)).toNat = 4 * t := by omega
      have e1 : (4 * (t : Int) + 1).toNat = 4 * t + 1 := by omega
      have e2 : (4 * (t : Int) + 2).toNat = 4 * t + 2 := by omega
      have e3 : (4 * (t : Int) + 3).toNat = 4 * t + 3 := by omega
      have f0 : (0 : Int) ≤ 4 * (t : Int) := by omega
      have f1 : 4 * (t : Int) < 64 := by omega
      have f2 : 4 * (t : Int) + 1 < 64 := by omega
      have f3 : 4 * (t : Int) + 2 < 64 := by omega
      have f4 : 4 * (t : Int) + 3 < 64 := by omega
      have f5 : (0 : Int) ≤ 4 * (t : Int) + 1 := by omega
      have f6 : (0 : Int) ≤ 4 * (t : Int) + 2 := by omega
      have f7 : (0 : Int) ≤ 4 * (t : Int) + 3 := by omega
      have f8 : (t : Int) < 64 := by omega
      have f9 : (0 : Int) ≤ (t : Int) := by omega
      have p0 := u8_u32 x0
      have p1 := u8_u32 x1
      have p2 := u8_u32 x2
      have p3 := u8_u32 x3
      have q0 := wl_is x0.toUInt32 24 16777216 rfl (by omega)
      have q1 := wl_is x1.toUInt32 16 65536 rfl (by omega)
      have q2 := wl_is x2.toUInt32 8 256 rfl (by omega)
      generalize x0.toUInt32 = y0 at *
      generalize x1.toUInt32 = y1 at *
      generalize x2.toUInt32 = y2 at *
      generalize x3.toUInt32 = y3 at *
      have qo := wo_is
      go_wp2_with fail
      go_still_tail 35, (by kernel_rfl)
      change wpList _ _ _ _ _ wr.drew
      clear v0 v1 v2 v3 p0 p1 p2 p3 q0 q1 q2 qo
      go_wp2
      refine ⟨⟨t + 1, m, by omega, by go_num, ?_, ?_, ?_⟩, by simp [intOf]; omega⟩
      · rw [HS.out, HWF.out]; exact blk_UV_set (w := wr.drew) H3'.out t _
      · exact Blk.far (w := wr.drew) H2'.out (by show w.heap.size ≠ w.heap.size + 1; omega) _
      · exact (HBL.out.drew).setCell (by show w.heap.size ≤ w.heap.size + 1; omega) _
    · obtain rfl : t = 16 := by omega
      rw [show ((16 : Nat) : Int) = 16 from rfl]
      rw [rst_sst b] at hB3
      obtain ⟨wd, rfl⟩ : ∃ wd, wd = wr := ⟨wr, rfl⟩
      have H3' := hide hB3
      have H2' := hide hB2
      have HW' := hide hbel
      clear hB3 hB2 hbel
      go_wp2_with fail
      go_loopw [5] (fun i wr => ∃ n t : Nat, n ≤ 48 ∧ t = 16 + n ∧ i = .int .i64 (t : Int) ∧ Blk wr (w.heap.size + 1) 97 (UV (sst b n)).toArray ∧ Blk wr w.heap.size 97 (UV (rst b 0)).toArray ∧ Below w.heap.size w wr) (fun i _ => 64 - (intOf i).toNat)
      case atStart => exact ⟨0, 16, Nat.zero_le _, rfl, rfl, H3'.out, H2'.out, HW'.out⟩
      case round =>
        obtain ⟨n, t, hn, htn, rfl, hB3, hB2, hbel⟩ := hrel
        by_cases hlt : t < 64
        · have c16 := blk_UV hB3 (t - 16) _ (sst_get b n (t - 16) (by omega))
          have c15 := blk_UV hB3 (t - 15) _ (sst_get b n (t - 15) (by omega))
          have c7 := blk_UV hB3 (t - 7) _ (sst_get b n (t - 7) (by omega))
          have c2 := blk_UV hB3 (t - 2) _ (sst_get b n (t - 2) (by omega))
          have hfz := hB3.frozen t
          have hct : wr.cell? ⟨w.heap.size + 1, t, none⟩ = some (U ((sst b n)[t]'(by rw [sst_len b n hn]; exact hlt))) := blk_UV hB3 t _ (List.getElem?_eq_getElem (by rw [sst_len b n hn]; exact hlt))
          generalize (sst b n)[t]'(by rw [sst_len b n hn]; exact hlt) = old at *
          have hst := sst_succ b n (by omega)
          rw [← htn] at hst
          unfold Sha.next at hst
          generalize (Sha.sched ((List.range 16).map (Sha.word b)) n).getD (t - 16) 0 = x16 at *
          generalize (Sha.sched ((List.range 16).map (Sha.word b)) n).getD (t - 15) 0 = x15 at *
          generalize (Sha.sched ((List.range 16).map (Sha.word b)) n).getD (t - 7) 0 = x7 at *
          generalize (Sha.sched ((List.range 16).map (Sha.word b)) n).getD (t - 2) 0 = x2 at *
          have HS := hide hst
          have H3'' := hide hB3
          have H2'' := hide hB2
          have HT := hide htn
          clear hB3 hB2 hst htn
          have t16 : 16 ≤ t := by have := HT.out; omega
          have b1 : (0 : Int) ≤ (t : Int) - 16 := by omega
          have b2 : (0 : Int) ≤ (t : Int) - 15 := by omega
          have b3 : (0 : Int) ≤ (t : Int) - 7 := by omega
          have b4 : (0 : Int) ≤ (t : Int) - 2 := by omega
          have b5 : (t : Int) < 64 := by omega
          have e1 : ((t : Int) - 16).toNat = t - 16 := by omega
          have e2 : ((t : Int) - 15).toNat = t - 15 := by omega
          have e3 : ((t : Int) - 7).toNat = t - 7 := by omega
          have e4 : ((t : Int) - 2).toNat = t - 2 := by omega
          have d1 : (16 : Int) ≤ (t : Int) := by omega
          have d2 : (7 : Int) ≤ (t : Int) := by omega
          have d2' : (15 : Int) ≤ (t : Int) := by omega
          have d2'' : (2 : Int) ≤ (t : Int) := by omega
          have d3 : (t : Int) - 16 < 64 := by omega
          have d4 : (t : Int) - 7 < 64 := by omega
          have d4' : (t : Int) - 15 < 64 := by omega
          have d4'' : (t : Int) - 2 < 64 := by omega
          have d5 : (0 : Int) ≤ (t : Int) := by omega
          have H7 := hide (fun W => refRotr_7 x15 W)
          have H18 := hide (fun W => refRotr_18 x15 W)
          have H17 := hide (fun W => refRotr_17 x2 W)
          have H19 := hide (fun W => refRotr_19 x2 W)
          go_wp2
          have v1 : IntKind.i64.wrap ((t : Int) - 16) = (t : Int) - 16 := IntWalk.i64_in _ (by omega)
          have v2 : IntKind.i64.wrap ((t : Int) - 15) = (t : Int) - 15 := IntWalk.i64_in _ (by omega)
          have v3 : IntKind.i64.wrap ((t : Int) - 7) = (t : Int) - 7 := IntWalk.i64_in _ (by omega)
          have v4 : IntKind.i64.wrap ((t : Int) - 2) = (t : Int) - 2 := IntWalk.i64_in _ (by omega)
          have s3 : (x15.toNat : Int) / 8 = ((ws x15 3).toNat : Int) := by have := U_shr x15 3 (by omega); exact this
          have s10 : (x2.toNat : Int) / 1024 = ((ws x2 10).toNat : Int) := by have := U_shr x2 10 (by omega); exact this
          have rx := wx_is
          go_quiet ((first
            | (go_at_call_of 70 (Value.int .i64 7); exact quiet_more (unhide H7 _))
            | (go_at_call_of 70 (Value.int .i64 18); exact quiet_more (unhide H18 _))))
          go_wp2_with fail
          go_quiet ((first
            | (go_at_call_of 70 (Value.int .i64 17); exact quiet_add (unhide H17 _))
            | (go_at_call_of 70 (Value.int .i64 19); exact quiet_add (unhide H19 _))))
          go_wp2_with fail
          have rp := wp_is
          have rpw := wp_isw
          refine name_world fun W hW => ?_
          have w16 : W.cell? ⟨w.heap.size + 1, t - 16, none⟩ = some (U x16) := by rw [← hW.out]; exact c16
          have w7 : W.cell? ⟨w.heap.size + 1, t - 7, none⟩ = some (U x7) := by rw [← hW.out]; exact c7
          have wct : W.cell? ⟨w.heap.size + 1, t, none⟩ = some (U old) := by rw [← hW.out]; exact hct
          have wfz : W.frozen? ⟨w.heap.size + 1, t, none⟩ = false := by rw [← hW.out]; exact hfz
          have W3 := hide (show Blk W (w.heap.size + 1) 97 (UV (sst b n)).toArray by rw [← hW.out]; exact H3''.out)
          have W2 := hide (show Blk W w.heap.size 97 (UV (rst b 0)).toArray by rw [← hW.out]; exact H2''.out)
          have WB := hide (show Below w.heap.size w W by rw [← hW.out]; exact below_drewN (below_drewN hbel _) _)
          have C16 : ∀ tp dr o out, ({ heap := W.heap, tape := tp, drawn := dr, os := o, output := out } : World).cell? ⟨w.heap.size + 1, t - 16, none⟩ = some (U x16) := fun _ _ _ _ => w16
          have C7 : ∀ tp dr o out, ({ heap := W.heap, tape := tp, drawn := dr, os := o, output := out } : World).cell? ⟨w.heap.size + 1, t - 7, none⟩ = some (U x7) := fun _ _ _ _ => w7
          clear c16 c15 c7 c2 hct hfz hW w16 w7
          go_still_tail 15, (by kernel_rfl)
          clear v1 v2 v3 v4
          change wpList _ _ _ _ _ W.drew
          go_wp2
          refine ⟨⟨n + 1, t + 1, by have := HT.out; omega, by have := HT.out; omega, by go_num, ?_, ?_, ?_⟩, by simp [intOf]; omega⟩
          · rw [HS.out]; exact blk_UV_set (w := W.drew) W3.out t _
          · exact Blk.far (w := W.drew) W2.out (by show w.heap.size ≠ w.heap.size + 1; omega) _
          · exact WB.out.drew.setCell (by show w.heap.size ≤ w.heap.size + 1; omega) _
        · obtain rfl : n = 48 := by omega
          rw [sst_full] at hB3
          have hlen : (UV (Sha.words b)).length = 64 := by rw [UV_len, ← sst_full, sst_len b 48 (by omega)]
          have hlen0 : (UV (rst b 0)).length = 64 := by rw [UV_len, rst_len b 0 (by omega)]
          have hone : ∀ v ∈ UV (Sha.words b), v.oneCell' = true := by
            intro v hv
            simp only [UV, List.mem_map] at hv
            obtain ⟨c, _, rfl⟩ := hv
            rfl
          have HL := hide hlen
          have HL0 := hide hlen0
          have H1' := hide hone
          have H3'' := hide (show wr.heap[w.heap.size + 1]? = some (.cells (UV (Sha.words b)).toArray 97 (0, 0)) from hB3)
          have H2'' := hide (show wr.heap[w.heap.size]? = some (.cells (UV (rst b 0)).toArray 97 (0, 0)) from hB2)
          clear hB3 hB2 hlen hlen0 hone
          generalize hout : UV (Sha.words b) = out at *
          have HOUT := hide hout
          clear hout
          generalize UV (rst b 0) = zer at *
          go_wp2_with (first | (with_reducible refine wpList_load_row rfl 97 (.tmp 3) rfl (w.heap.size + 1) rfl 97 out.toArray (0, 0) _ H3''.out Tryd.underlying97 rfl ?c1 ?_) | (with_reducible refine wpList_store_row rfl 97 (.tmp 2) (.tmp 100) rfl w.heap.size out.toArray rfl rfl 97 zer.toArray H2''.out ?d1 ?d2 ?d3 ?_))
          case c1 => rw [List.size_toArray, HL.out]; exact wordsSize
          case d1 => rw [List.size_toArray, HL.out]; exact wordsSize
          case d2 => rw [List.size_toArray, List.size_toArray, HL.out, HL0.out]
          case d3 => simpa using H1'.out
          have hload : (loadVar 97 ⟨w.heap.size, 0, none⟩).run Tryd.prog (wr.setRow w.heap.size out.toArray) = .ok (.agg out.toArray) (wr.setRow w.heap.size out.toArray) :=
            run_loadVar_row _ _ _ _ _ _ _ (setRow_heap wr w.heap.size _ out.toArray _ _ H2''.out) Tryd.underlying97 rfl (by rw [List.size_toArray, HL.out]; exact wordsSize)
          exact bodyPost_ret (v := .agg out.toArray) (results_cell0 Tryd.results69 _ _ ⟨w.heap.size, 0, none⟩ _ rfl hload) rfl ⟨by rw [HOUT.out], below_setRow hbel (Nat.le_refl _) _⟩
end Go.Proofs.YtedgjpoejoepjaaDoor
