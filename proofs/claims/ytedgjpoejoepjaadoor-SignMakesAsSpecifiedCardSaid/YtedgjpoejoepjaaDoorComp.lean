/-
  The compression of a block, by contract.
-/
import Derived.Test.YtedgjpoejoepjaaDoorWs
namespace Go.Proofs.YtedgjpoejoepjaaDoor
open Go.RowKit
set_option linter.unusedVariables false
set_option linter.unusedSimpArgs false

/-- the table of round constants of package hash lies in memory as the text lays it -/
def KLaid (w : World) : Prop := ∀ t, t < 64 → w.cell? ⟨1, t, none⟩ = some (U (Sha.K.getD t 0))
theorem KLaid.below {w w' : World} {B : Nat} (h : KLaid w) (hb : Below B w w') (hB : w.heap.size ≤ B) : KLaid w' := fun t ht => by
  have := h t ht
  have hl := block_lt_of_cell this
  rw [hb.cell (p := ⟨1, t, none⟩) (by simp at hl ⊢; omega)]
  exact this
theorem UV_one (l : List UInt32) : ∀ v ∈ UV l, v.oneCell' = true := by
  intro v hv
  simp only [UV, List.mem_map] at hv
  obtain ⟨c, _, rfl⟩ := hv
  rfl
theorem words_len (b : List UInt8) : (Sha.words b).length = 64 := by rw [← sst_full, sst_len b 48 (by omega)]
theorem mix_get (Z v : List UInt32) (hZ : Z.length = 8) (hv : v.length = 8) (k : Nat) (hk : k < 8) : (Z.take k ++ v.drop k)[k]? = some (v.getD k 0) := by
  rw [List.getElem?_append_right (by rw [List.length_take]; omega), List.length_take, show k - min k Z.length = 0 by omega, List.getElem?_drop]
  simp [List.getD, hv, hk]
theorem mix_set (Z v : List UInt32) (hZ : Z.length = 8) (hv : v.length = 8) (k : Nat) (hk : k < 8) : (Z.take k ++ v.drop k).set k (Z.getD k 0) = Z.take (k + 1) ++ v.drop (k + 1) := by
  have hl : (Z.take k).length = k := by rw [List.length_take]; omega
  rw [List.set_append_right _ _ (by omega), hl, Nat.sub_self, List.drop_eq_getElem_cons (by omega : k < v.length), List.set_cons_zero, List.take_succ_eq_append_getElem (by omega : k < Z.length), List.append_assoc]
  simp [List.getD, hZ, hk]
theorem zip_get (v r : List UInt32) (hv : v.length = 8) (hr : r.length = 8) (k : Nat) (hk : k < 8) : (List.zipWith (· + ·) v r).getD k 0 = v.getD k 0 + r.getD k 0 := by
  simp [List.getD, List.getElem?_zipWith, hv, hr, hk]
theorem zip_len (v r : List UInt32) (hv : v.length = 8) (hr : r.length = 8) : (List.zipWith (· + ·) v r).length = 8 := by simp [hv, hr]
theorem UV_items (l : List UInt32) (k : Nat) (h : k < l.length) : (UV l).toArray[k]? = some (U (l.getD k 0)) := by
  simp [UV, List.getD, h]

theorem valueSize : (Tryd.prog.info? 76).map (·.size) = some 8 := by kernel_rfl

set_option maxHeartbeats 400000 in
set_option maxRecDepth 100000 in
theorem compress_any (v : List UInt32) (b : List UInt8) (w : World) (hv : v.length = 8) (hb : b.length = 64) (hK : KLaid w) :
    Calls Tryd.prog 71 #[.agg (UV v).toArray, .agg (BV b).toArray] w fun e w' => e = .returned (.agg (UV (Sha.compress v b)).toArray) ∧ Below w.heap.size w w' := by
  have HWD := hide (fun W => words_any b W hb)
  have hcs : (BV b).length = 64 := by rw [BV_len]; exact hb
  have hwl := words_len b
  have hdef : Sha.compress v b = List.zipWith (· + ·) v (Sha.rounds (Sha.words b) (Sha.ofList v) 64).list := rfl
  have HDEF := hide hdef
  clear hdef
  generalize Sha.words b = ws at *
  generalize BV b = cs at *
  have HC := hide hcs
  have HV := hide hv
  have HWL := hide hwl
  have HK := hide hK
  clear hcs hb hv hwl hK
  go_enter Tryd.func71, Tryd.ntmps71
  go_upto_region 1 with fail
  refine name_world fun W hW => ?_
  have H2 := hide (show Blk W w.heap.size 76 (UV v).toArray by rw [← hW.out]; exact ((Blk.new w _ _).alloc _).alloc _)
  have H3 := hide (show W.heap[w.heap.size + 1]? = some (.cells cs.toArray 77 (0, 0)) by
    rw [← hW.out]
    have := (Blk.new (w.alloc (.cells (UV v).toArray 76)) 77 cs.toArray).alloc (.cells (List.replicate 8 (.int .u32 0)).toArray 76)
    rw [show (w.alloc (.cells (UV v).toArray 76)).heap.size = w.heap.size + 1 by simp] at this
    exact this)
  have H4 := hide (show Blk W (w.heap.size + 1 + 1) 76 (List.replicate 8 (.int .u32 0)).toArray by
    rw [← hW.out]
    have := Blk.new ((w.alloc (.cells (UV v).toArray 76)).alloc (.cells cs.toArray 77)) 76 (List.replicate 8 (.int .u32 0)).toArray
    rw [show ((w.alloc (.cells (UV v).toArray 76)).alloc (.cells cs.toArray 77)).heap.size = w.heap.size + 1 + 1 by simp] at this
    exact this)
  have HW := hide (show Below w.heap.size w W by rw [← hW.out]; exact (((Below.refl _ _).alloc (Nat.le_refl _) _).alloc (by simp) _).alloc (by simp; omega) _)
  have hsz : W.heap.size = w.heap.size + 1 + 1 + 1 := by rw [← hW.out]; simp
  have HSZ := hide hsz
  clear hW hsz
  go_wp2_with (first
    | (with_reducible refine wpList_load_row rfl 77 (.tmp 3) rfl (w.heap.size + 1) rfl 77 cs.toArray (0, 0) _ H3.out Tryd.underlying77 rfl ?c1 ?_)
    | (go_at_call 72; refine (unhide HWD _).mono ?_; rintro e w1 ⟨rfl, hb1⟩; have HB1 := hide hb1; clear hb1)
    | (with_reducible refine wpList_store_row rfl 97 (.tmp 5) (.tmp 20) rfl w1.heap.size (UV ws).toArray rfl rfl 97 _ (heap_alloc_new w1 _) ?d1 ?d2 ?d3 ?_))
  case c1 => rw [List.size_toArray, HC.out]; exact blockSize
  case d1 => rw [List.size_toArray, UV_len, HWL.out]; exact wordsSize
  case d2 => rw [show (UV ws).toArray.size = 64 by rw [List.size_toArray, UV_len, HWL.out]]; rfl
  case d3 => simpa using UV_one ws
  rw [World.setRow_alloc_new]
  refine name_world fun X hX => ?_
  have hsz := HSZ.out
  have hb1 := HB1.out
  have hg5 : W.heap.size ≤ w1.heap.size := hb1.size
  have B2 := hide (show Blk X w.heap.size 76 (UV v).toArray by rw [← hX.out]; exact (H2.out.below hb1 (by omega)).alloc _)
  have B4 := hide (show Blk X (w.heap.size + 1 + 1) 76 (List.replicate 8 (.int .u32 0)).toArray by rw [← hX.out]; exact (H4.out.below hb1 (by omega)).alloc _)
  have B5 := hide (show Blk X w1.heap.size 97 (UV ws).toArray by rw [← hX.out]; exact Blk.new w1 _ _)
  have hXw : Below w.heap.size w X := by rw [← hX.out]; exact (HW.out.trans (hb1.mono (by omega))).alloc (by omega) _
  have HXK := hide (HK.out.below hXw (Nat.le_refl _))
  have HX := hide hXw
  have hg : w.heap.size + 3 ≤ w1.heap.size := by omega
  generalize w1.heap.size = g at *
  clear hX hsz hb1 hg5 hXw HWD HB1 H2 H3 H4 HW HSZ
  have c0 := blk_UV B2.out 0 (v.getD 0 0) (by have := HV.out; simp [List.getD, this])
  have c1 := blk_UV B2.out 1 (v.getD 1 0) (by have := HV.out; simp [List.getD, this])
  have c2 := blk_UV B2.out 2 (v.getD 2 0) (by have := HV.out; simp [List.getD, this])
  have c3 := blk_UV B2.out 3 (v.getD 3 0) (by have := HV.out; simp [List.getD, this])
  have c4 := blk_UV B2.out 4 (v.getD 4 0) (by have := HV.out; simp [List.getD, this])
  have c5 := blk_UV B2.out 5 (v.getD 5 0) (by have := HV.out; simp [List.getD, this])
  have c6 := blk_UV B2.out 6 (v.getD 6 0) (by have := HV.out; simp [List.getD, this])
  have c7 := blk_UV B2.out 7 (v.getD 7 0) (by have := HV.out; simp [List.getD, this])
  go_quiet (fail)
  clear c0 c1 c2 c3 c4 c5 c6 c7
  have HRS := hide (show ∀ n, Sha.rounds ws (Sha.ofList v) (n + 1) = Sha.step (Sha.rounds ws (Sha.ofList v) n) (Sha.K.getD n 0) (ws.getD n 0) from fun n => rfl)
  have HR0 := hide (show Sha.rounds ws (Sha.ofList v) 0 = Sha.ofList v from rfl)
  generalize Sha.rounds ws (Sha.ofList v) = rs at *
  go_wp2_with fail
  go_loopw [6, 7, 8, 9, 10, 11, 12, 13, 37] (fun t6 t7 t8 t9 t10 t11 t12 t13 i wr => ∃ n m : Nat, n ≤ 64 ∧ i = .int .i64 (n : Int) ∧ wr = X.drewN m ∧ t6 = U (rs n).a ∧ t7 = U (rs n).b ∧ t8 = U (rs n).c ∧ t9 = U (rs n).d ∧ t10 = U (rs n).e ∧ t11 = U (rs n).f ∧ t12 = U (rs n).g ∧ t13 = U (rs n).h) (fun _ _ _ _ _ _ _ _ i _ => 64 - (intOf i).toNat)
  case atStart => exact ⟨0, _, Nat.zero_le _, rfl, rfl, by rw [HR0.out]; rfl, by rw [HR0.out]; rfl, by rw [HR0.out]; rfl, by rw [HR0.out]; rfl, by rw [HR0.out]; rfl, by rw [HR0.out]; rfl, by rw [HR0.out]; rfl, by rw [HR0.out]; rfl⟩
  case round =>
    obtain ⟨n, m, hn, rfl, hwr, rfl, rfl, rfl, rfl, rfl, rfl, rfl, rfl⟩ := hrel
    subst hwr
    by_cases hlt : n < 64
    · have hnext := HRS.out n
      have cK : X.cell? ⟨1, n, none⟩ = some (U (Sha.K.getD n 0)) := HXK.out n hlt
      have cW := blk_UV B5.out n (ws.getD n 0) (by have := HWL.out; simp [List.getD, this, hlt])
      generalize Sha.K.getD n 0 = kn at *
      generalize ws.getD n 0 = wn at *
      have HN := hide hnext
      generalize hrn : rs n = r at *
      have HRN := hide hrn
      clear hnext hrn
      obtain ⟨ra, rb, rc, rd, re, rf, rg, rh⟩ := r
      have n0 : (0 : Int) ≤ (n : Int) := by omega
      have n64 : (n : Int) < 64 := by omega
      have H6 := hide (fun W => rotr_6 re W)
      have H11 := hide (fun W => rotr_11 re W)
      have H25 := hide (fun W => rotr_25 re W)
      have H2 := hide (fun W => rotr_2 ra W)
      have H13 := hide (fun W => rotr_13 ra W)
      have H22 := hide (fun W => rotr_22 ra W)
      go_wp2_with fail
      have rx := wx_is
      have ra' := wa_is
      have rn := wn_is
      have rp := wp_is
      have rpw := wp_isw
      go_quiet ((first
        | (go_at_call_of 73 (Value.int .i64 6); exact quiet_add_left (unhide H6 _))
        | (go_at_call_of 73 (Value.int .i64 11); exact quiet_add_left (unhide H11 _))
        | (go_at_call_of 73 (Value.int .i64 25); exact quiet_add_left (unhide H25 _))))
      go_wp2_with (first
        | (go_at_call_of 73 (Value.int .i64 2); refine (unhide H2 _).mono ?_; rintro e w' ⟨rfl, rfl⟩)
        | (go_at_call_of 73 (Value.int .i64 13); refine (unhide H13 _).mono ?_; rintro e w' ⟨rfl, rfl⟩)
        | (go_at_call_of 73 (Value.int .i64 22); refine (unhide H22 _).mono ?_; rintro e w' ⟨rfl, rfl⟩))
      refine ⟨⟨n + 1, m + nq, by omega, by go_num, rfl, ?_, ?_, ?_, ?_, ?_, ?_, ?_, ?_⟩, by simp [intOf]; omega⟩
      all_goals (rw [HN.out]; rfl)
    · obtain rfl : n = 64 := by omega
      rw [show ((64 : Nat) : Int) = 64 from rfl]
      generalize rs 64 = r at *
      obtain ⟨ra, rb, rc, rd, re, rf, rg, rh⟩ := r
      go_wp2_with fail
      have hrl : (Sha.R.list ⟨ra, rb, rc, rd, re, rf, rg, rh⟩).length = 8 := rfl
      have hix : ∀ (k : Nat) (hk : k < 8) (W : World), (Instr.index 76 (.agg #[U ra, U rb, U rc, U rd, U re, U rf, U rg, U rh]) (.int .i64 (k : Int))).run Tryd.prog W = .ok (U ((Sha.R.list ⟨ra, rb, rc, rd, re, rf, rg, rh⟩).getD k 0)) W := fun k hk W =>
        run_index_agg W 76 75 8 _ k _ Tryd.underlying76 wordAgg wordOne hk (UV_items (Sha.R.list ⟨ra, rb, rc, rd, re, rf, rg, rh⟩) k (by rw [hrl]; exact hk))
      have HIX := hide hix
      have hzl := zip_len v (Sha.R.list ⟨ra, rb, rc, rd, re, rf, rg, rh⟩) HV.out hrl
      have hzg := fun k hk => zip_get v (Sha.R.list ⟨ra, rb, rc, rd, re, rf, rg, rh⟩) HV.out hrl k hk
      generalize hZ : List.zipWith (· + ·) v (Sha.R.list ⟨ra, rb, rc, rd, re, rf, rg, rh⟩) = Z at *
      have HZL := hide hzl
      have HZG := hide hzg
      have HZ := hide hZ
      clear hix hrl hzl hzg hZ
      go_loopw [109] (fun i wr => ∃ k : Nat, k ≤ 8 ∧ i = .int .i64 (k : Int) ∧ Blk wr w.heap.size 76 (UV (Z.take k ++ v.drop k)).toArray ∧ Blk wr (w.heap.size + 1 + 1) 76 (List.replicate 8 (.int .u32 0)).toArray ∧ Below w.heap.size w wr) (fun i _ => 8 - (intOf i).toNat)
      case atStart => exact ⟨0, Nat.zero_le _, rfl, B2.out, B4.out, below_drewN HX.out m⟩
      case round =>
        obtain ⟨k, hk, rfl, hB2, hB4, hbel⟩ := hrel
        by_cases hlt : k < 8
        · have hix := HIX.out k hlt
          have hcell := blk_UV hB2 k _ (mix_get Z v HZL.out HV.out k hlt)
          have hfz := hB2.frozen k
          have hst := mix_set Z v HZL.out HV.out k hlt
          rw [HZG.out k hlt] at hst
          have HS := hide hst
          have rp := wp_is
          clear hst
          have H2' := hide hB2
          have H4' := hide hB4
          clear hB2 hB4
          go_wp2
          refine ⟨⟨k + 1, by omega, by go_num, ?_, ?_, ?_⟩, by simp [intOf]; omega⟩
          · rw [← HS.out]; exact blk_UV_set H2'.out k _
          · exact H4'.out.far (by show w.heap.size + 1 + 1 ≠ w.heap.size; omega) _
          · exact hbel.setCell (by show w.heap.size ≤ w.heap.size; omega) _
        · obtain rfl : k = 8 := by omega
          rw [List.take_of_length_le (by have := HZL.out; omega), List.drop_eq_nil_of_le (by have := HV.out; omega), List.append_nil] at hB2
          have hlen : (UV Z).length = 8 := by rw [UV_len, HZL.out]
          have hone := UV_one Z
          have hfin : Sha.compress v b = Z := HDEF.out
          have HFIN := hide hfin
          have HL := hide hlen
          have H1' := hide hone
          have H2'' := hide (show wr.heap[w.heap.size]? = some (.cells (UV Z).toArray 76 (0, 0)) from hB2)
          have H4'' := hide (show wr.heap[w.heap.size + 1 + 1]? = some (.cells (List.replicate 8 (.int .u32 0)).toArray 76 (0, 0)) from hB4)
          clear hB2 hB4 hlen hone hfin
          generalize hout : UV Z = out at *
          have HOUT := hide hout
          clear hout
          go_wp2_with (first | (with_reducible refine wpList_load_row rfl 76 (.tmp 2) rfl w.heap.size rfl 76 out.toArray (0, 0) _ H2''.out Tryd.underlying76 rfl ?c1 ?_) | (with_reducible refine wpList_store_row rfl 76 (.tmp 4) (.tmp 120) rfl (w.heap.size + 1 + 1) out.toArray rfl rfl 76 _ H4''.out ?d1 ?d2 ?d3 ?_))
          case c1 => rw [List.size_toArray, HL.out]; exact valueSize
          case d1 => rw [List.size_toArray, HL.out]; exact valueSize
          case d2 => rw [List.size_toArray, List.size_toArray, HL.out]; rfl
          case d3 => simpa using H1'.out
          have hload : (loadVar 76 ⟨w.heap.size + 1 + 1, 0, none⟩).run Tryd.prog (wr.setRow (w.heap.size + 1 + 1) out.toArray) = .ok (.agg out.toArray) (wr.setRow (w.heap.size + 1 + 1) out.toArray) :=
            run_loadVar_row _ _ _ _ _ _ _ (setRow_heap wr (w.heap.size + 1 + 1) _ out.toArray _ _ H4''.out) Tryd.underlying76 rfl (by rw [List.size_toArray, HL.out]; exact valueSize)
          exact bodyPost_ret (v := .agg out.toArray) (results_cell0 Tryd.results71 _ _ ⟨w.heap.size + 1 + 1, 0, none⟩ _ rfl hload) rfl ⟨by rw [HFIN.out, HOUT.out], below_setRow hbel (by omega) _⟩
end Go.Proofs.YtedgjpoejoepjaaDoor
