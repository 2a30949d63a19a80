/-
  The hash of a message by the reference, by contract.
-/
import Derived.Test.YtedgjpoejoepjaaDoorRefWs
import Derived.Test.YtedgjpoejoepjaaDoorSumM
namespace Go.Proofs.YtedgjpoejoepjaaDoor
open Go.RowKit
set_option linter.unusedVariables false
set_option linter.unusedSimpArgs false

/-- the table of round constants of the reference lies in memory as the text lays it -/
def RKLaid (w : World) : Prop := ∀ t, t < 64 → w.cell? ⟨0, t, none⟩ = some (U (Sha.K.getD t 0))
theorem RKLaid.below {w w' : World} {B : Nat} (h : RKLaid w) (hb : Below B w w') (hB : w.heap.size ≤ B) : RKLaid w' := fun t ht => by
  have := h t ht
  have hl := block_lt_of_cell this
  rw [hb.cell (p := ⟨0, t, none⟩) (by simp at hl ⊢; omega)]
  exact this
theorem pad_len (l : List UInt8) (h : 8 * l.length < 18446744073709551616) : (Sha.pad l).length = l.length + 1 + zerosOf l.length + 8 := by
  rw [pad_is l h, List.length_append, padZ_len, Sha.be8_len]
theorem H0_cells : (UV Sha.H0).toArray = #[Value.int .u32 1779033703, Value.int .u32 3144134277, Value.int .u32 1013904242, Value.int .u32 2773480762, Value.int .u32 1359893119, Value.int .u32 2600822924, Value.int .u32 528734635, Value.int .u32 1541459225] := by rfl
theorem own_far {w w' : World} {b e size n : Nat} {v : Value} {xs : List Value} (h : w.ownsRow b e size v n xs) (hk : ∀ i, b ≤ i → i < w.heap.size → w'.heap[i]? = w.heap[i]?) : w'.ownsRow b e size v n xs := by
  refine ⟨h.1, ?_⟩
  rcases h.2 with h0 | ⟨g, cap, cur, h1, h2, h3, h4⟩
  · exact .inl h0
  · refine .inr ⟨g, cap, cur, h1, h2, ?_, h4⟩
    have hg : g < w.heap.size := by
      rcases Nat.lt_or_ge g w.heap.size with h | h
      · exact h
      · rw [Array.getElem?_eq_none h] at h3; cases h3
    rw [hk g h2 hg]; exact h3
theorem own_setRow {w : World} {b e size n : Nat} {v : Value} {xs : List Value} (h : w.ownsRow b e size v n xs) (g : Nat) (hg : g < b) (cs : Array Value) : (w.setRow g cs).ownsRow b e size v n xs :=
  own_far h fun i hi _ => setRow_other w g i cs (by omega)
theorem list8 (v : List UInt32) (h : v.length = 8) : v = [v.getD 0 0, v.getD 1 0, v.getD 2 0, v.getD 3 0, v.getD 4 0, v.getD 5 0, v.getD 6 0, v.getD 7 0] := by
  match v, h with
  | [a, b, c, d, e, f, g, i], _ => rfl
theorem wn_is' (a : UInt32) : bits .xor .u32 (a.toNat : Int) 4294967295 = ((wn a).toNat : Int) := by
  have := U_xor a 4294967295
  rw [UInt32.xor_comm, wn_eq] at this
  exact this
theorem word_byte' (v : List UInt32) (k : Nat) (h : k < 4 * v.length) (x : UInt8) (hx : (Sha.bytes v)[k]? = some x) : (((v.getD (k / 4) 0).toNat : Int) / 2 ^ (24 - 8 * (k % 4))) % 256 = ((x.toNat : Nat) : Int) := by
  have := word_byte v k h x hx
  rwa [Nat.mul_comm (k % 4) 8] at this

set_option maxHeartbeats 2000000 in
set_option maxRecDepth 100000 in
theorem refSum_any (A : Option Addr) (n c : Nat) (l : List UInt8) (w : World) (hr : Reads w w.heap.size 1 A n (BV l)) (hn : n ≤ 1099511627776) (hK : RKLaid w) :
    Calls Tryd.prog 64 #[.slice A n c] w fun e w' => e = .returned (.agg (BV (Sha.sum l)).toArray) ∧ Below w.heap.size w w' := by
  have hl : l.length = n := by have := hr.1; simp [BV] at this; omega
  have HPD := hide (fun (W : World) (hW : Reads W W.heap.size 1 A n (BV l)) => padded_any A n c l W hW hn)
  have HWD := hide (fun ad cc b (W : World) hr hc => refWords_any ad cc b W hr hc)
  have hpl := pad_len l (by omega)
  have hz56 := zeros_eq l.length
  have hz63 := zeros_le l.length
  have HSUM := hide (show Sha.sum l = Sha.bytes (Sha.blocks Sha.H0 (Sha.pad l) ((Sha.pad l).length / 64)) from rfl)
  generalize Sha.pad l = M at *
  obtain ⟨nb, hnb⟩ : ∃ nb, M.length = 64 * nb := ⟨M.length / 64, by omega⟩
  have hnb0 : 0 < nb := by omega
  have hnbl : nb ≤ 17179869200 := by omega
  have hq : M.length / 64 = nb := by omega
  rw [hq] at HSUM
  have HBK := hide (fun k => show Sha.blocks Sha.H0 M (k + 1) = Sha.compress (Sha.blocks Sha.H0 M k) ((M.drop (64 * k)).take 64) from rfl)
  have HB0 := hide (show Sha.blocks Sha.H0 M 0 = Sha.H0 from rfl)
  have HBL := hide (fun k => Sha.blocks_len Sha.H0 M k rfl)
  have HML := hide hnb
  have HR := hide hr
  have HK := hide hK
  have hzs := zero32
  have hh0 := H0_cells
  generalize hH0 : (UV Sha.H0).toArray = h0c at *
  have HH0 := hide hH0
  have HH := hide hh0
  clear hr hK hl hpl hz56 hz63 hnb hq hH0 hh0
  go_enter Tryd.func64, Tryd.ntmps64
  go_upto_region 2 with fail
  refine name_world fun W hW => ?_
  have B0 := hide (show Blk W w.heap.size 84 (BV Z32).toArray by rw [← hW.out]; exact ((Blk.new w _ _).alloc _))
  have B1 := hide (show Blk W (w.heap.size + 1) 76 (UV Sha.H0).toArray by
    rw [← hW.out, HH0.out, HH.out]
    have := Blk.new (w.alloc (.cells (BV Z32).toArray 84)) 76 #[Value.int .u32 1779033703, Value.int .u32 3144134277, Value.int .u32 1013904242, Value.int .u32 2773480762, Value.int .u32 1359893119, Value.int .u32 2600822924, Value.int .u32 528734635, Value.int .u32 1541459225]
    rw [show (w.alloc (.cells (BV Z32).toArray 84)).heap.size = w.heap.size + 1 by simp] at this
    exact this)
  have HW := hide (show Below w.heap.size w W by rw [← hW.out]; exact ((Below.refl _ _).alloc (Nat.le_refl _) _).alloc (by simp) _)
  have hWs : W.heap.size = w.heap.size + 1 + 1 := by rw [← hW.out]; simp
  have HWS := hide hWs
  clear hW hWs hzs
  go_upto_region 3 with (go_at_call 68; refine (unhide HPD W ((HR.out.below HW.out).more HW.out.size)).mono ?_; rintro e w2 ⟨v2, rfl, hown2, hb2⟩; obtain ⟨g2, cap2, rfl, hcap2, hrd2⟩ := own_form hown2 (by have := HML.out; omega); have HO2 := hide hown2; have HB2 := hide hb2; clear hown2 hb2 hrd2)
  go_wp2_with fail
  have hw2 : Below w.heap.size w w2 := HW.out.trans (HB2.out.mono (by have := HWS.out; omega))
  have C0 := hide (B0.out.below HB2.out (by have := HWS.out; omega))
  have C1 := hide (B1.out.below HB2.out (by have := HWS.out; omega))
  have HOW := hide (show w2.ownsRow (w.heap.size + 1 + 1) 5 1 (.slice (some ⟨g2, 0, none⟩) M.length cap2) M.length (BV M) by rw [← HWS.out]; exact HO2.out)
  have HW2 := hide hw2
  have hNM : M.length ≤ 1099511628800 := by have := HML.out; omega
  clear hw2 HO2 HB2 B0 B1
  go_loopw [5] (fun p wr => ∃ k : Nat, k ≤ nb ∧ p = .int .i64 ((64 * k : Nat) : Int) ∧ Blk wr (w.heap.size + 1) 76 (UV (Sha.blocks Sha.H0 M k)).toArray ∧ Blk wr w.heap.size 84 (BV Z32).toArray ∧ wr.ownsRow (w.heap.size + 1 + 1) 5 1 (.slice (some ⟨g2, 0, none⟩) M.length cap2) M.length (BV M) ∧ Below w.heap.size w wr) (fun p _ => M.length - (intOf p).toNat)
  case atStart => exact ⟨0, Nat.zero_le _, rfl, by rw [HB0.out]; exact C1.out, C0.out, HOW.out, HW2.out⟩
  case round =>
    obtain ⟨k, hk, rfl, hB1, hB0, hown, hbel⟩ := hrel
    by_cases hlt : k < nb
    · have hp64 : 64 * k + 64 ≤ M.length := by have := HML.out; omega
      have hrs := reads_sub (Reads.of_own hown) (64 * k) 64 (by omega)
      have hbk := HBK.out k
      generalize (M.drop (64 * k)).take 64 = b at *
      rw [show ((⟨g2, 0, none⟩ : Addr).add (64 * k)) = ⟨g2, 64 * k, none⟩ by simp [Addr.add]; intro h; omega] at hrs
      have HWK := hide (HWD.out ⟨g2, 64 * k, none⟩ (cap2 - 64 * k) b wr ((hrs.more (Nat.le_refl _))) (by omega))
      have HBX1 := hide hB1
      have HBX0 := hide hB0
      have HO := hide hown
      have HBE := hide hbel
      have HBK' := hide hbk
      clear hB1 hB0 hown hbel hbk hrs
      generalize hp : 64 * k = p at *
      have HP := hide hp
      have hpc : p ≠ cap2 := by omega
      have hpc2 : ¬ cap2 = p := by omega
      have hp1 : (p : Int) + 64 ≤ (cap2 : Int) := by omega
      have hp2 : (p : Int) + 64 ≤ 1099511628800 := by omega
      have hp3 : (p : Int) < (M.length : Int) := by omega
      clear hp
      have hwl := words_len b
      generalize hws0 : Sha.words b = ws at *
      have HWS0 := hide hws0
      have HWL := hide hwl
      clear hwl hws0
      go_wp2_with (first
        | (go_at_call 69; refine (unhide HWK).mono ?_; rintro e w1 ⟨rfl, hb1⟩; have HB1 := hide hb1; clear hb1)
        | (with_reducible refine wpList_store_row rfl 97 (.tmp 6) (.tmp 34) rfl w1.heap.size (UV ws).toArray rfl rfl 97 _ (heap_alloc_new w1 _) ?d1 ?d2 ?d3 ?_))
      case d1 => first | (rw [List.size_toArray, UV_len, HWL.out]; exact wordsSize) | (rw [UV_len, HWL.out]; exact Option.map_eq_some_iff.1 wordsSize)
      case d2 => first | (rw [show (UV ws).toArray.size = 64 by rw [List.size_toArray, UV_len, HWL.out]]; rfl) | (rw [UV_len, HWL.out]; rfl)
      case d3 => first | exact all_oneCell_toArray (UV_one ws) | exact UV_one ws
      rw [World.setRow_alloc_new]
      refine name_world fun X hX => ?_
      have hb1 := HB1.out
      have hbe := HBE.out
      have hg5 : wr.heap.size ≤ w1.heap.size := hb1.size
      have hwr : w.heap.size + 1 < wr.heap.size := HBX1.out.lt
      have E1 := hide (show Blk X (w.heap.size + 1) 76 (UV (Sha.blocks Sha.H0 M k)).toArray by rw [← hX.out]; exact (HBX1.out.below hb1 (by omega)).alloc _)
      have E0 := hide (show Blk X w.heap.size 84 (BV Z32).toArray by rw [← hX.out]; exact (HBX0.out.below hb1 (by omega)).alloc _)
      have E6 := hide (show Blk X w1.heap.size 97 (UV ws).toArray by rw [← hX.out]; exact Blk.new w1 _ _)
      have EO := hide (show X.ownsRow (w.heap.size + 1 + 1) 5 1 (.slice (some ⟨g2, 0, none⟩) M.length cap2) M.length (BV M) by rw [← hX.out]; exact (own_below HO.out hb1).alloc _)
      have hXw : Below w.heap.size w X := by rw [← hX.out]; exact (hbe.trans (hb1.mono (by omega))).alloc (by omega) _
      have HXK := hide (HK.out.below hXw (Nat.le_refl _))
      have HX := hide hXw
      have hg : w.heap.size + 2 ≤ w1.heap.size := by omega
      generalize w1.heap.size = g at *
      have hv8 := HBL.out k
      have hdef : Sha.compress (Sha.blocks Sha.H0 M k) b = List.zipWith (· + ·) (Sha.blocks Sha.H0 M k) (Sha.rounds ws (Sha.ofList (Sha.blocks Sha.H0 M k)) 64).list := by unfold Sha.compress; rw [HWS0.out]
      rw [← HBK'.out] at hdef
      have HDEF := hide hdef
      have HV := hide hv8
      clear hX hb1 hbe hg5 hXw hwr hdef hv8 HWK HB1 HBX1 HBX0 HO HBE
      generalize hvk : Sha.blocks Sha.H0 M (k + 1) = vn at *
      have HVK := hide hvk
      clear hvk
      generalize Sha.blocks Sha.H0 M k = v at *
      have c0 := blk_UV E1.out 0 (v.getD 0 0) (by have := HV.out; simp [List.getD, this])
      have c1 := blk_UV E1.out 1 (v.getD 1 0) (by have := HV.out; simp [List.getD, this])
      have c2 := blk_UV E1.out 2 (v.getD 2 0) (by have := HV.out; simp [List.getD, this])
      have c3 := blk_UV E1.out 3 (v.getD 3 0) (by have := HV.out; simp [List.getD, this])
      have c4 := blk_UV E1.out 4 (v.getD 4 0) (by have := HV.out; simp [List.getD, this])
      have c5 := blk_UV E1.out 5 (v.getD 5 0) (by have := HV.out; simp [List.getD, this])
      have c6 := blk_UV E1.out 6 (v.getD 6 0) (by have := HV.out; simp [List.getD, this])
      have c7 := blk_UV E1.out 7 (v.getD 7 0) (by have := HV.out; simp [List.getD, this])
      have HRS := hide (show ∀ n, Sha.rounds ws (Sha.ofList v) (n + 1) = Sha.step (Sha.rounds ws (Sha.ofList v) n) (Sha.K.getD n 0) (ws.getD n 0) from fun n => rfl)
      have HR0 := hide (show Sha.rounds ws (Sha.ofList v) 0 = Sha.ofList v from rfl)
      generalize Sha.rounds ws (Sha.ofList v) = rs at *
      have HV8 := hide (list8 v HV.out)
      have HOL := hide (show Sha.ofList v = ⟨v.getD 0 0, v.getD 1 0, v.getD 2 0, v.getD 3 0, v.getD 4 0, v.getD 5 0, v.getD 6 0, v.getD 7 0⟩ from rfl)
      generalize v.getD 0 0 = v0 at *
      generalize v.getD 1 0 = v1 at *
      generalize v.getD 2 0 = v2 at *
      generalize v.getD 3 0 = v3 at *
      generalize v.getD 4 0 = v4 at *
      generalize v.getD 5 0 = v5 at *
      generalize v.getD 6 0 = v6 at *
      generalize v.getD 7 0 = v7 at *
      go_quiet (fail)
      obtain ⟨wo, rfl⟩ : ∃ wo, wo = wr := ⟨wr, rfl⟩
      go_wp2_with fail
      go_loopw [7, 8, 9, 10, 11, 12, 13, 14, 15] (fun t6 t7 t8 t9 t10 t11 t12 t13 i wr => ∃ n m : Nat, n ≤ 64 ∧ i = .int .i64 (n : Int) ∧ wr = X.drewN m ∧ t6 = U (rs n).a ∧ t7 = U (rs n).b ∧ t8 = U (rs n).c ∧ t9 = U (rs n).d ∧ t10 = U (rs n).e ∧ t11 = U (rs n).f ∧ t12 = U (rs n).g ∧ t13 = U (rs n).h) (fun _ _ _ _ _ _ _ _ i _ => 64 - (intOf i).toNat)
      case atStart => exact ⟨0, _, Nat.zero_le _, rfl, rfl, by rw [HR0.out, HOL.out], by rw [HR0.out, HOL.out], by rw [HR0.out, HOL.out], by rw [HR0.out, HOL.out], by rw [HR0.out, HOL.out], by rw [HR0.out, HOL.out], by rw [HR0.out, HOL.out], by rw [HR0.out, HOL.out]⟩
      case round =>
        obtain ⟨n', m, hn', rfl, hwr, rfl, rfl, rfl, rfl, rfl, rfl, rfl, rfl⟩ := hrel
        subst hwr
        by_cases hlt : n' < 64
        · clear c0 c1 c2 c3 c4 c5 c6 c7
          have hnext := HRS.out n'
          have cK : X.cell? ⟨0, n', none⟩ = some (U (Sha.K.getD n' 0)) := HXK.out n' hlt
          have cW := blk_UV E6.out n' (ws.getD n' 0) (by have := HWL.out; simp [List.getD, this, hlt])
          generalize Sha.K.getD n' 0 = kn at *
          generalize ws.getD n' 0 = wn at *
          have HN := hide hnext
          generalize hrn : rs n' = r at *
          have HRN := hide hrn
          clear hnext hrn
          obtain ⟨ra, rb, rc, rd, re, rf, rg, rh⟩ := r
          have n0 : (0 : Int) ≤ (n' : Int) := by omega
          have n64 : (n' : Int) < 64 := by omega
          have H6 := hide (fun W => refRotr_6 re W)
          have H11 := hide (fun W => refRotr_11 re W)
          have H25 := hide (fun W => refRotr_25 re W)
          have H2 := hide (fun W => refRotr_2 ra W)
          have H13 := hide (fun W => refRotr_13 ra W)
          have H22 := hide (fun W => refRotr_22 ra W)
          go_wp2_with fail
          have rx := wx_is
          have ra' := wa_is
          have rn := wn_is'
          have rp := wp_is
          have rpw := wp_isw
          go_quiet ((first
            | (go_at_call_of 70 (Value.int .i64 6); exact quiet_add (unhide H6 _))
            | (go_at_call_of 70 (Value.int .i64 11); exact quiet_add (unhide H11 _))
            | (go_at_call_of 70 (Value.int .i64 25); exact quiet_add (unhide H25 _))))
          go_wp2_with (first
            | (go_at_call_of 70 (Value.int .i64 2); refine (unhide H2 _).mono ?_; rintro e w' ⟨rfl, k2, rfl⟩)
            | (go_at_call_of 70 (Value.int .i64 13); refine (unhide H13 _).mono ?_; rintro e w' ⟨rfl, k13, rfl⟩)
            | (go_at_call_of 70 (Value.int .i64 22); refine (unhide H22 _).mono ?_; rintro e w' ⟨rfl, k22, rfl⟩))
          refine ⟨⟨n' + 1, m + nq + k2 + k13 + k22, by omega, by go_num, by simp only [World.drewN_drewN], ?_, ?_, ?_, ?_, ?_, ?_, ?_, ?_⟩, by simp [intOf]; omega⟩
          all_goals (rw [HN.out]; rfl)
        · obtain rfl : n' = 64 := by omega
          rw [show ((64 : Nat) : Int) = 64 from rfl]
          generalize hr64 : rs 64 = r at *
          obtain ⟨ra, rb, rc, rd, re, rf, rg, rh⟩ := r
          have hvn : vn = [wp v0 ra, wp v1 rb, wp v2 rc, wp v3 rd, wp v4 re, wp v5 rf, wp v6 rg, wp v7 rh] := by
            rw [HDEF.out, HV8.out]; rfl
          have HVN := hide hvn
          have hlen : (UV [wp v0 ra, wp v1 rb, wp v2 rc, wp v3 rd, wp v4 re, wp v5 rf, wp v6 rg, wp v7 rh]).length = 8 := rfl
          have E1h := hide (show (X.drewN m).heap[w.heap.size + 1]? = some (.cells (UV v).toArray 76 (0, 0)) from E1.out)
          have HUV := hide (UV_len v)
          clear hvn hr64
          have rp := wp_is
          have rpw := wp_isw
          go_wp2_with (with_reducible refine wpList_store_row rfl 76 (.tmp 3) (.tmp 146) rfl (w.heap.size + 1) (UV [wp v0 ra, wp v1 rb, wp v2 rc, wp v3 rd, wp v4 re, wp v5 rf, wp v6 rg, wp v7 rh]).toArray rfl rfl 76 _ E1h.out ?s1 ?s2 ?s3 ?_)
          case s1 => exact valueSize
          case s2 => rw [List.size_toArray, HUV.out, HV.out]; rfl
          case s3 => exact all_oneCell_toArray (UV_one _)
          refine ⟨⟨k + 1, by omega, ?_, ?_, ?_, ?_, ?_⟩, ?_⟩
          · rw [show 64 * (k + 1) = p + 64 by have := HP.out; omega]; rfl
          · rw [HVK.out, HVN.out]; exact setRow_heap (X.drewN m) (w.heap.size + 1) _ _ _ _ E1h.out
          · exact Blk.otherRow (w := X.drewN m) E0.out (by omega) _
          · exact own_setRow (own_drewN EO.out m) _ (by omega) _
          · exact below_setRow (below_drewN HX.out m) (by omega) _
          · simp [intOf]; omega
    · obtain rfl : k = nb := by omega
      have hML := HML.out
      have hcmp : ¬ ((64 * k : Nat) : Int) < (M.length : Int) := by omega
      have hv8 := HBL.out k
      have HSM := hide (show Sha.sum l = Sha.bytes (Sha.blocks Sha.H0 M k) from HSUM.out)
      have hwb := fun j h x hx => word_byte' (Sha.blocks Sha.H0 M k) j h x hx
      have hDl := Sha.bytes_len (Sha.blocks Sha.H0 M k)
      generalize Sha.blocks Sha.H0 M k = vf at *
      generalize Sha.bytes vf = D at *
      have HDL := hide (show D.length = 32 by omega)
      have HV2 := hide hv8
      have HWB := hide hwb
      have HB1 := hide hB1
      have HB0' := hide hB0
      have HBE := hide hbel
      have HMX := hide hML
      have hzs := zero32
      have hwr : w.heap.size + 1 < wr.heap.size := hB1.lt
      clear hB1 hB0 hown hbel hv8 hwb hDl hML
      obtain ⟨wd, rfl⟩ : ∃ wd, wd = wr := ⟨wr, rfl⟩
      generalize ((64 * k : Nat) : Int) = pk at *
      go_upto_region 23 with fail
      refine name_world fun V hV => ?_
      have K1 := hide (show Blk V (w.heap.size + 1) 76 (UV vf).toArray by rw [← hV.out]; exact HB1.out.alloc _)
      have K2 := hide (show Blk V w.heap.size 84 (BV Z32).toArray by rw [← hV.out]; exact HB0'.out.alloc _)
      have K5 := hide (show Blk V wd.heap.size 84 (BV (D.take 0 ++ Z32.drop 0)).toArray by rw [← hV.out]; exact Blk.new wd _ _)
      have HVb := hide (show Below w.heap.size w V by rw [← hV.out]; exact HBE.out.alloc HBE.out.size _)
      have hg5 : w.heap.size + 1 < wd.heap.size := hwr
      clear hV hzs hwr
      generalize wd.heap.size = g5 at *
      go_wp2_with fail
      go_loopw [19] (fun i wr => ∃ k : Nat, k ≤ 32 ∧ i = .int .i64 (k : Int) ∧ Blk wr g5 84 (BV (D.take k ++ Z32.drop k)).toArray ∧ Blk wr (w.heap.size + 1) 76 (UV vf).toArray ∧ Blk wr w.heap.size 84 (BV Z32).toArray ∧ Below w.heap.size w wr) (fun i _ => 32 - (intOf i).toNat)
      case atStart => exact ⟨0, Nat.zero_le _, rfl, K5.out, K1.out, K2.out, HVb.out⟩
      case round =>
        obtain ⟨k, hk, rfl, hB5, hB1, hB2, hbel⟩ := hrel
        by_cases hlt32 : k < 32
        · obtain ⟨x, hx⟩ : ∃ x, D[k]? = some x := ⟨_, List.getElem?_eq_getElem (by have := HDL.out; omega)⟩
          have hsh := HWB.out k (by have := HV2.out; omega) x hx
          have hcv := blk_UV hB1 (k / 4) (vf.getD (k / 4) 0) (by have := HV2.out; rw [List.getD_eq_getElem?_getD, List.getElem?_eq_getElem (by omega)]; rfl)
          have hct : wr.cell? ⟨g5, k, none⟩ = some (.int .u8 0) := by
            have hl : (D.take k).length = k := by rw [List.length_take]; have := HDL.out; omega
            have hz : Z32.drop k = List.replicate (32 - k) 0 := by unfold Z32; rw [List.drop_replicate]
            rw [hB5.cell, List.getElem?_toArray, BV_append, List.getElem?_append_right (by rw [BV_len, hl]; omega), BV_len, hl, Nat.sub_self, hz, BV_zeros, List.getElem?_replicate, if_pos (by omega)]
          have hfr := hB5.frozen k
          have hset := bytes_set D k HDL.out hlt32 x hx
          generalize vf.getD (k / 4) 0 = y at *
          have HSET := hide hset
          have H5 := hide hB5
          have H1 := hide hB1
          have H2 := hide hB2
          have HB := hide hbel
          have k0 : (0 : Int) ≤ (k : Int) := by omega
          have k1 : (0 : Int) ≤ (k : Int) / 4 := by omega
          have k2 : (k : Int) / 4 < 8 := by omega
          have k3 : ((k : Int) / 4).toNat = k / 4 := by omega
          have k4 : (0 : Int) ≤ 24 - 8 * ((k : Int) % 4) := by omega
          have k5 : (24 - 8 * ((k : Int) % 4)).toNat = 24 - 8 * (k % 4) := by omega
          have k6 : (k : Int) < 32 := by omega
          clear hB5 hB1 hB2 hbel hset hx
          go_wp2
          refine ⟨⟨k + 1, by omega, by go_num, ?_, ?_, ?_, ?_⟩, by simp [intOf]; omega⟩
          · have := H5.out.set_ k (.int .u8 ((x.toNat : Nat) : Int))
            rwa [List.setIfInBounds_toArray, HSET.out] at this
          · exact H1.out.far (by show w.heap.size + 1 ≠ g5; omega) _
          · exact H2.out.far (by show w.heap.size ≠ g5; omega) _
          · exact HB.out.setCell (by show w.heap.size ≤ g5; omega) _
        · obtain rfl : k = 32 := by omega
          rw [List.take_of_length_le (by have := HDL.out; omega), List.drop_eq_nil_of_le (by simp [Z32]), List.append_nil] at hB5
          have hlen : (BV D).length = 32 := by rw [BV_len, HDL.out]
          have hone := BV_one D
          have hfin2 : Sha.sum l = D := HSM.out
          generalize hout : BV D = out at *
          have HOUT := hide hout
          have HLN := hide hlen
          have H1' := hide hone
          have HF := hide hfin2
          have E5 := hide (show wr.heap[g5]? = some (.cells out.toArray 84 (0, 0)) from hB5)
          have E2 := hide (show wr.heap[w.heap.size]? = some (.cells (BV Z32).toArray 84 (0, 0)) from hB2)
          have HBe := hide hbel
          clear hB5 hB1 hB2 hbel hlen hone hout hfin2
          go_wp2_with (first | (with_reducible refine wpList_load_row rfl 84 (.tmp 18) rfl g5 rfl 84 out.toArray (0, 0) _ E5.out Tryd.underlying84 rfl ?f9 ?_) | (with_reducible refine wpList_store_row rfl 84 (.tmp 2) (.tmp 163) rfl w.heap.size out.toArray rfl rfl 84 _ E2.out ?g9 ?g8 ?ga ?_))
          case f9 => first | (rw [List.size_toArray, HLN.out]; exact size32) | (rw [HLN.out]; exact Option.map_eq_some_iff.1 size32)
          case g9 => first | (rw [List.size_toArray, HLN.out]; exact size32) | (rw [HLN.out]; exact Option.map_eq_some_iff.1 size32)
          case g8 => first | (rw [show out.toArray.size = 32 by rw [List.size_toArray, HLN.out]]; rfl) | (rw [HLN.out]; rfl)
          case ga => first | exact all_oneCell_toArray H1'.out | exact H1'.out
          have hload : (loadVar 84 ⟨w.heap.size, 0, none⟩).run Tryd.prog (wr.setRow w.heap.size out.toArray) = .ok (.agg out.toArray) (wr.setRow w.heap.size out.toArray) :=
            run_loadVar_row _ _ _ _ _ _ _ (setRow_heap wr w.heap.size _ out.toArray _ _ E2.out) Tryd.underlying84 rfl (by rw [List.size_toArray, HLN.out]; exact size32)
          exact bodyPost_ret (v := .agg out.toArray) (results_cell0 Tryd.results64 _ _ ⟨w.heap.size, 0, none⟩ _ rfl hload) rfl ⟨by rw [HF.out, HOUT.out], below_setRow HBe.out (Nat.le_refl _) _⟩
end Go.Proofs.YtedgjpoejoepjaaDoor
