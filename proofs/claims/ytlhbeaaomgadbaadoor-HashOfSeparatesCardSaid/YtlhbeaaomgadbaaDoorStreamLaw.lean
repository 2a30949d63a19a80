/-
  HashStreamsAgree, walked.
-/
import Derived.Test.YtlhbeaaomgadbaaDoorOfLaw
namespace Go.Proofs.YtlhbeaaomgadbaaDoor
open Go.RowKit
set_option linter.unusedVariables false
set_option linter.unusedSimpArgs false
attribute [local go_sem ↓] Go.wp_at_zero Go.wp_at_succ

theorem wp_load_st (d : Option Tmp) (x : Operand) (ty : TypeId) (ps : String) (af : Array Edge) (gd : Option (Nat × Bool)) (a : Act) (w : World) (K : Act → World → Prop) (Q : Exit → Act → World → Prop)
    (h1 : a.eval x = .pointer (some ⟨ptrBlock (a.eval x), 0, none⟩)) (h2 : rowOk w (ptrBlock (a.eval x)) 73) :
    Oper.wp Tryd.prog { dst := d, op := .load 34 x, type := ty, pos := ps, after := af, guard := gd } a w K Q = K (a.put d (.agg (rowAt w (ptrBlock (a.eval x))))) w := by
  have := load_stream w _ h2
  rw [← h1] at this
  unfold Oper.wp execOp
  simp only [Sem.run_bind, this, Result.andThen_ok]
  rfl
attribute [local go_sem ↓] wp_load_32 wp_load_16 wp_load_st
attribute [local go_sem] ptrBlock_is
theorem S_app (a b : List UInt8) : S a ++ S b = S (a ++ b) := by
  apply ByteArray.ext
  simp [S]
theorem take_flat (xs : List (List UInt8)) (j : Nat) (h : j < xs.length) : (xs.take (j + 1)).flatten = (xs.take j).flatten ++ xs[j] := by
  rw [List.take_succ_eq_append_getElem h, List.flatten_append]
  simp only [List.flatten_cons, List.flatten_nil, List.append_nil]
theorem flat_take_le (xs : List (List UInt8)) (j : Nat) (h1 : xs.length ≤ 12) (h2 : ∀ x ∈ xs, x.length ≤ 400) : (xs.take j).flatten.length ≤ 4800 := by
  have := flat_le 400 (xs.take j) (fun x hx => h2 x (List.mem_of_mem_take hx))
  have hl : (xs.take j).length ≤ 12 := by rw [List.length_take]; omega
  omega
theorem reads_take {w : World} {B n k : Nat} {A : Option Addr} {xs : List Value} (h : Reads w B 1 A n xs) (hk : k ≤ n) : Reads w B 1 A k (xs.take k) := by
  refine ⟨by have := h.1; rw [List.length_take]; omega, fun hn => ?_⟩
  obtain ⟨ad, rfl, hb, hc⟩ := h.2 (by omega)
  refine ⟨ad, rfl, hb, fun j u hu => hc j u ?_⟩
  have hj : j < (xs.take k).length := by
    rcases Nat.lt_or_ge j (xs.take k).length with h | h
    · exact h
    · rw [List.getElem?_eq_none h] at hu; cases hu
  rw [List.length_take] at hj
  rw [← hu, List.getElem?_take_of_lt (by omega)]
theorem stream_ok {W : World} {g : Nat} {m : List UInt8} (h : Blk W g 34 (ST m).toArray) : rowOk W g 73 ∧ rowAt W g = (ST m).toArray :=
  ⟨⟨_, _, h, by rw [List.size_toArray, ST_len]⟩, rowAt_blk h⟩

set_option maxHeartbeats 4000000 in
set_option maxRecDepth 100000 in
theorem streams_walk (A : Option Addr) (n c K : Nat) (xs : List (List UInt8)) (o : List UInt8) (x : UInt8) (w : World) (hr : Reads w w.heap.size 1 A n (xs.map VS)) (hnc : n ≤ c) (hK : KLaid w) (hR : RKLaid w) (f1 : xs.length ≤ 12) (f2 : ∀ x ∈ xs, x.length ≤ 400) (ho : o.length ≤ 400) (hk : K = x.toNat % (n + 1)) :
    Calls Tryd.prog 4 #[.slice A n c, .string (S o), .int .u8 ((x.toNat : Nat) : Int)] w fun e w' => e = .returned (.bool true) ∧ Below w.heap.size w w' := by
  have HS := hide (sanity_any w hK)
  have hl : n = xs.length := by have := hr.1; simpa using this.symm
  have hf : fewB xs = true := by unfold fewB; rw [decide_eq_true_iff]; exact ⟨f1, f2⟩
  have CF := hide (fun (W : World) hr => few_any A n c xs W hr (fun x h => Nat.le_trans (f2 x h) (by omega)) (by omega))
  rw [hf] at CF
  have hos : (S o).size = o.length := rfl
  have g1 : ¬ (400 : Int) < (((S o).size : Nat) : Int) := by omega
  have hn12 : n ≤ 12 := by omega
  have hKn : K ≤ n := by have := Nat.mod_lt x.toNat (show 0 < n + 1 by omega); omega
  have hby := x.toNat_lt
  have hm1 : ((x.toNat : Nat) : Int) % ((n : Int) + 1) = (K : Int) := by rw [hk, Int.natCast_emod]; rfl
  have hm2 : (((x.toNat : Nat) : Int)).tmod ((n : Int) + 1) = (K : Int) := by rw [IntWalk.rem_in _ _ (by omega)]; exact hm1
  have HM1 := hide hm1
  have HM2 := hide hm2
  have hflat := hide (fun j => flat_take_le xs j f1 f2)
  have hTF := hide (fun j h => take_flat xs j h)
  have HKK := hide hK
  have HRR := hide hR
  have HRD := hide hr
  have HN := hide hl
  have f1' := f1
  clear f1
  have hzst := zeroStream
  generalize hsz0 : SC W8 Z64 0 = sz at *
  have hszl : sz.length = 73 := by rw [← hsz0]; rfl
  have HSZL := hide hszl
  generalize hxb : x.toNat = xb at *
  clear hK hR hr hl hf hk hm1 hm2 hsz0 hszl hxb
  go_enter Tryd.func4, Tryd.ntmps4
  go_wp2_with fail
  refine (unhide HS).mono ?_
  rintro e w1 ⟨rfl, hb1⟩
  have HB1 := hide hb1
  clear hb1
  go_wp2_with fail
  refine (unhide CF w1 ((HRD.out.below HB1.out).more HB1.out.size)).mono ?_
  rintro e w' ⟨rfl, rfl⟩
  go_upto_region 4 with fail
  have hm1 := HM1.out
  have hm2 := HM2.out
  go_upto_region 5 with fail
  clear hm1 hm2
  go_upto_region 6 with (first
    | (go_at_call 14; refine (begin_st _).mono ?_; rintro e w2 ⟨rfl, hb2⟩; have HB2 := hide (HB1.out.trans (hb2.mono HB1.out.size)); clear hb2)
    | (with_reducible refine wpList_store_row rfl 34 (.tmp 9) (.tmp 32) rfl w2.heap.size (ST []).toArray rfl rfl 34 _ (heap_alloc_new w2 _) ?p1 ?p2 ?p3 ?_))
  case p1 => rw [List.size_toArray, ST_len]; exact streamSize
  case p2 => rw [List.size_toArray, List.size_toArray, ST_len, HSZL.out]
  case p3 => exact all_oneCell_toArray (SC_one _ _ _)
  rw [World.setRow_alloc_new]
  refine name_world fun V hV => ?_
  have S0 := hide (show Blk V w2.heap.size 34 (ST (xs.take 0).flatten).toArray by rw [← hV.out]; exact Blk.new w2 _ _)
  have HV := hide (show Below w.heap.size w V by rw [← hV.out]; exact HB2.out.alloc HB2.out.size _)
  have hgs : w.heap.size ≤ w2.heap.size := HB2.out.size
  clear hV
  generalize w2.heap.size = gs at *
  go_wp2_with fail
  go_loopw [10] (fun i wr => ∃ j : Nat, j ≤ K ∧ i = .int .i64 (j : Int) ∧ Blk wr gs 34 (ST (xs.take j).flatten).toArray ∧ Below w.heap.size w wr) (fun i _ => K - (intOf i).toNat)
  case atStart => exact ⟨0, Nat.zero_le _, rfl, S0.out, HV.out⟩
  case round =>
    obtain ⟨j, hj, rfl, hBs, hbel⟩ := hrel
    by_cases hlt : j < K
    · obtain ⟨ad', hA, hkl, hca⟩ := reads_item HRD.out j (by omega)
      subst hA
      have hjx : j < xs.length := by have := HN.out; omega
      have hc2 : w.cell? (ad'.add j) = some (.string (S xs[j])) := by rw [hca]; simp [VS]
      obtain ⟨wd, rfl⟩ : ∃ wd, wd = wr := ⟨wr, rfl⟩
      have hcw : wd.cell? (ad'.add j) = some (.string (S xs[j])) := by rw [hbel.cell (block_lt_of_cell hc2)]; exact hc2
      have hfl := hflat.out j
      have hx4 := f2 xs[j] (List.getElem_mem hjx)
      have HAD := hide (fun (W : World) hW => add_any (xs.take j).flatten xs[j] W hW (by omega))
      rw [← hTF.out j hjx] at HAD
      have HBS := hide hBs
      have HBE := hide hbel
      have hgd := HBS.out.lt
      have W0 := hide (Below.refl wd.heap.size wd).drew
      have HKD := hide (fun (W' : World) (hb : Below wd.heap.size wd W') => HKK.out.below (HBE.out.trans (hb.mono HBE.out.size)) (Nat.le_refl _))
      obtain ⟨r1, r2⟩ := stream_ok (W := wd.drew) HBS.out
      have hm2 := ST_len (xs.take (j + 1)).flatten
      have hl1 := ST_len (xs.take j).flatten
      have ho2 : ∀ v ∈ ST (xs.take (j + 1)).flatten, v.oneCell' = true := SC_one _ _ _
      generalize ST (xs.take j).flatten = s2 at *
      generalize hs3 : ST (xs.take (j + 1)).flatten = s3 at *
      have HS3 := hide hs3
      clear hs3
      generalize S xs[j] = str at *
      have HSC := hide (fun (W' : World) (hb : Below wd.heap.size wd W') => run_store_cells (P := Tryd.prog) W' gs s3 ho2 (by rw [hm2]; exact (HBS.out.below hb hgd).there_ 0 73 (by rw [hl1]; decide)))
      have hos3 : s3.toArray.size = 73 := by rw [List.size_toArray, hm2]
      have HM2 := hide hm2
      have HL1 := hide hl1
      clear hBs hbel hca hc2 hm2 hl1 ho2
      go_upto_region 9 with fail
      go_region_with (go_at_call 15; (with_reducible refine (unhide HAD wd.drew (unhide HKD wd.drew W0.out)).mono ?_); rintro e z2 ⟨rfl, hz2⟩; have hZ2 := from_here W0.out hz2; have hst2 := unhide HSC z2 hZ2)
      all_goals
        have hFB := hide (put_row (out := s3) (HBS.out.below hZ2 hgd) (by rw [HM2.out, HL1.out]))
        have hFZ := hide (below_setCells hgs s3 0 _ (HBE.out.trans (hZ2.mono HBE.out.size)))
        clear r1 r2 hst2 hZ2 hz2 hos3
        go_wp2
        exact ⟨⟨j + 1, by omega, by go_num, by rw [HS3.out]; exact hFB.out, hFZ.out⟩, by simp [intOf]; omega⟩
    · have hjK : j = K := by omega
      rw [hjK] at hBs
      have HBS := hide hBs
      have HBE := hide hbel
      obtain ⟨wd, rfl⟩ : ∃ wd, wd = wr := ⟨wr, rfl⟩
      clear hBs hbel
      obtain ⟨r1, r2⟩ := stream_ok HBS.out
      have hTK := ST_len (xs.take K).flatten
      have HTK := hide (show ∀ v ∈ ST (xs.take K).flatten, v.oneCell' = true from SC_one _ _ _)
      generalize hsk : ST (xs.take K).flatten = sk at *
      have HSK := hide hsk
      clear hsk S0
      have hts : sk.toArray.size = 73 := by rw [List.size_toArray, hTK]
      go_upto_region 11 with (with_reducible refine wpList_store_row rfl 34 (.tmp 11) (.tmp 44) rfl wd.heap.size sk.toArray rfl rfl 34 _ (heap_alloc_new wd _) ?p1 ?p2 ?p3 ?_)
      case p1 => rw [hts]; exact streamSize
      case p2 => rw [hts, List.size_toArray, HSZL.out]
      case p3 => exact all_oneCell_toArray HTK.out
      rw [World.setRow_alloc_new]
      refine name_world fun Y hY => ?_
      have hgd := HBS.out.lt
      have E0 := hide (show Blk Y wd.heap.size 34 sk.toArray by rw [← hY.out]; exact Blk.new wd _ _)
      have S1 := hide (show Blk Y gs 34 sk.toArray by rw [← hY.out]; exact HBS.out.alloc _)
      have HY := hide (show Below w.heap.size w Y by rw [← hY.out]; exact HBE.out.alloc HBE.out.size _)
      have hge : w.heap.size ≤ wd.heap.size := HBE.out.size
      have hne : wd.heap.size ≠ gs := by omega
      clear hY r1 r2 hts hTK hlt hj hjK
      generalize wd.heap.size = ge at *
      have HSKL := hide (show sk.length = 73 by rw [← HSK.out]; exact ST_len _)
      go_upto_region 11 with fail
      go_wp2_with fail
      go_loopw [12] (fun i wr => ∃ m : Nat, K ≤ m ∧ m ≤ n ∧ i = .int .i64 (m : Int) ∧ Blk wr gs 34 (ST (xs.take m).flatten).toArray ∧ Blk wr ge 34 sk.toArray ∧ Below w.heap.size w wr) (fun i _ => n - (intOf i).toNat)
      case atStart => exact ⟨K, Nat.le_refl _, hKn, rfl, by rw [HSK.out]; exact S1.out, E0.out, HY.out⟩
      case round =>
        obtain ⟨m, hKm, hmn, rfl, hBs, hEs, hbel⟩ := hrel
        by_cases hlt : m < n
        · obtain ⟨ad', hA, hkl, hca⟩ := reads_item HRD.out m hlt
          subst hA
          have hjx : m < xs.length := by have := HN.out; omega
          have hc2 : w.cell? (ad'.add m) = some (.string (S xs[m])) := by rw [hca]; simp [VS]
          obtain ⟨wd2, rfl⟩ : ∃ wd2, wd2 = wr := ⟨wr, rfl⟩
          have hcw : wd2.cell? (ad'.add m) = some (.string (S xs[m])) := by rw [hbel.cell (block_lt_of_cell hc2)]; exact hc2
          have hfl := hflat.out m
          have hx4 := f2 xs[m] (List.getElem_mem hjx)
          have HAD := hide (fun (W : World) hW => add_any (xs.take m).flatten xs[m] W hW (by omega))
          rw [← hTF.out m hjx] at HAD
          have HBS := hide hBs
          have HES := hide hEs
          have HBE := hide hbel
          have hgd := HBS.out.lt
          have W0 := hide (Below.refl wd2.heap.size wd2).drew
          have HKD := hide (fun (W' : World) (hb : Below wd2.heap.size wd2 W') => HKK.out.below (HBE.out.trans (hb.mono HBE.out.size)) (Nat.le_refl _))
          obtain ⟨r1, r2⟩ := stream_ok (W := wd2.drew) HBS.out
          have hm2 := ST_len (xs.take (m + 1)).flatten
          have hl1 := ST_len (xs.take m).flatten
          have ho2 : ∀ v ∈ ST (xs.take (m + 1)).flatten, v.oneCell' = true := SC_one _ _ _
          generalize ST (xs.take m).flatten = s2 at *
          generalize hs3 : ST (xs.take (m + 1)).flatten = s3 at *
          have HS3 := hide hs3
          clear hs3
          generalize S xs[m] = str at *
          have HSC := hide (fun (W' : World) (hb : Below wd2.heap.size wd2 W') => run_store_cells (P := Tryd.prog) W' gs s3 ho2 (by rw [hm2]; exact (HBS.out.below hb hgd).there_ 0 73 (by rw [hl1]; decide)))
          have hos3 : s3.toArray.size = 73 := by rw [List.size_toArray, hm2]
          have HM2 := hide hm2
          have HL1 := hide hl1
          clear hBs hEs hbel hca hc2 hm2 hl1 ho2
          go_upto_region 14 with fail
          go_region_with (go_at_call 15; (with_reducible refine (unhide HAD wd2.drew (unhide HKD wd2.drew W0.out)).mono ?_); rintro e z2 ⟨rfl, hz2⟩; have hZ2 := from_here W0.out hz2; have hst2 := unhide HSC z2 hZ2)
          all_goals
            have hFB := hide (put_row (out := s3) (HBS.out.below hZ2 hgd) (by rw [HM2.out, HL1.out]))
            have hFE := hide (Blk.farCells s3 0 (HES.out.below hZ2 HES.out.lt) hne)
            have hFZ := hide (below_setCells hgs s3 0 _ (HBE.out.trans (hZ2.mono HBE.out.size)))
            clear r1 r2 hst2 hZ2 hz2 hos3
            go_wp2
            exact ⟨⟨m + 1, by omega, by omega, by go_num, by rw [HS3.out]; exact hFB.out, hFE.out, hFZ.out⟩, by simp [intOf]; omega⟩
        · have hmN : m = n := by omega
          have hall : (xs.take m).flatten = xs.flatten := by rw [List.take_of_length_le (by have := HN.out; omega)]
          rw [hall] at hBs
          have HBS := hide hBs
          have HES := hide hEs
          have HBE := hide hbel
          obtain ⟨wd2, rfl⟩ : ∃ wd2, wd2 = wr := ⟨wr, rfl⟩
          clear hBs hEs hbel hall E0 S1 HY
          obtain ⟨r1, r2⟩ : rowOk wd2 ge 73 ∧ rowAt wd2 ge = sk.toArray := ⟨⟨_, _, HES.out, by rw [List.size_toArray, HSKL.out]⟩, rowAt_blk HES.out⟩
          have hfl := hflat.out K
          have HAD := hide (fun (W : World) hW => add_any (xs.take K).flatten o W hW (by omega))
          rw [HSK.out] at HAD
          have h3l := ST_len ((xs.take K).flatten ++ o)
          have h3o := hide (show ∀ v ∈ ST ((xs.take K).flatten ++ o), v.oneCell' = true from SC_one _ _ _)
          generalize hs3 : ST ((xs.take K).flatten ++ o) = s3 at *
          have HS3 := hide hs3
          have H3L := hide h3l
          have h3s : s3.toArray.size = 73 := by rw [List.size_toArray, h3l]
          have hgd1 := HBS.out.lt
          have hgd2 := HES.out.lt
          clear hs3 h3l
          go_upto_region 16 with (first
            | (go_at_call 15; (with_reducible refine (unhide HAD wd2 (HKK.out.below HBE.out (Nat.le_refl _))).mono ?_); rintro e z2 ⟨rfl, hz2⟩; have HZ2 := hide hz2; clear hz2)
            | (with_reducible refine wpList_store_row rfl 34 (.tmp 13) (.tmp 60) rfl z2.heap.size s3.toArray rfl rfl 34 _ (heap_alloc_new z2 _) ?p1 ?p2 ?p3 ?_))
          case p1 => rw [h3s]; exact streamSize
          case p2 => rw [h3s, List.size_toArray, HSZL.out]
          case p3 => exact all_oneCell_toArray h3o.out
          rw [World.setRow_alloc_new]
          refine name_world fun F hF => ?_
          have hz2s := HZ2.out.size
          have F3 := hide (show Blk F z2.heap.size 34 s3.toArray by rw [← hF.out]; exact Blk.new z2 _ _)
          have F2 := hide (show Blk F ge 34 sk.toArray by rw [← hF.out]; exact (HES.out.below HZ2.out hgd2).alloc _)
          have F1 := hide (show Blk F gs 34 (ST xs.flatten).toArray by rw [← hF.out]; exact (HBS.out.below HZ2.out hgd1).alloc _)
          have HF := hide (show Below w.heap.size w F by rw [← hF.out]; exact (HBE.out.trans (HZ2.out.mono HBE.out.size)).alloc (HBE.out.trans (HZ2.out.mono HBE.out.size)).size _)
          clear hF r1 r2 h3s hz2s
          generalize z2.heap.size = gf at *
          have CJ1 := hide (fun (W : World) hr => joined_any A n c xs W hr f1' f2)
          have CJ2 := hide (fun A n c (W : World) hr => joined_any A n c (xs.take K) W hr (by rw [List.length_take]; omega) (fun x hx => f2 x (List.mem_of_mem_take hx)))
          go_upto_region 17 with (go_at_call 16; (with_reducible refine (unhide CJ1 F ((HRD.out.below HF.out).more HF.out.size)).mono ?_); rintro e w' ⟨rfl, rfl⟩)
          go_upto_region 18 with (go_at_call 16; (with_reducible refine (unhide CJ2 A K c F (by rw [List.map_take]; exact (reads_take HRD.out hKn).below HF.out |>.more HF.out.size)).mono ?_); rintro e w' ⟨rfl, rfl⟩)
          clear CF HS CJ1 CJ2 HAD HRD HBS HES HBE HM1 HM2 hTF HZ2
          have hl1 : xs.flatten.length ≤ 4800 := by have := hflat.out n; rwa [List.take_of_length_le (by have := HN.out; omega)] at this
          have hl2 := hflat.out K
          have hl3 : ((xs.take K).flatten ++ o).length ≤ 5200 := by rw [List.length_append]; omega
          have hSA := S_app (xs.take K).flatten o
          have hL1 := S_size xs.flatten
          have hL2 := S_size (xs.take K).flatten
          have hL3 := S_size ((xs.take K).flatten ++ o)
          have CM1 := hide (fun (W : World) hW => sumM_any xs.flatten W hW (by omega))
          have CM2 := hide (fun (W : World) hW => sumM_any (xs.take K).flatten W hW (by omega))
          have CM3 := hide (fun (W : World) hW => sumM_any ((xs.take K).flatten ++ o) W hW (by omega))
          have CV1 := hide (fun W => conv_bytes xs.flatten W)
          have CV2 := hide (fun W => conv_bytes (xs.take K).flatten W)
          have CV3 := hide (fun W => conv_bytes ((xs.take K).flatten ++ o) W)
          have CR1 := hide (fun A n c (W : World) hr hn hW => refSum_any A n c xs.flatten W hr hn hW)
          have CR2 := hide (fun A n c (W : World) hr hn hW => refSum_any A n c (xs.take K).flatten W hr hn hW)
          have CR3 := hide (fun A n c (W : World) hr hn hW => refSum_any A n c ((xs.take K).flatten ++ o) W hr hn hW)
          have CH1 := hide (fun A n c (W : World) hr hW => hsum_any A n c xs.flatten W hr hW (by omega))
          have hs1 := ST_len xs.flatten
          have hd1 := Sha.sum_len xs.flatten
          have hd2 := Sha.sum_len (xs.take K).flatten
          have hd3 := Sha.sum_len ((xs.take K).flatten ++ o)
          rw [HSK.out] at CM2
          rw [HS3.out] at CM3
          have hLL1 : (S xs.flatten).size ≤ 1099511627776 := by omega
          have hLL2 : (S (xs.take K).flatten).size ≤ 1099511627776 := by omega
          have hLL3 : (S ((xs.take K).flatten ++ o)).size ≤ 1099511627776 := by omega
          clear hL1 hL2 hL3
          generalize BV xs.flatten = v1 at *
          generalize BV (xs.take K).flatten = v2 at *
          generalize BV ((xs.take K).flatten ++ o) = v3 at *
          generalize S ((xs.take K).flatten ++ o) = b3 at *
          generalize S (xs.take K).flatten = b2 at *
          generalize S xs.flatten = b1 at *
          generalize ST xs.flatten = s1 at *
          generalize Sha.sum xs.flatten = D1 at *
          generalize Sha.sum (xs.take K).flatten = D2 at *
          generalize Sha.sum ((xs.take K).flatten ++ o) = D3 at *
          have hgd := guard32
          have he1 : ∀ W, (Op.equalIn 10000 24 (.agg (BV D1).toArray) (.agg (BV D1).toArray)).run Tryd.prog W = .ok true W := fun W => by
            have h := run_same32 D1 D1 hd1 hd1 W
            rwa [beq_self_eq_true] at h
          have he2 : ∀ W, (Op.equalIn 10000 24 (.agg (BV D2).toArray) (.agg (BV D2).toArray)).run Tryd.prog W = .ok true W := fun W => by
            have h := run_same32 D2 D2 hd2 hd2 W
            rwa [beq_self_eq_true] at h
          have he3 : ∀ W, (Op.equalIn 10000 24 (.agg (BV D3).toArray) (.agg (BV D3).toArray)).run Tryd.prog W = .ok true W := fun W => by
            have h := run_same32 D3 D3 hd3 hd3 W
            rwa [beq_self_eq_true] at h
          have HLD1 := hide (fun (W' : World) (hb : Below F.heap.size F W') => (⟨⟨_, _, F1.out.below hb F1.out.lt, by rw [List.size_toArray, hs1]⟩, rowAt_blk (F1.out.below hb F1.out.lt)⟩ : rowOk W' gs 73 ∧ rowAt W' gs = s1.toArray))
          have HLD2 := hide (fun (W' : World) (hb : Below F.heap.size F W') => (⟨⟨_, _, F2.out.below hb F2.out.lt, by rw [List.size_toArray, HSKL.out]⟩, rowAt_blk (F2.out.below hb F2.out.lt)⟩ : rowOk W' ge 73 ∧ rowAt W' ge = sk.toArray))
          have HLD3 := hide (fun (W' : World) (hb : Below F.heap.size F W') => (⟨⟨_, _, F3.out.below hb F3.out.lt, by rw [List.size_toArray, H3L.out]⟩, rowAt_blk (F3.out.below hb F3.out.lt)⟩ : rowOk W' gf 73 ∧ rowAt W' gf = s3.toArray))
          have HVT := hide (fun (W' : World) (hb : Below F.heap.size F W') => HF.out.trans (hb.mono HF.out.size))
          have HKD := hide (fun (W' : World) (hb : Below F.heap.size F W') => HKK.out.below (HF.out.trans (hb.mono HF.out.size)) (Nat.le_refl _))
          have HRR' := hide (fun (W' : World) (hb : Below F.heap.size F W') => HRR.out.below (HF.out.trans (hb.mono HF.out.size)) (Nat.le_refl _))
          clear hd1 hd2 hd3 hs1 hl1 hl2 hl3
          have Z0 := hide (Below.refl F.heap.size F)
          obtain ⟨q1, q2⟩ := unhide HLD1 F Z0.out
          go_wp2_with (first
            | (go_at_call 17; (with_reducible refine (unhide CM1 F (unhide HKD F Z0.out)).mono ?_); rintro e y1 ⟨rfl, hz⟩; have hy1 := from_here Z0.out hz; clear hz; obtain ⟨A1, n1, c1, hrun1, hrd1, hc1⟩ := unhide CV1 y1; have hk1 := from_here hy1 hc1; clear hc1; have HD1 := hide hrd1; clear hrd1)
            | (go_at_call 12; (with_reducible refine (unhide CR1 _ _ _ c1 HD1.out hLL1 (unhide HRR' c1 hk1)).mono ?_); rintro e y2 ⟨rfl, hz⟩; have hy2 := from_here hk1 hz; clear hz hrun1; obtain ⟨qqa, qqb⟩ := unhide HLD2 y2 hy2)
            | (go_at_call 17; (with_reducible refine (unhide CM2 y2 (unhide HKD y2 hy2)).mono ?_); rintro e y3 ⟨rfl, hz⟩; have hy3 := from_here hy2 hz; clear hz; obtain ⟨A2, n2, c2, hrun2, hrd2, hc2⟩ := unhide CV2 y3; have hk2 := from_here hy3 hc2; clear hc2; have HD2 := hide hrd2; clear hrd2)
            | (go_at_call 12; (with_reducible refine (unhide CR2 _ _ _ c2 HD2.out hLL2 (unhide HRR' c2 hk2)).mono ?_); rintro e y4 ⟨rfl, hz⟩; have hy4 := from_here hk2 hz; clear hz hrun2; obtain ⟨qra, qrb⟩ := unhide HLD3 y4 hy4)
            | (go_at_call 17; (with_reducible refine (unhide CM3 y4 (unhide HKD y4 hy4)).mono ?_); rintro e y5 ⟨rfl, hz⟩; have hy5 := from_here hy4 hz; clear hz; obtain ⟨A3, n3, c3, hrun3, hrd3, hc3⟩ := unhide CV3 y5; have hk3 := from_here hy5 hc3; clear hc3; have HD3 := hide hrd3; clear hrd3)
            | (go_at_call 12; (with_reducible refine (unhide CR3 _ _ _ c3 HD3.out hLL3 (unhide HRR' c3 hk3)).mono ?_); rintro e y6 ⟨rfl, hz⟩; have hy6 := from_here hk3 hz; clear hz hrun3; obtain ⟨qsa, qsb⟩ := unhide HLD1 y6 hy6)
            | (go_at_call 17; (with_reducible refine (unhide CM1 y6 (unhide HKD y6 hy6)).mono ?_); rintro e y7 ⟨rfl, hz⟩; have hy7 := from_here hy6 hz; clear hz; obtain ⟨A4, n4, c4, hrun4, hrd4, hc4⟩ := unhide CV1 y7; have hk4 := from_here hy7 hc4; clear hc4; have HD4 := hide hrd4; clear hrd4)
            | (go_at_call 11; (with_reducible refine (unhide CH1 _ _ _ c4 HD4.out (unhide HKD c4 hk4)).mono ?_); rintro e y8 ⟨rfl, hz⟩; have hy8 := from_here hk4 hz; clear hz hrun4))
          have HW := hide (unhide HVT y8 hy8)
          go_ret
          exact ⟨rfl, HW.out⟩

set_option maxHeartbeats 2000000 in
set_option maxRecDepth 100000 in
theorem streamsAgree_walk (A : Option Addr) (n c : Nat) (xs : List (List UInt8)) (o : List UInt8) (x : UInt8) (w : World) (hr : Reads w w.heap.size 1 A n (xs.map VS)) (hnc : n ≤ c) (hK : KLaid w) (hR : RKLaid w) (hn : n ≤ 140737488355328) (hx : ∀ x ∈ xs, x.length ≤ 140737488355328) (ho : o.length ≤ 140737488355328) :
    Calls Tryd.prog 4 #[.slice A n c, .string (S o), .int .u8 ((x.toNat : Nat) : Int)] w fun e w' => e = .returned (.bool true) ∧ Below w.heap.size w w' := by
  by_cases hf : fewB xs = true
  · obtain ⟨f1, f2⟩ := fewB_true hf
    by_cases h4 : o.length ≤ 400
    · exact streams_walk A n c _ xs o x w hr hnc hK hR f1 f2 h4 rfl
    · have HS := hide (sanity_any w hK)
      have CF := hide (fun (W : World) hr => few_any A n c xs W hr (fun x h => Nat.le_trans (hx x h) (by omega)) (by omega))
      rw [hf] at CF
      have HRD := hide hr
      have hos : (S o).size = o.length := rfl
      have g1 : (400 : Int) < (((S o).size : Nat) : Int) := by omega
      clear hK hR hr hx
      go_enter Tryd.func4, Tryd.ntmps4
      go_wp2_with fail
      refine (unhide HS).mono ?_
      rintro e w1 ⟨rfl, hb1⟩
      have HB1 := hide hb1
      clear hb1
      go_wp2_with fail
      refine (unhide CF w1 ((HRD.out.below HB1.out).more HB1.out.size)).mono ?_
      rintro e w' ⟨rfl, rfl⟩
      go_wp2
      go_ret
      exact ⟨rfl, HB1.out⟩
  · rw [Bool.not_eq_true] at hf
    have HS := hide (sanity_any w hK)
    have CF := hide (fun (W : World) hr => few_any A n c xs W hr (fun x h => Nat.le_trans (hx x h) (by omega)) (by omega))
    rw [hf] at CF
    have HRD := hide hr
    clear hK hR hr hx
    go_enter Tryd.func4, Tryd.ntmps4
    go_wp2_with fail
    refine (unhide HS).mono ?_
    rintro e w1 ⟨rfl, hb1⟩
    have HB1 := hide hb1
    clear hb1
    go_wp2_with fail
    refine (unhide CF w1 ((HRD.out.below HB1.out).more HB1.out.size)).mono ?_
    rintro e w' ⟨rfl, rfl⟩
    go_wp2
    go_ret
    exact ⟨rfl, HB1.out⟩
end Go.Proofs.YtlhbeaaomgadbaaDoor
