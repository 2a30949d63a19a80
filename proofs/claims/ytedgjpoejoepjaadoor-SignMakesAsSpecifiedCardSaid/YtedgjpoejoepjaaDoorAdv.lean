/-
  advance, by contract.
-/
import Derived.Test.YtedgjpoejoepjaaDoorJoin
namespace Go.Proofs.YtedgjpoejoepjaaDoor
open Go.RowKit
set_option linter.unusedVariables false
set_option linter.unusedSimpArgs false


set_option maxHeartbeats 2000000 in
set_option maxRecDepth 100000 in
theorem advance_any (i c : Int) (v : List UInt8) (a n : Nat) (w : World) (hi : Wr.inI i) (hc : Wr.inI c) (hv : v.length = 16) (han : a + n ≤ 1000) (hK : KLaid w) :
    Calls Tryd.prog 27 #[.agg #[.int .i64 i, .int .i64 c], .agg (BV v).toArray, .int .i64 (a : Int), .int .i64 ((a + n : Nat) : Int)] w fun e w' => e = .returned (.agg (BV (Sg.adv i c v a n)).toArray) ∧ Below w.heap.size w w' := by
  have HK := hide hK
  have HI := hide hi
  have HC := hide hc
  have HV0 := hide hv
  have hzs := zero16
  clear hK hi hc hv
  go_enter Tryd.func27, Tryd.ntmps27
  go_upto_region 1 with fail
  refine name_world fun V hV => ?_
  have C4 := hide (show Blk V w.heap.size 54 #[.int .i64 i, .int .i64 c] by rw [← hV.out]; exact ((Blk.new w _ _).alloc _).alloc _)
  have D5 := hide (show Dig V (w.heap.size + 1) v by
    rw [← hV.out]
    have := (Dig.new (w.alloc (.cells #[.int .i64 i, .int .i64 c] 54)) v HV0.out).alloc (.cells (BV Z16).toArray 23)
    rwa [show (w.alloc (.cells #[.int .i64 i, .int .i64 c] 54)).heap.size = w.heap.size + 1 by simp] at this)
  have D8 := hide (show Dig V (w.heap.size + 1 + 1) Z16 by
    rw [← hV.out]
    have := Dig.new ((w.alloc (.cells #[.int .i64 i, .int .i64 c] 54)).alloc (.cells (BV v).toArray 23)) Z16 rfl
    rwa [show ((w.alloc (.cells #[.int .i64 i, .int .i64 c] 54)).alloc (.cells (BV v).toArray 23)).heap.size = w.heap.size + 1 + 1 by simp] at this)
  have HV := hide (show Below w.heap.size w V by rw [← hV.out]; exact (((Below.refl _ _).alloc (Nat.le_refl _) _).alloc (by simp) _).alloc (by simp; omega) _)
  clear hV hzs
  go_upto_region 2 with fail
  go_loopw [9] (fun s wr => ∃ k : Nat, k ≤ n ∧ s = .int .i64 ((a + k : Nat) : Int) ∧ Blk wr w.heap.size 54 #[.int .i64 i, .int .i64 c] ∧ Dig wr (w.heap.size + 1) (Sg.adv i c v a k) ∧ Dig wr (w.heap.size + 1 + 1) Z16 ∧ Below w.heap.size w wr) (fun s _ => a + n - (intOf s).toNat)
  case atStart => exact ⟨0, Nat.zero_le _, rfl, C4.out, D5.out, D8.out, HV.out⟩
  case round =>
    obtain ⟨k, hk, rfl, hC4, hD5, hD8, hbel⟩ := hrel
    obtain ⟨wd, rfl⟩ : ∃ wd, wd = wr := ⟨wr, rfl⟩
    by_cases hlt : k < n
    · have hlen := Sg.adv_len i c v a HV0.out k
      have hl2 := Sg.adv_len i c v a HV0.out (k + 1)
      have hstep : Sg.ofB 5 [Sg.intsB [i, c, ((a + k : Nat) : Int)], Sg.adv i c v a k] = Sg.adv i c v a (k + 1) := by
        show _ = Sg.ofB 5 [Sg.intsB [i, c, (a : Int) + k], Sg.adv i c v a k]
        rw [Int.natCast_add]
      have hil := ints_len [i, c, ((a + k : Nat) : Int)]
      have htest : ((a + k : Nat) : Int) < ((a + n : Nat) : Int) := by omega
      have hwrap : IntKind.i64.wrap (((a + k : Nat) : Int) + 1) = ((a + (k + 1) : Nat) : Int) := by rw [IntWalk.i64_in _ (by omega)]; omega
      have hti : Wr.inI ((a + k : Nat) : Int) := by unfold Wr.inI; omega
      have hmeas : a + n - (intOf (.int .i64 ((a + (k + 1) : Nat) : Int))).toNat < a + n - (intOf (.int .i64 ((a + k : Nat) : Int))).toNat := by simp only [intOf]; omega
      have HM := hide hmeas
      have CI := hide (fun A (W : World) hr => intsB_any A 3 3 [i, c, ((a + k : Nat) : Int)] W hr (by omega) (by omega) (by intro x hx; simp only [List.mem_cons, List.not_mem_nil, or_false] at hx; rcases hx with rfl | rfl | rfl; exact HI.out; exact HC.out; exact hti))
      have hbig : (Wr.encL Wr.encB [Sg.intsB [i, c, ((a + k : Nat) : Int)], Sg.adv i c v a k]).length ≤ 1099511627700 := by
        have h1 := encB16 _ hlen
        unfold Wr.encL
        simp only [List.flatMap_cons, List.flatMap_nil, List.append_nil, List.length_append]
        have h2 := Wr.encB_len (Sg.intsB [i, c, ((a + k : Nat) : Int)])
        have h3 := Wr.enc_le ((Sg.intsB [i, c, ((a + k : Nat) : Int)]).length : Int)
        simp only [List.length_cons, List.length_nil] at hil
        omega
      have CO := hide (fun A n c' (W : World) hr hK => ofD_any 5 A n c' [Sg.intsB [i, c, ((a + k : Nat) : Int)], Sg.adv i c v a k] W hr (by have := hr.1; simp at this; omega) hbig hK)
      rw [hstep] at CO
      have HLT := hide hlt
      have HL2 := hide hl2
      generalize hDD : Sg.adv i c v a (k + 1) = D at *
      have HDD := hide hDD
      generalize Sg.adv i c v a k = cur at *
      generalize Sg.intsB [i, c, ((a + k : Nat) : Int)] = I at *
      generalize ((a + k : Nat) : Int) = t at *
      generalize ht1 : ((a + (k + 1) : Nat) : Int) = t1 at *
      have HT1 := hide ht1
      generalize ((a + n : Nat) : Int) = u at *
      have HC4 := hide hC4
      have HD5 := hide hD5
      have HD8 := hide hD8
      have HB := hide hbel
      clear hDD ht1 hstep hil hti hmeas hbig hlt hl2 hC4 hD5 hD8 hbel C4 D5 D8
      have W0 := Below.refl wd.heap.size wd
      have h4 := HC4.out.lt
      have h5 := HD5.out.2.lt
      have h8 := HD8.out.2.lt
      have HH := hide (fun (W' : World) (h : Blk W' w.heap.size 54 #[.int .i64 i, .int .i64 c]) => (show W'.cell? ⟨w.heap.size, 0, none⟩ = some (.int .i64 i) ∧ W'.cell? ⟨w.heap.size, 1, none⟩ = some (.int .i64 c) from ⟨h.cell 0, h.cell 1⟩))
      have HCB := hide (fun (W' : World) (hb : Below wd.heap.size wd W') => HC4.out.below hb h4)
      have HT := hide (fun (W' : World) (hb : Below wd.heap.size wd W') => (HD5.out.below hb h5).text)
      have HR := hide (fun (W' : World) (hb : Below wd.heap.size wd W') => HD5.out.below hb h5)
      have hc0 := unhide HT wd.drew W0.drew
      have W1 : Below wd.heap.size wd (wd.alloc (.cells #[.int .i64 i, .int .i64 c, .int .i64 t] 3)).drew := (W0.alloc (Nat.le_refl _) _).drew
      have hc1 := unhide HT (wd.alloc (.cells #[.int .i64 i, .int .i64 c, .int .i64 t] 3)).drew W1
      have hrd : Reads (wd.alloc (.cells #[.int .i64 i, .int .i64 c, .int .i64 t] 3)).drew ((wd.alloc (.cells #[.int .i64 i, .int .i64 c, .int .i64 t] 3)).drew).heap.size 1 (some ⟨wd.heap.size, 0, none⟩) 3 ([i, c, t].map (Value.int .i64)) := reads_block wd [.int .i64 i, .int .i64 c, .int .i64 t] 3 3 rfl
      have hone : ∀ v ∈ BV D, v.oneCell' = true := BV_one D
      have hsz : Option.map (fun x => x.size) (Tryd.prog.info? 23) = some (BV D).length := by rw [BV_len, HL2.out]; exact size16
      go_upto_region 4 with fail
      go_region_held (fun w' => w'.cell? ⟨w.heap.size, 0, none⟩ = some (.int .i64 i) ∧ w'.cell? ⟨w.heap.size, 1, none⟩ = some (.int .i64 c))
        (first | exact unhide HH _ (unhide HCB _ W0.drew) | exact unhide HH _ (unhide HCB _ W1) | exact unhide HH _ (unhide HCB _ hX1) | exact unhide HH _ (unhide HCB _ (hX1.alloc hX1.size _)) | exact unhide HH _ (unhide HCB _ hX2) | exact unhide HH _ ((unhide HCB _ hX2).farCells _ _ (by omega)))
        (first
        | (go_at_call 48; (with_reducible refine (CI.out _ _ hrd).mono ?_); rintro e x1 ⟨v1, rfl, hown1, hb1⟩; obtain ⟨A1, c1, rfl, _, _⟩ := own_slice hown1; have hcv := conv_own hown1 (Below.refl x1.heap.size x1); have hX1 : Below wd.heap.size wd x1 := from_here W1 hb1; have hc2 := unhide HT x1 hX1; clear hown1)
        | (go_at_call 33; (with_reducible refine (CO.out _ _ _ _ (reads_block x1 [VS I, VS cur] 9 2 rfl) (HK.out.below (HB.out.trans ((hX1.alloc hX1.size _).mono HB.out.size)) (Nat.le_refl _))).mono ?_); rintro e x2 ⟨rfl, hb2⟩; have hX2 : Below wd.heap.size wd x2 := from_here (hX1.alloc hX1.size _) hb2; have ht2 : x2.there (w.heap.size + 1) 0 (BV D).length := (unhide HR x2 hX2).2.there_ 0 _ (by rw [BV_len, BV_len, (unhide HR x2 hX2).1, HL2.out]; decide)))
      all_goals
        have F5 := hide (show Dig (x2.setCells (w.heap.size + 1) 0 (BV D)) (w.heap.size + 1) D from (unhide HR _ hX2).stored HL2.out)
        have F4 := hide (show Blk (x2.setCells (w.heap.size + 1) 0 (BV D)) w.heap.size 54 #[.int .i64 i, .int .i64 c] from (unhide HCB _ hX2).farCells _ _ (by omega))
        have F8 := hide (show Dig (x2.setCells (w.heap.size + 1) 0 (BV D)) (w.heap.size + 1 + 1) Z16 from ⟨rfl, (HD8.out.below hX2 h8).2.farCells _ _ (by omega)⟩)
        have HB2 := hide (show Below w.heap.size w (x2.setCells (w.heap.size + 1) 0 (BV D)) from below_setCells (by omega) _ _ _ (HB.out.trans (hX2.mono HB.out.size)))
        clear hone hsz hc0 hc1 hc2
        go_wp2
        exact ⟨⟨k + 1, HLT.out, by rw [HT1.out], F4.out, by rw [HDD.out]; exact F5.out, F8.out, HB2.out⟩, HM.out⟩
    · obtain rfl : k = n := by omega
      have F5 := hide hD5
      have F8 := hide hD8
      have HB := hide hbel
      have hlen := Sg.adv_len i c v a HV0.out k
      clear hC4 hD5 hD8 hbel C4 D5 D8 HV
      go_wp2_with (first | (with_reducible refine wpList_load_dig rfl (.tmp 5) rfl (w.heap.size + 1) rfl _ F5.out ?_) | (with_reducible refine wpList_store_dig rfl (.tmp 8) (.tmp 28) rfl (w.heap.size + 1 + 1) Z16 _ rfl rfl F8.out hlen ?_; intro U hU))
      exact bodyPost_ret (v := .agg (BV _).toArray) (ret_dig Tryd.results27 _ rfl (F8.out.put hlen hU)) rfl ⟨rfl, below_row HB.out (by omega) hU⟩
end Go.Proofs.YtedgjpoejoepjaaDoor
