/-
  The reference's start, leaf, fits, by contract.
-/
import Derived.Test.YtedgjpoejoepjaaDoorRefVer
import Derived.Test.YtedgjpoejoepjaaDoorRefMac
namespace Go.Proofs.YtedgjpoejoepjaaDoor
open Go.RowKit
set_option linter.unusedVariables false
set_option linter.unusedSimpArgs false

set_option maxHeartbeats 1000000 in
set_option maxRecDepth 100000 in
theorem refStart_any (s : List UInt8) (i c : Int) (w : World) (hs : s.length = 32) (hi : Wr.inI i) (hc : Wr.inI c) (hK : RKLaid w) :
    Calls Tryd.prog 32 #[.string (S s), .int .i64 i, .int .i64 c] w fun e w' => e = .returned (.agg (BV (Sg.start s i c)).toArray) ∧ Below w.heap.size w w' := by
  have hlen := Sg.start_len s i c
  have hml := Sg.mac_len s (Sg.chainT ++ Sg.intsB [i, c])
  have hil := ints_len [i, c]
  have CI := hide (fun A (W : World) hr => refIntsS_any A 2 2 [i, c] W hr (by omega) (by intro x hx; simp at hx; rcases hx with rfl | rfl; exact hi; exact hc))
  have CM := hide (fun (W : World) hW => refMac_any s (Sg.chainT ++ Sg.intsB [i, c]) W hW (by omega) (by rw [List.length_append]; simp [Sg.chainT] at *; omega))
  have CP := hide (fun (W : World) => refDig16_any (Sha.mac s (Sg.chainT ++ Sg.intsB [i, c])) W (by omega) (by omega))
  have hst : (Sha.mac s (Sg.chainT ++ Sg.intsB [i, c])).take 16 = Sg.start s i c := rfl
  rw [hst] at CP
  have hcat := S_chain (Sg.intsB [i, c])
  generalize Sg.start s i c = D at *
  generalize Sha.mac s (Sg.chainT ++ Sg.intsB [i, c]) = M at *
  generalize Sg.chainT ++ Sg.intsB [i, c] = T at *
  generalize Sg.intsB [i, c] = I at *
  have hcs : ¬ 9223372036854775807 < 5 + (S I).size := by rw [S_size]; simp at hil; omega
  have HPL := hide hlen
  have HK := hide hK
  have hzs := zero16
  clear hlen hml hil hst hs hi hc hK
  go_enter Tryd.func32, Tryd.ntmps32
  go_upto_region 1 with fail
  refine name_world fun V hV => ?_
  have D4 := hide (show Dig V w.heap.size Z16 by rw [← hV.out]; exact Dig.new w Z16 rfl)
  have HV := hide (show Below w.heap.size w V by rw [← hV.out]; exact (Below.refl _ _).alloc (Nat.le_refl _) _)
  have hx4 := D4.out.2.lt
  clear hV hzs
  go_wp2_with (first
    | (go_at_call 50; refine (CI.out _ _ (reads_block V [.int .i64 i, .int .i64 c] 3 2 rfl)).mono ?_; rintro e x1 ⟨rfl, hb1⟩; have HX1 := hide ((HV.out.alloc HV.out.size _).trans (hb1.mono (Nat.le_trans HV.out.size (by simp)))); have E4 := hide ((D4.out.alloc _).below hb1 (by simp; omega)); clear hb1)
    | (go_at_call 51; refine (unhide CM _ (HK.out.below HX1.out (Nat.le_refl _))).mono ?_; rintro e x2 ⟨rfl, hb2⟩; have HX2 := hide (HX1.out.trans (hb2.mono HX1.out.size)); have F4 := hide (E4.out.below hb2 E4.out.2.lt); clear hb2)
    | (go_at_call 42; refine (unhide CP _).mono ?_; rintro e x3 ⟨rfl, hb3⟩; have HX3 := hide (HX2.out.trans (hb3.mono HX2.out.size)); have G4 := hide (F4.out.below hb3 F4.out.2.lt); clear hb3)
    | (with_reducible refine wpList_store_dig rfl (.tmp 6) (.tmp 14) rfl w.heap.size Z16 D rfl rfl G4.out HPL.out ?_; intro U hU))
  exact bodyPost_ret (v := .agg (BV D).toArray) (ret_dig Tryd.results32 _ rfl (G4.out.put HPL.out hU)) rfl ⟨rfl, below_row HX3.out (Nat.le_refl _) hU⟩

set_option maxHeartbeats 2000000 in
set_option maxRecDepth 100000 in
theorem refLeaf_any (s : List UInt8) (i : Nat) (w : World) (hs : s.length = 32) (hi : i < 64) (hK : RKLaid w) :
    Calls Tryd.prog 46 #[.string (S s), .int .i64 (i : Int)] w fun e w' => e = .returned (.agg (BV (Sg.node s 0 i)).toArray) ∧ Below w.heap.size w w' := by
  have hii : Wr.inI (i : Int) := by unfold Wr.inI; omega
  have hF : ∀ c : Nat, (Sg.top s i c).length = 16 := fun c => Sg.top_len s i c
  have hcl := Sg.cat_len (fun c : Nat => Sg.top s i c) 68 (fun k _ => hF k)
  have HLF := hide (show Sg.ofB 1 [Sg.ofB 3 [Sg.cat 68 fun c : Nat => Sg.top s i c]] = Sg.node s 0 i from rfl)
  have HTOP := hide (fun c : Nat => show Sg.adv i c (Sg.start s i c) 0 3 = Sg.top s i c from rfl)
  have HS := hide hs
  have HII := hide hii
  have HK := hide hK
  have hzs := zero16
  clear hs hii hK hi
  go_enter Tryd.func46, Tryd.ntmps46
  go_upto_region 1 with fail
  refine name_world fun V hV => ?_
  have D4 := hide (show Dig V w.heap.size Z16 by rw [← hV.out]; exact Dig.new w Z16 rfl)
  have HV := hide (show Below w.heap.size w V by rw [← hV.out]; exact (Below.refl _ _).alloc (Nat.le_refl _) _)
  clear hV
  go_upto_region 3 with fail
  go_loopw [5, 6] (fun s5 s6 wr => ∃ n : Nat, n ≤ 68 ∧ s6 = .int .i64 (n : Int) ∧ s5 = .string (S (Sg.cat n fun c : Nat => Sg.top s i c)) ∧ Dig wr w.heap.size Z16 ∧ Below w.heap.size w wr) (fun _ s6 _ => 68 - (intOf s6).toNat)
  case atStart => exact ⟨0, by omega, rfl, rfl, D4.out, HV.out⟩
  case round =>
    obtain ⟨n, hn, rfl, rfl, hD4, hbel⟩ := hrel
    obtain ⟨wd, rfl⟩ : ∃ wd, wd = wr := ⟨wr, rfl⟩
    have E4 := hide hD4
    have HB := hide hbel
    have h4l := E4.out.2.lt
    clear hD4 hbel D4 HV
    by_cases hlt : n < 68
    · have htest : (n : Int) < 68 := by omega
      have hni : Wr.inI (n : Int) := by unfold Wr.inI; omega
      have hcc := Sg.cat_len (fun c : Nat => Sg.top s i c) n (fun k _ => hF k)
      have CS := hide (fun (W : World) hK => refStart_any s i n W HS.out HII.out hni hK)
      have hsl := Sg.start_len s i n
      have CA := hide (fun (W : World) hK => (show Calls Tryd.prog 31 #[.int .i64 (i : Int), .int .i64 (n : Int), .int .i64 0, .int .i64 3, .agg (BV (Sg.start s i n)).toArray] W fun e w' => e = .returned (.agg (BV (Sg.top s i n)).toArray) ∧ Below W.heap.size W w' from refAdvance_any i n (Sg.start s i n) 0 3 W HII.out hni hsl (by omega) hK))
      have CT := hide (fun (W : World) => text_any (Sg.top s i n) W (hF n))
      have HC1 := hide (Sg.cat_succ n fun c : Nat => Sg.top s i c)
      have hvl := hF n
      have hcat := S_cat (Sg.cat n fun c : Nat => Sg.top s i c) (Sg.top s i n)
      have hcs : ¬ 9223372036854775807 < (S (Sg.cat n fun c : Nat => Sg.top s i c)).size + (S (Sg.top s i n)).size := by rw [S_size, S_size]; omega
      have HLT := hide hlt
      generalize Sg.top s i n = tp at *
      generalize Sg.start s i n = st at *
      generalize Sg.cat n (fun c : Nat => Sg.top s i c) = cu at *
      clear hcc hni hvl hsl hlt HLF
      go_wp2_with (first
        | (go_at_call 32; (with_reducible refine (unhide CS wd (HK.out.below HB.out (Nat.le_refl _))).mono ?_); rintro e x1 ⟨rfl, hb1⟩; have X1 := hide hb1; clear hb1)
        | (go_at_call 31; (with_reducible refine (unhide CA x1 (HK.out.below (HB.out.trans (X1.out.mono HB.out.size)) (Nat.le_refl _))).mono ?_); rintro e x2 ⟨rfl, hb2⟩; have X2 := hide (X1.out.trans (hb2.mono X1.out.size)); clear hb2)
        | (go_at_call 30; (with_reducible refine (unhide CT x2).mono ?_); rintro e x3 ⟨rfl, hb3⟩; have X3 := hide (X2.out.trans (hb3.mono X2.out.size)); clear hb3))
      exact ⟨⟨n + 1, HLT.out, by go_num, by rw [HC1.out], E4.out.below X3.out h4l, HB.out.trans (X3.out.mono HB.out.size)⟩, by have := HLT.out; simp [intOf]; omega⟩
    · obtain rfl : n = 68 := by omega
      have hbg := cat_one (Sg.cat 68 fun c : Nat => Sg.top s i c)
      have hkl := Sg.ofB_len 3 [Sg.cat 68 fun c : Nat => Sg.top s i c]
      have hbk := cat_one (Sg.ofB 3 [Sg.cat 68 fun c : Nat => Sg.top s i c])
      have hll := Sg.ofB_len 1 [Sg.ofB 3 [Sg.cat 68 fun c : Nat => Sg.top s i c]]
      have CK := hide (fun A n c (W : World) hr hK => refOfD_any 3 A n c [Sg.cat 68 fun c : Nat => Sg.top s i c] W hr (by have := hr.1; simp at this; omega) (by omega) hK)
      have CL := hide (fun A n c (W : World) hr hK => refOfD_any 1 A n c [Sg.ofB 3 [Sg.cat 68 fun c : Nat => Sg.top s i c]] W hr (by have := hr.1; simp at this; omega) (by omega) hK)
      have CTK := hide (fun (W : World) => text_any (Sg.ofB 3 [Sg.cat 68 fun c : Nat => Sg.top s i c]) W hkl)
      rw [HLF.out] at CL hll
      generalize hlq : Sg.node s 0 i = LEAF at *
      have HLQ := hide hlq
      clear hlq
      generalize Sg.ofB 3 [Sg.cat 68 fun c : Nat => Sg.top s i c] = KEY at *
      generalize Sg.cat 68 (fun c : Nat => Sg.top s i c) = C0 at *
      have hbs := HB.out.size
      clear hbg hbk hcl HLF HTOP hF
      go_upto_region 7 with (first
        | (go_at_call 34; (with_reducible refine (CK.out _ _ _ _ (reads_block wd [VS C0] 9 1 rfl) (HK.out.below (HB.out.trans (below_alloc' wd _ hbs)) (Nat.le_refl _))).mono ?_); rintro e x3 ⟨rfl, hb3⟩; have B3 := hide (below_then (below_alloc wd _) hb3); clear hb3)
        | (with_reducible refine wpList_store_dig rfl (.tmp 7) (.tmp 24) rfl x3.heap.size Z16 KEY rfl rfl (Dig.new x3 Z16 rfl) hkl ?_; intro T hT))
      have BT := hide (show Below wd.heap.size wd T from B3.out.trans ((below_row (below_alloc x3 _) (Nat.le_refl _) hT).mono B3.out.size))
      have D17 := hide ((Dig.new x3 Z16 rfl).put hkl hT)
      have HT := hide (HB.out.trans (BT.out.mono hbs))
      have hts := HT.out.size
      have E4T := hide (E4.out.below BT.out h4l)
      have hlT := E4T.out.2.lt
      clear hT E4
      go_wp2_with (first
        | (with_reducible refine wpList_load_dig rfl (.tmp 7) rfl x3.heap.size rfl KEY D17.out ?_)
        | (go_at_call 30; (with_reducible refine (unhide CTK T).mono ?_); rintro e y1 ⟨rfl, hb1⟩; have BY := hide hb1; clear hb1)
        | (go_at_call 34; (with_reducible refine (CL.out _ _ _ _ (reads_block y1 [VS KEY] 9 1 rfl) (HK.out.below (HT.out.trans ((BY.out.alloc BY.out.size _).mono hts)) (Nat.le_refl _))).mono ?_); rintro e y2 ⟨rfl, hb2⟩; have BY2 := hide (from_here (BY.out.alloc BY.out.size _) hb2); have E5 := hide (E4T.out.below BY2.out hlT); clear hb2)
        | (with_reducible refine wpList_store_dig rfl (.tmp 4) (.tmp 28) rfl w.heap.size Z16 LEAF rfl rfl E5.out hll ?_; intro U hU))
      exact bodyPost_ret (v := .agg (BV LEAF).toArray) (ret_dig Tryd.results46 _ rfl (E5.out.put hll hU)) rfl ⟨by rw [HLQ.out], below_row (HT.out.trans (BY2.out.mono hts)) (Nat.le_refl _) hU⟩

set_option maxHeartbeats 1000000 in
set_option maxRecDepth 100000 in
theorem refFits_any (s : List UInt8) (h : Int) (w : World) :
    Calls Tryd.prog 23 #[.string (S s), .int .i64 h] w fun e w' => e = .returned (.bool (decide (s.length = 32 ∧ 0 ≤ h ∧ h ≤ 6))) ∧ Below w.heap.size w w' := by
  have B := hide (Below.refl w.heap.size w)
  have hsz : (S s).size = s.length := rfl
  by_cases h1 : s.length = 32
  · by_cases h2 : 0 ≤ h
    · by_cases h3 : h ≤ 6
      · rw [decide_eq_true ⟨h1, h2, h3⟩]
        have e1 : (((S s).size : Nat) : Int) = 32 := by rw [hsz]; omega
        clear h1 hsz
        go_enter Tryd.func23, Tryd.ntmps23
        go_wp2
        go_ret
        exact ⟨rfl, B.out⟩
      · rw [decide_eq_false (fun x => h3 x.2.2)]
        have e1 : (((S s).size : Nat) : Int) = 32 := by rw [hsz]; omega
        have e3 : ¬ h ≤ 6 := h3
        clear h1 hsz
        go_enter Tryd.func23, Tryd.ntmps23
        go_wp2
        go_ret
        exact ⟨rfl, B.out⟩
    · rw [decide_eq_false (fun x => h2 x.2.1)]
      have e1 : (((S s).size : Nat) : Int) = 32 := by rw [hsz]; omega
      clear h1 hsz
      go_enter Tryd.func23, Tryd.ntmps23
      go_wp2
      go_ret
      exact ⟨rfl, B.out⟩
  · rw [decide_eq_false (fun x => h1 x.1)]
    have e1 : ¬ (((S s).size : Nat) : Int) = 32 := by rw [hsz]; omega
    clear h1 hsz
    go_enter Tryd.func23, Tryd.ntmps23
    go_wp2
    go_ret
    exact ⟨rfl, B.out⟩
end Go.Proofs.YtedgjpoejoepjaaDoor
