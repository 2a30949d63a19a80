/-
  SignBindsTheIndex, walked.
-/
import Derived.Test.YtedgjpoejoepjaaDoorRefVer
import Derived.Test.YtedgjpoejoepjaaDoorAccLaw
namespace Go.Proofs.YtedgjpoejoepjaaDoor
open Go.RowKit
set_option linter.unusedVariables false
set_option linter.unusedSimpArgs false

namespace Sg
/-- the beginning of one signature with the rest of another one -/
def mixed (s : List UInt8) (h i k : Nat) (m : List UInt8) : List UInt8 := (sig s h k m).take ((sig s h k m).length - (68 + h) * 16) ++ (sig s h i m).drop ((sig s h i m).length - (68 + h) * 16)
theorem mixed_same (s : List UInt8) (h i : Nat) (m : List UInt8) : mixed s h i i m = sig s h i m := List.take_append_drop _ _
theorem mixed_len (s : List UInt8) (h i k : Nat) (m : List UInt8) : (mixed s h i k m).length = (Wr.enc k).length + (68 + h) * 16 := by
  unfold mixed
  rw [List.length_append, List.length_take, List.length_drop, sig_len, sig_len]
  omega
theorem bind_end (s : List UInt8) (h i k : Nat) (m : List UInt8) (hh : h ≤ 6) (hi : i < 2 ^ h) (hm : m.length ≤ 1048576) (hik : i = k) : (ver (pub s h) h m (mixed s h i k m)).2 = 0 := by
  subst hik
  rw [mixed_same, ver_sig s h i m hh hi hm]
end Sg
set_option maxHeartbeats 4000000 in
set_option maxRecDepth 100000 in
theorem binds_walk (c hb ib kb : UInt8) (m : List UInt8) (w : World) (hm0 : m.length ≤ 140737488351232) (hR : RKLaid w) (hK : KLaid w) :
    Calls Tryd.prog 8 #[.int .u8 ((c.toNat : Nat) : Int), .int .u8 ((hb.toNat : Nat) : Int), .int .u8 ((ib.toNat : Nat) : Int), .int .u8 ((kb.toNat : Nat) : Int), .string (S m)] w fun e w' => e = .returned (.bool true) ∧ Below w.heap.size w w' := by
  have CSA := hide (fun (W : World) hK => sanity_any W hK)
  have HK := hide hK
  have HRK := hide hR
  clear hR
  by_cases hlong : 200 < m.length
  · have hml : (200 : Int) < (((S m).size : Nat) : Int) := by rw [S_size]; omega
    clear hlong hm0
    go_enter Tryd.func8, Tryd.ntmps8
    go_wp2_with (go_at_call 9; refine (unhide CSA w HK.out).mono ?_; rintro e w1 ⟨rfl, hb1⟩; have B1 := hide hb1; clear hb1)
    go_ret
    exact ⟨rfl, B1.out⟩
  · have hml : ¬ (200 : Int) < (((S m).size : Nat) : Int) := by rw [S_size]; omega
    have hby1 := hb.toNat_lt
    have hby2 := ib.toNat_lt
    have hby3 := kb.toNat_lt
    obtain ⟨h, hh⟩ : ∃ h : Nat, h = hb.toNat % 3 := ⟨_, rfl⟩
    have hh3 : h < 3 := by omega
    have hhq : ((hb.toNat : Nat) : Int) % 3 = (h : Int) := by omega
    have hh0 : (0 : Int) ≤ (h : Int) := by omega
    have hh2 : (h : Int) ≤ 2 := by omega
    obtain ⟨pw, hpw⟩ : ∃ pw : Nat, pw = 2 ^ h := ⟨_, rfl⟩
    have hw : wrap64 (2 ^ h) = (pw : Int) := by
      have H : ∀ h : Fin 7, wrap64 (2 ^ h.val) = ((2 ^ h.val : Nat) : Int) := by decide +kernel
      rw [hpw]; exact H ⟨h, by omega⟩
    have hp4 : pw ≤ 4 := by rw [hpw]; exact show 2 ^ h ≤ 2 ^ 2 from Nat.pow_le_pow_right (by omega) (by omega)
    have hp1 : 1 ≤ pw := by rw [hpw]; exact Nat.one_le_two_pow
    have hp1' : (1 : Int) ≤ (pw : Int) := by omega
    have hp4' : (pw : Int) ≤ 4 := by omega
    have hpne : ¬ ((pw : Int) = 0) := by omega
    obtain ⟨i, hi⟩ : ∃ i : Nat, i = ib.toNat % pw := ⟨_, rfl⟩
    have hip : i < pw := by rw [hi]; exact Nat.mod_lt _ (by omega)
    have hiq : ((ib.toNat : Nat) : Int) % (pw : Int) = (i : Int) := by rw [hi]; exact (Int.natCast_emod _ _).symm
    obtain ⟨k, hk⟩ : ∃ k : Nat, k = kb.toNat % pw := ⟨_, rfl⟩
    have hkp : k < pw := by rw [hk]; exact Nat.mod_lt _ (by omega)
    have hkq : ((kb.toNat : Nat) : Int) % (pw : Int) = (k : Int) := by rw [hk]; exact (Int.natCast_emod _ _).symm
    have hi2 : i < 2 ^ h := by rw [← hpw]; exact hip
    have hk2 : k < 2 ^ h := by rw [← hpw]; exact hkp
    have hi64 : i < 64 := by omega
    have hk64 : k < 64 := by omega
    obtain ⟨sd, hsd⟩ : ∃ sd, sd = List.replicate 32 c := ⟨_, rfl⟩
    have hsl : sd.length = 32 := by rw [hsd]; simp
    have hpl : (Sg.pub sd h).length = 16 := Sg.node_len _ _ _
    have hsigi := Sg.sig_len sd h i m
    have hsigk := Sg.sig_len sd h k m
    have heli := Wr.enc_le (i : Int)
    have helk := Wr.enc_le (k : Int)
    have CSD := hide (fun (W : World) => seed_any c W)
    rw [← hsd] at CSD
    have CP := hide (fun (W : World) hK => public_ok sd h W hsl (by omega) hK)
    have CSI := hide (fun (W : World) hK => sign_ok sd m h i W hsl (by omega) hi2 (by omega) hK)
    have CSK := hide (fun (W : World) hK => sign_ok sd m h k W hsl (by omega) hk2 (by omega) hK)
    have hmx := Sg.mixed_len sd h i k m
    have hend := Sg.bind_end sd h i k m (by omega) hi2 (by omega)
    have CV := hide (fun (W : World) hK => verify_any (Sg.pub sd h) m (Sg.mixed sd h i k m) h W hpl (by omega) hK)
    have CR := hide (fun (W : World) hK => refVerify_any (Sg.pub sd h) m (Sg.mixed sd h i k m) h W hpl (by omega) hK)
    have hmd : Sg.mixed sd h i k m = (Sg.sig sd h k m).take ((Sg.sig sd h k m).length - (68 + h) * 16) ++ (Sg.sig sd h i m).drop ((Sg.sig sd h i m).length - (68 + h) * 16) := rfl
    have hszi : (S (Sg.sig sd h i m)).size = (Sg.sig sd h i m).length := rfl
    have hszk : (S (Sg.sig sd h k m)).size = (Sg.sig sd h k m).length := rfl
    have hposi := Wr.enc_pos (i : Int)
    have hposk := Wr.enc_pos (k : Int)
    obtain ⟨n, hn⟩ : ∃ n : Nat, n = (68 + h) * 16 := ⟨_, rfl⟩
    have hnz : (68 + (h : Int)) * 16 = (n : Int) := by omega
    rw [← hn] at hmd
    obtain ⟨li, hli⟩ : ∃ li, li = (Sg.sig sd h i m).length := ⟨_, rfl⟩
    obtain ⟨lk, hlk⟩ : ∃ lk, lk = (Sg.sig sd h k m).length := ⟨_, rfl⟩
    have htk := S_take (Sg.sig sd h k m) (lk - n)
    have hdr := S_drop (Sg.sig sd h i m) (li - n)
    rw [← hli, ← hlk] at hmd
    rw [hszi, ← hli] at hdr
    rw [← hli] at hszi
    rw [← hlk] at hszk
    have htl : ((Sg.sig sd h k m).take (lk - n)).length ≤ 1000000 := by rw [List.length_take]; omega
    have hdl : ((Sg.sig sd h i m).drop (li - n)).length ≤ 1000000 := by rw [List.length_drop]; omega
    have hcat := S_cat ((Sg.sig sd h k m).take (lk - n)) ((Sg.sig sd h i m).drop (li - n))
    rw [← hmd] at hcat
    have hcs : ¬ 9223372036854775807 < (S ((Sg.sig sd h k m).take (lk - n))).size + (S ((Sg.sig sd h i m).drop (li - n))).size := by rw [S_size, S_size]; omega
    have hq1 : ¬ ((li : Int) < 1088) := by omega
    have hq2 : ¬ ((li : Int) < (n : Int)) := by omega
    have hq3 : ¬ ((lk : Int) < (n : Int)) := by omega
    have hk0 : (0 : Int) ≤ (lk : Int) - (n : Int) := by omega
    have hk1 : (lk : Int) - (n : Int) ≤ (lk : Int) := by omega
    have hk3 : ((lk : Int) - (n : Int)).toNat = lk - n := by omega
    have hkw : IntKind.i64.wrap ((lk : Int) - (n : Int)) = (lk : Int) - (n : Int) := by rw [IntWalk.i64_in _ (by omega)]
    have hi0 : (0 : Int) ≤ (li : Int) - (n : Int) := by omega
    have hi1 : (li : Int) - (n : Int) ≤ (li : Int) := by omega
    have hi3 : ((li : Int) - (n : Int)).toNat = li - n := by omega
    have hiw : IntKind.i64.wrap ((li : Int) - (n : Int)) = (li : Int) - (n : Int) := by rw [IntWalk.i64_in _ (by omega)]
    generalize (Sg.sig sd h k m).take (lk - n) = TK at *
    generalize (Sg.sig sd h i m).drop (li - n) = DI at *
    generalize Sg.mixed sd h i k m = MIX at *
    generalize Sg.sig sd h i m = SI at *
    generalize Sg.sig sd h k m = SK at *
    generalize (Sg.ver (Sg.pub sd h) h m MIX).1 = r1 at *
    generalize (Sg.ver (Sg.pub sd h) h m MIX).2 = r2 at *
    generalize Sg.pub sd h = P at *
    have hzs := zero16
    have HNZ := hide hnz
    have HEND := hide hend
    have HQ := hide (And.intro hq2 hq3)
    have HKK := hide (And.intro hk0 hk1)
    have HK3 := hide hk3
    have HKW := hide hkw
    have HII := hide (And.intro hi0 hi1)
    have HI3 := hide hi3
    have HIW := hide hiw
    have HCS := hide hcs
    have HTK := hide htk
    have HDR := hide hdr
    have HCAT := hide hcat
    have HSZI := hide hszi
    have HSZK := hide hszk
    clear hnz hend hq2 hq3 hk0 hk1 hk3 hkw hi0 hi1 hi3 hiw hcs htk hdr hcat hmd htl hdl hmx heli helk hposi hposk hn hli hlk hsigi hsigk hszk
    clear hlong hm0 hi hk hip hkp hi2 hk2 hi64 hk64 hsd hsl hpw hh hh3 hp4 hp1
    go_enter Tryd.func8, Tryd.ntmps8
    go_upto_region 7 with (go_at_call 9; refine (unhide CSA w HK.out).mono ?_; rintro e w1 ⟨rfl, hb1⟩; have B1 := hide hb1; clear hb1)
    go_upto_region 8 with (first
      | (go_at_call 20; refine (CSD.out w1).mono ?_; rintro e w2 ⟨rfl, hb2⟩; have B2 := hide (B1.out.trans (hb2.mono B1.out.size)); clear hb2)
      | (go_at_call 12; refine (unhide CP w2 (HK.out.below B2.out (Nat.le_refl _))).mono ?_; rintro e w3 ⟨rfl, hb3⟩; have B3 := hide (B2.out.trans (hb3.mono B2.out.size)); clear hb3)
      | ((with_reducible refine wpList_store_dig rfl (.tmp 15) (.tmp 50) rfl w3.heap.size Z16 P rfl rfl (Dig.new w3 Z16 rfl) hpl ?_); intro V hV))
    have D2 := hide ((Dig.new w3 Z16 rfl).put hpl hV)
    have HV := hide (B3.out.trans (Below.mono (below_row (below_alloc w3 _) (Nat.le_refl _) hV) B3.out.size))
    have hl2' := D2.out.2.lt
    clear hV
    go_upto_region 9 with (first
      | (go_at_call 20; refine (CSD.out V).mono ?_; rintro e x1 ⟨rfl, hb4⟩; have X1 := hide hb4; clear hb4)
      | (go_at_call 14; refine (unhide CSI x1 (HK.out.below (HV.out.trans (X1.out.mono HV.out.size)) (Nat.le_refl _))).mono ?_; rintro e x2 ⟨rfl, hb5⟩; have X2 := hide (X1.out.trans (hb5.mono X1.out.size)); clear hb5))
    have D3 := hide (D2.out.below X2.out hl2')
    have hl3' := D3.out.2.lt
    have H2 := hide (HV.out.trans (X2.out.mono HV.out.size))
    go_upto_region 10 with (first
      | (go_at_call 20; refine (CSD.out x2).mono ?_; rintro e x3 ⟨rfl, hb4⟩; have X3 := hide hb4; clear hb4)
      | (go_at_call 14; refine (unhide CSK x3 (HK.out.below (H2.out.trans (X3.out.mono H2.out.size)) (Nat.le_refl _))).mono ?_; rintro e x4 ⟨rfl, hb5⟩; have X4 := hide (X3.out.trans (hb5.mono X3.out.size)); clear hb5))
    have D4 := hide (D3.out.below X4.out hl3')
    have hl4' := D4.out.2.lt
    have H4 := hide (H2.out.trans (X4.out.mono H2.out.size))
    clear X1 X2 X3 X4 D2 D3
    go_upto_region 13 with fail
    rw [HNZ.out]
    have hszk := HSZK.out
    have hq2 := HQ.out.1
    have hq3 := HQ.out.2
    go_upto_region 15 with fail
    have hk0 := HKK.out.1
    have hk1 := HKK.out.2
    have hi0 := HII.out.1
    have hi1 := HII.out.2
    have hk3 := HK3.out
    have hkw := HKW.out
    have hi3 := HI3.out
    have hiw := HIW.out
    have htk := HTK.out
    have hdr := HDR.out
    have hcat := HCAT.out
    have hcs := HCS.out
    go_quiet (fail)
    clear hk0 hk1 hi0 hi1 hk3 hkw hi3 hiw htk hdr hcat hcs hq2 hq3 HKK HK3 HKW HII HI3 HIW HCS HTK HDR HCAT HSZI HSZK CP CSI CSK CSD CSA
    have D5 := hide (show Dig (x4.drewN nq) w3.heap.size P from ⟨hpl, D4.out.2.drewN nq⟩)
    have H5 := hide (below_drewN H4.out nq)
    have hl5 : w3.heap.size < (x4.drewN nq).heap.size := hl4'
    clear D4 H4 hl4'
    generalize x4.drewN nq = X at *
    have hee : (r1 == r1) = true := by simp
    have hff : (r2 == r2) = true := by simp
    by_cases hik : i = k
    · have hr2 := HEND.out hik
      have hne : ((i : Int) != (k : Int)) = false := by rw [hik]; simp
      have h00 : (r2 == 0) = true := by rw [hr2]; rfl
      clear hik HEND
      go_wp2_with (first
        | (with_reducible refine wpList_load_dig rfl (.tmp 15) rfl w3.heap.size rfl P D5.out ?_)
        | (with_reducible refine wpList_load_dig rfl (.tmp 15) rfl w3.heap.size rfl P D6.out ?_)
        | (go_at_call 18; (with_reducible refine (unhide CV X (HK.out.below H5.out (Nat.le_refl _))).mono ?_); rintro e y1 ⟨rfl, hb6⟩; have D6 := hide (D5.out.below hb6 hl5); have H6 := hide (H5.out.trans (hb6.mono H5.out.size)); clear hb6)
        | (go_at_call 19; (with_reducible refine (unhide CR y1 (HRK.out.below H6.out (Nat.le_refl _))).mono ?_); rintro e y2 ⟨rfl, hb7⟩; have H7 := hide (H6.out.trans (hb7.mono H6.out.size)); clear hb7))
      go_ret
      exact ⟨rfl, H7.out⟩
    · have hne : ((i : Int) != (k : Int)) = true := by rw [bne_iff_ne]; omega
      clear hik HEND
      go_wp2_with (first
        | (with_reducible refine wpList_load_dig rfl (.tmp 15) rfl w3.heap.size rfl P D5.out ?_)
        | (with_reducible refine wpList_load_dig rfl (.tmp 15) rfl w3.heap.size rfl P D6.out ?_)
        | (go_at_call 18; (with_reducible refine (unhide CV X (HK.out.below H5.out (Nat.le_refl _))).mono ?_); rintro e y1 ⟨rfl, hb6⟩; have D6 := hide (D5.out.below hb6 hl5); have H6 := hide (H5.out.trans (hb6.mono H5.out.size)); clear hb6)
        | (go_at_call 19; (with_reducible refine (unhide CR y1 (HRK.out.below H6.out (Nat.le_refl _))).mono ?_); rintro e y2 ⟨rfl, hb7⟩; have H7 := hide (H6.out.trans (hb7.mono H6.out.size)); clear hb7))
      go_ret
      exact ⟨rfl, H7.out⟩
end Go.Proofs.YtedgjpoejoepjaaDoor
