/-
  SignIsAccepted, walked.
-/
import Derived.Test.YtedgjpoejoepjaaDoorSane
namespace Go.Proofs.YtedgjpoejoepjaaDoor
open Go.RowKit
set_option linter.unusedVariables false
set_option linter.unusedSimpArgs false

namespace Sg
theorem ver_form (p : List UInt8) (h i : Nat) (m R : List UInt8) (hh : h ≤ 6) (hi : i < 64) (hm : m.length ≤ 1048576) (hR : R.length ≠ (68 + h) * 16) : ver p h m (Wr.enc i ++ R) = (0, 2) := by
  have hd : Wr.decI (Wr.enc i ++ R) = ((i : Int), (Wr.enc i).length, 0) := Wr.dec_enc (by unfold Wr.inI; omega) _
  unfold ver
  rw [if_neg (by omega), if_neg (by omega), hd]
  simp only []
  rw [if_neg (by simp), if_pos]
  right
  rw [List.drop_left, Int.toNat_natCast]
  exact hR
theorem sig_form (s : List UInt8) (h i : Nat) (m : List UInt8) : ∃ R, sig s h i m = Wr.enc i ++ R ∧ R.length = (68 + h) * 16 := by
  refine ⟨_, rfl, ?_⟩
  rw [List.length_append, cat_len _ 68 (fun k _ => adv_len _ _ _ _ (start_len _ _ _) _), cat_len _ h (fun k _ => node_len s _ _)]
  omega
theorem ver_more (p s : List UInt8) (h i : Nat) (m m' : List UInt8) (hh : h ≤ 6) (hi : i < 64) (hm : m.length ≤ 1048576) : ver p h m (sig s h i m' ++ [120]) = (0, 2) := by
  obtain ⟨R, hR, hl⟩ := sig_form s h i m'
  rw [hR, List.append_assoc]
  exact ver_form p h i m (R ++ [120]) hh hi hm (by simp; omega)
theorem ver_less (p s : List UInt8) (h i : Nat) (m m' : List UInt8) (hh : h ≤ 6) (hi : i < 64) (hm : m.length ≤ 1048576) : ver p h m ((sig s h i m').take ((sig s h i m').length - 1)) = (0, 2) := by
  obtain ⟨R, hR, hl⟩ := sig_form s h i m'
  rw [hR, List.length_append, List.take_append, List.take_of_length_le (by omega)]
  exact ver_form p h i m _ hh hi hm (by rw [List.length_take]; omega)
end Sg
theorem S_take (l : List UInt8) (k : Nat) : (S l).extract 0 k = S (l.take k) := by
  have h : ((S l).extract 0 k).data.toList = (l.take k) := by
    rw [ByteArray.data_extract]; simp [S, Array.toList_extract]
  rw [← S_of ((S l).extract 0 k), h]
theorem S_snoc (l : List UInt8) : S l ++ { data := #[120] } = S (l ++ [120]) := by
  have h : (S l ++ ({ data := #[120] } : ByteArray)).data.toList = l ++ [120] := by
    rw [ByteArray.data_append, Array.toList_append]; rfl
  rw [← S_of (_ ++ _), h]

set_option maxHeartbeats 4000000 in
set_option maxRecDepth 100000 in
theorem accepted_walk (c hb ib : UInt8) (m : List UInt8) (w : World) (hK : KLaid w) (hm0 : m.length ≤ 140737488351232) :
    Calls Tryd.prog 6 #[.int .u8 ((c.toNat : Nat) : Int), .int .u8 ((hb.toNat : Nat) : Int), .int .u8 ((ib.toNat : Nat) : Int), .string (S m)] w fun e w' => e = .returned (.bool true) ∧ Below w.heap.size w w' := by
  have CSA := hide (fun (W : World) hK => sanity_any W hK)
  have HK := hide hK
  by_cases hlong : 200 < m.length
  · have hml : (200 : Int) < (((S m).size : Nat) : Int) := by rw [S_size]; omega
    clear hlong hm0
    go_enter Tryd.func6, Tryd.ntmps6
    go_wp2_with (go_at_call 9; refine (unhide CSA w HK.out).mono ?_; rintro e w1 ⟨rfl, hb1⟩; have B1 := hide hb1; clear hb1)
    go_ret
    exact ⟨rfl, B1.out⟩
  · have hml : ¬ (200 : Int) < (((S m).size : Nat) : Int) := by rw [S_size]; omega
    have hby1 := hb.toNat_lt
    have hby2 := ib.toNat_lt
    obtain ⟨h, hh⟩ : ∃ h : Nat, h = hb.toNat % 3 := ⟨_, rfl⟩
    have hh3 : h < 3 := by omega
    have hhq : ((hb.toNat : Nat) : Int) % 3 = (h : Int) := by omega
    have hh0 : (0 : Int) ≤ (h : Int) := by omega
    have hh2 : (h : Int) ≤ 2 := by omega
    obtain ⟨pw, hpw⟩ : ∃ pw : Nat, pw = 2 ^ h := ⟨_, rfl⟩
    have hw : wrap64 (2 ^ h) = (pw : Int) := by
      have H : ∀ h : Fin 7, wrap64 (2 ^ h.val) = ((2 ^ h.val : Nat) : Int) := by decide +kernel
      rw [hpw]; exact H ⟨h, by omega⟩
    have hp4 : pw ≤ 4 := by rw [hpw]; exact show 2 ^ h ≤ 2 ^ 2 from Nat.pow_le_pow_right (by omega) (by omega)
    have hp1 : 1 ≤ pw := by rw [hpw]; exact Nat.one_le_two_pow
    have hp1' : (1 : Int) ≤ (pw : Int) := by omega
    have hp4' : (pw : Int) ≤ 4 := by omega
    have hpne : ¬ ((pw : Int) = 0) := by omega
    obtain ⟨i, hi⟩ : ∃ i : Nat, i = ib.toNat % pw := ⟨_, rfl⟩
    have hip : i < pw := by rw [hi]; exact Nat.mod_lt _ (by omega)
    have hiq : ((ib.toNat : Nat) : Int) % (pw : Int) = (i : Int) := by rw [hi]; exact (Int.natCast_emod _ _).symm
    have hi2 : i < 2 ^ h := by rw [← hpw]; exact hip
    have hi64 : i < 64 := by omega
    obtain ⟨sd, hsd⟩ : ∃ sd, sd = List.replicate 32 c := ⟨_, rfl⟩
    have hsl : sd.length = 32 := by rw [hsd]; simp
    have hpl : (Sg.pub sd h).length = 16 := Sg.node_len _ _ _
    have hsig := Sg.sig_len sd h i m
    have hel := Wr.enc_le (i : Int)
    have CSD := hide (fun (W : World) => seed_any c W)
    rw [← hsd] at CSD
    have CP := hide (fun (W : World) hK => public_ok sd h W hsl (by omega) hK)
    have CS := hide (fun (W : World) hK => sign_ok sd m h i W hsl (by omega) hi2 (by omega) hK)
    have hv1 := Sg.ver_sig sd h i m (by omega) hi2 (by omega)
    have hv2 := Sg.ver_more (Sg.pub sd h) sd h i m m (by omega) hi64 (by omega)
    have hv3 := Sg.ver_less (Sg.pub sd h) sd h i m m (by omega) hi64 (by omega)
    have CV := hide (fun (W : World) hK => by have := verify_any (Sg.pub sd h) m (Sg.sig sd h i m) h W hpl (by omega) hK; rw [hv1] at this; exact this)
    have CV2 := hide (fun (W : World) hK => by have := verify_any (Sg.pub sd h) m (Sg.sig sd h i m ++ [120]) h W hpl (by rw [List.length_append]; simp; omega) hK; rw [hv2] at this; exact this)
    have CV3 := hide (fun (W : World) hK => by have := verify_any (Sg.pub sd h) m ((Sg.sig sd h i m).take ((Sg.sig sd h i m).length - 1)) h W hpl (by rw [List.length_take]; omega) hK; rw [hv3] at this; exact this)
    have hcat := S_snoc (Sg.sig sd h i m)
    have hpos := Wr.enc_pos (i : Int)
    have hszs : (S (Sg.sig sd h i m)).size = (Sg.sig sd h i m).length := rfl
    obtain ⟨len, hlen⟩ : ∃ len, len = (Sg.sig sd h i m).length := ⟨_, rfl⟩
    have hl1 : ¬ ((len : Int) < 2) := by omega
    have hl0 : (0 : Int) ≤ (len : Int) - 1 := by omega
    have hl2 : ((len : Int) - 1) ≤ (len : Int) := by omega
    have hl3 : ((len : Int) - 1).toNat = len - 1 := by omega
    have hlw : IntKind.i64.wrap ((len : Int) - 1) = (len : Int) - 1 := by rw [IntWalk.i64_in _ (by omega)]
    have hcs : ¬ 9223372036854775807 < len + 1 := by omega
    have htk := S_take (Sg.sig sd h i m) (len - 1)
    rw [← hlen] at CV3 hszs
    generalize (Sg.sig sd h i m).take (len - 1) = SLESS at *
    generalize Sg.sig sd h i m ++ [120] = SMORE at *
    generalize Sg.sig sd h i m = SIG at *
    generalize Sg.pub sd h = P at *
    have hzs := zero16
    clear hlong hm0 hi hip hi2 hi64 hsd hsl hsig hel hv1 hv2 hv3 hlen hpos hpw hh hh3 hp4 hp1
    go_enter Tryd.func6, Tryd.ntmps6
    go_upto_region 6 with (go_at_call 9; refine (unhide CSA w HK.out).mono ?_; rintro e w1 ⟨rfl, hb1⟩; have B1 := hide hb1; clear hb1)
    go_upto_region 7 with (first
      | (go_at_call 20; refine (CSD.out w1).mono ?_; rintro e w2 ⟨rfl, hb2⟩; have B2 := hide (B1.out.trans (hb2.mono B1.out.size)); clear hb2)
      | (go_at_call 12; refine (unhide CP w2 (HK.out.below B2.out (Nat.le_refl _))).mono ?_; rintro e w3 ⟨rfl, hb3⟩; have B3 := hide (B2.out.trans (hb3.mono B2.out.size)); clear hb3)
      | ((with_reducible refine wpList_store_dig rfl (.tmp 12) (.tmp 40) rfl w3.heap.size Z16 P rfl rfl (Dig.new w3 Z16 rfl) hpl ?_); intro V hV))
    have D2 := hide ((Dig.new w3 Z16 rfl).put hpl hV)
    have HV := hide (B3.out.trans (Below.mono (below_row (below_alloc w3 _) (Nat.le_refl _) hV) B3.out.size))
    have hl2' := D2.out.2.lt
    clear hV
    go_upto_region 8 with (first
      | (go_at_call 20; refine (CSD.out V).mono ?_; rintro e x1 ⟨rfl, hb4⟩; have X1 := hide hb4; clear hb4)
      | (go_at_call 14; refine (unhide CS x1 (HK.out.below (HV.out.trans (X1.out.mono HV.out.size)) (Nat.le_refl _))).mono ?_; rintro e x2 ⟨rfl, hb5⟩; have X2 := hide (X1.out.trans (hb5.mono X1.out.size)); clear hb5))
    have D3 := hide (D2.out.below X2.out hl2')
    have hl3' := D3.out.2.lt
    have H2 := hide (HV.out.trans (X2.out.mono HV.out.size))
    go_upto_region 9 with (first
      | (with_reducible refine wpList_load_dig rfl (.tmp 12) rfl w3.heap.size rfl P D3.out ?_)
      | (go_at_call 18; refine (unhide CV x2 (HK.out.below H2.out (Nat.le_refl _))).mono ?_; rintro e x3 ⟨rfl, hb6⟩; have X3 := hide hb6; clear hb6))
    have D4 := hide (D3.out.below X3.out hl3')
    have hl4' := D4.out.2.lt
    have H3 := hide (H2.out.trans (X3.out.mono H2.out.size))
    go_upto_region 12 with (first
      | (with_reducible refine wpList_load_dig rfl (.tmp 12) rfl w3.heap.size rfl P D4.out ?_)
      | (go_at_call 18; refine (unhide CV2 x3 (HK.out.below H3.out (Nat.le_refl _))).mono ?_; rintro e x4 ⟨rfl, hb7⟩; have X4 := hide hb7; clear hb7))
    have D5 := hide (D4.out.below X4.out hl4')
    have hl5' := D5.out.2.lt
    have H4 := hide (H3.out.trans (X4.out.mono H3.out.size))
    have W0 := Below.refl x4.heap.size x4
    have hund := Tryd.underlying23
    have hsz : Option.map (fun x => x.size) (Tryd.prog.info? 23) = some (BV P).length := by rw [BV_len, hpl]; exact size16
    have hn16 : (BV P).length = 16 := by rw [BV_len, hpl]
    have HH := hide (fun (W' : World) (hb : Below x4.heap.size x4 W') => (D5.out.below hb hl5').range)
    go_region_held (fun w' => w'.rangeAt w3.heap.size 0 (BV P))
      (first | exact unhide HH _ W0.drew | exact unhide HH _ hX1)
      (first | (go_at_call 18; (with_reducible refine (unhide CV3 x4.drew (HK.out.below (H4.out.trans (W0.drew.mono H4.out.size)) (Nat.le_refl _))).mono ?_); rintro e q1 ⟨rfl, hb1⟩; have hX1 : Below x4.heap.size x4 q1 := from_here W0.drew hb1))
    all_goals
      have HF := hide (H4.out.trans (hX1.mono H4.out.size))
      clear hsz hn16 hund
      go_wp2
      go_ret
      exact ⟨rfl, HF.out⟩
end Go.Proofs.YtedgjpoejoepjaaDoor
