/-
  The authentication code of the reference; its input and digest of parts: by contract.
-/
import Derived.Test.YtedgjpoejoepjaaDoorPadKey
import Derived.Test.YtedgjpoejoepjaaDoorWireRef
namespace Go.Proofs.YtedgjpoejoepjaaDoor
open Go.RowKit
set_option linter.unusedVariables false
set_option linter.unusedSimpArgs false

theorem padKey_lit (k : List UInt8) (x : UInt8) (n : Int) (hx : (x.toNat : Int) = n) (w : World) (hK : RKLaid w) (hk : k.length ≤ 1099511627776) :
    Calls Tryd.prog 62 #[.string (S k), .int .u8 n] w fun e w' => ∃ v, e = .returned v ∧ w'.ownsRow w.heap.size 5 1 v 64 (BV (Sha.masked (Sha.keyOf k) x)) ∧ Below w.heap.size w w' := by
  subst hx
  exact padKey_any k x w hK hk
theorem own_str {w : World} {b : Nat} {v : Value} {l : List UInt8} {k : Nat} {s : List UInt8} (h : w.ownsRow b 5 1 v (k + (S s).size) (BV l ++ Lib.strCells (S s))) : w.ownsRow b 5 1 v (k + s.length) (BV (l ++ s)) := by
  rw [BV_append]
  exact h

set_option maxHeartbeats 1000000 in
set_option maxRecDepth 100000 in
theorem refMac_any (k t : List UInt8) (w : World) (hK : RKLaid w) (hk : k.length ≤ 1048576) (ht : t.length ≤ 1048576) :
    Calls Tryd.prog 51 #[.string (S k), .string (S t)] w fun e w' => e = .returned (.string (S (Sha.mac k t))) ∧ Below w.heap.size w w' := by
  obtain ⟨i0, hi, hz0, hz1, hz2⟩ := info_parts byteInfo
  have HI := hide hi
  have HZ0 := hide hz0
  have HZ1 := hide hz1
  have HZ2 := hide hz2
  have CP1 := hide (fun W hW => padKey_lit k 54 54 rfl W hW (by omega))
  have CP2 := hide (fun W hW => padKey_lit k 92 92 rfl W hW (by omega))
  have hdef : Sha.mac k t = Sha.sum (Sha.masked (Sha.keyOf k) 92 ++ Sha.sum (Sha.masked (Sha.keyOf k) 54 ++ t)) := rfl
  have hm1 := Sha.masked_len (Sha.keyOf k) 54 (Sha.keyOf_len k)
  have hm2 := Sha.masked_len (Sha.keyOf k) 92 (Sha.keyOf_len k)
  generalize Sha.masked (Sha.keyOf k) 54 = M1 at *
  generalize Sha.masked (Sha.keyOf k) 92 = M2 at *
  have CS1 := hide (fun A n c (W : World) hr hn hK => refSum_any A n c (M1 ++ t) W hr hn hK)
  have hl1 : (M1 ++ t).length = 64 + t.length := by rw [List.length_append, hm1]
  have hd1 := Sha.sum_len (M1 ++ t)
  generalize Sha.sum (M1 ++ t) = D1 at *
  have CB1 := hide (fun W => bytes32_any D1 W hd1)
  have CS2 := hide (fun A n c (W : World) hr hn hK => refSum_any A n c (M2 ++ D1) W hr hn hK)
  have hl2 : (M2 ++ D1).length = 64 + 32 := by rw [List.length_append, hm2, hd1]
  have hr2 := Sha.sum_len (M2 ++ D1)
  generalize Sha.sum (M2 ++ D1) = R at *
  have CB2 := hide (fun W => bytes32_any R W hr2)
  have HMAC := hide hdef
  have HK := hide hK
  have hts : (S t).size = t.length := rfl
  have hds : (S D1).size = 32 := by rw [S_size, hd1]
  have HD1 := hide hd1
  have HOS1 := hide (fun (w : World) b v kk h => (own_str (w := w) (b := b) (v := v) (l := M1) (k := kk) (s := t) h))
  have HOS2 := hide (fun (w : World) b v kk h => (own_str (w := w) (b := b) (v := v) (l := M2) (k := kk) (s := D1) h))
  clear hi hz0 hz1 hz2 hdef hm1 hm2 hl1 hl2 hd1 hr2 hK
  go_enter Tryd.func51, Tryd.ntmps51
  go_wp2_with fail
  refine (unhide CP1 w HK.out).mono ?_
  rintro e w1 ⟨v1, rfl, hown1, hb1⟩
  have HO1 := hide hown1
  have HB1 := hide hb1
  have hs1 := hb1.size
  clear hown1 hb1
  go_wp2_with (at_builtin; refine Lib.wpList_append_own_string _ rfl (.tmp 9) (.tmp 10) 51 9 rfl w.heap.size 5 i0 Tryd.underlying51 Tryd.underlying9 HI.out HZ0.out HZ1.out HZ2.out v1 64 (BV M1) rfl HO1.out (S t) rfl (by unfold maxLen; omega) (by omega) (by omega) ?_; intro v2 w2 hown2 hgrow2 _)
  have HO2 := hide (HOS1.out _ _ _ _ hown2)
  have HB2 := hide (HB1.out.trans (below_grown hgrow2 HO1.out hs1))
  clear hown2 hgrow2
  go_wp2_with fail
  refine (unhide CP2 w2 (HK.out.below HB2.out (Nat.le_refl _))).mono ?_
  rintro e w3 ⟨v3, rfl, hown3, hb3⟩
  have HO3 := hide hown3
  have HO2' := hide (own_below HO2.out hb3)
  have HB3 := hide (HB2.out.trans (hb3.mono HB2.out.size))
  have hs3 := hb3.size
  clear hown3 hb3
  obtain ⟨A2, c2, rfl, _, _⟩ := own_slice HO2'.out
  go_wp2_with fail
  refine (unhide CS1 A2 _ c2 w3 (Reads.of_own HO2'.out) (by omega) (HK.out.below HB3.out (Nat.le_refl _))).mono ?_
  rintro e w4 ⟨rfl, hb4⟩
  have HO4 := hide (own_below HO3.out hb4)
  have HB4 := hide (HB3.out.trans (hb4.mono HB3.out.size))
  have hs4 := hb4.size
  clear hb4
  go_wp2_with fail
  refine (unhide CB1 w4).mono ?_
  rintro e w5 ⟨rfl, hb5⟩
  have HO5 := hide (own_below HO4.out hb5)
  have HB5 := hide (HB4.out.trans (hb5.mono HB4.out.size))
  have hs5 := hb5.size
  clear hb5
  go_wp2_with (at_builtin; refine Lib.wpList_append_own_string _ rfl (.tmp 14) (.tmp 17) 51 9 rfl w2.heap.size 5 i0 Tryd.underlying51 Tryd.underlying9 HI.out HZ0.out HZ1.out HZ2.out v3 64 (BV M2) rfl HO5.out (S D1) rfl (by unfold maxLen; omega) (by omega) (by omega) ?_; intro v6 w6 hown6 hgrow6 _)
  have HO6 := hide (HOS2.out _ _ _ _ hown6)
  have HB6 := hide (HB5.out.trans ((below_grown hgrow6 HO5.out (by omega)).mono HB2.out.size))
  clear hown6 hgrow6
  obtain ⟨A6, c6, rfl, _, _⟩ := own_slice HO6.out
  go_wp2_with fail
  refine (unhide CS2 A6 _ c6 w6 (Reads.of_own HO6.out) (by have := HD1.out; omega) (HK.out.below HB6.out (Nat.le_refl _))).mono ?_
  rintro e w7 ⟨rfl, hb7⟩
  have HB7 := hide (HB6.out.trans (hb7.mono HB6.out.size))
  clear hb7
  go_wp2_with fail
  refine (unhide CB2 w7).mono ?_
  rintro e w8 ⟨rfl, hb8⟩
  have HB8 := hide (HB7.out.trans (hb8.mono HB7.out.size))
  clear hb8
  go_wp2
  go_ret
  exact ⟨by rw [HMAC.out]; rfl, HB8.out⟩
end Go.Proofs.YtedgjpoejoepjaaDoor
