/-
  WireEncodeMatchesSpec answers true where its input is of bounded bulk: the walk.
-/
import Derived.Test.YtbkpnfejhaedhaaRound
import Derived.Test.YtbkpnfejhaedhaaRef5
namespace Go.Proofs.Ytbkpnfejhaedhaa
open Go.RowKit
set_option linter.unusedVariables false
set_option linter.unusedSimpArgs false

set_option maxHeartbeats 2000000 in
set_option maxRecDepth 100000 in
theorem encode_walk (z : Int) (s : List UInt8) (xl : List Int) (xs xd : List (List UInt8)) (A1 A2 A3 : Option Addr) (n1 n2 n3 c1 c2 c3 : Nat) (w : World) (hz : Wr.inI z)
    (hs : s.length ≤ 1048576) (h1 : Reads w w.heap.size 1 A1 n1 (xl.map (Value.int .i64))) (h2 : Reads w w.heap.size 1 A2 n2 (xs.map VS)) (h3 : Reads w w.heap.size 16 A3 n3 (BV xd.flatten))
    (hn3 : n3 = xd.length) (hc1 : n1 ≤ c1) (hc2 : n2 ≤ c2) (hc3 : n3 ≤ c3) (hb1 : n1 ≤ 1048576) (hb2 : n2 + lens xs ≤ 1048576) (hb3 : n3 ≤ 1048576) (hxl : ∀ x ∈ xl, Wr.inI x) (hxd : ∀ d ∈ xd, d.length = 16) :
    Calls Try.prog 3 #[.int .i64 z, .string (S s), .slice A1 n1 c1, .slice A2 n2 c2, .slice A3 n3 c3] w fun e w' => e = .returned (.bool true) ∧ Below w.heap.size w w' := by
  have hl1 : n1 = xl.length := by have := h1.1; simpa using this.symm
  have hl2 : n2 = xs.length := by have := h2.1; simpa using this.symm
  have hsz : (S s).size = s.length := rfl
  have HF := hide (fun W hb => few_any A2 n2 c2 xs W ((h2.below hb).more (Below.size hb)) (by omega))
  by_cases hbig : s.length + n1 + n3 ≤ 2000
  · have hsum : ((S s).size : Int) + (n1 : Int) + (n3 : Int) ≤ 2000 := by rw [hsz]; omega
    have hss : (S s).size ≤ 2000 := by rw [hsz]; omega
    have hs1 : n1 ≤ 2000 := by omega
    have hs3 : n3 ≤ 2000 := by omega
    by_cases hfew : n2 + lens xs ≤ 2000
    · rw [decide_eq_true hfew] at HF
      have hbi := encI_bound xl
      have hbs := encB_bound xs
      have hfl : xd.flatten.length = xd.length * 16 := flat_len xd hxd
      have e0 := Wr.enc_le z
      have e1 := Wr.enc_le (s.length : Int)
      have e2 := Wr.enc_le (xl.length : Int)
      have e3 := Wr.enc_le (xs.length : Int)
      have e4 := Wr.enc_le (xd.length : Int)
      have E0 := hide (fun (W : World) (hb : Below w.heap.size w W) => int_any z W hz)
      have E1 := hide (fun (W : World) (hb : Below w.heap.size w W) => bytes_any s W (by omega))
      have E2 := hide (fun (W : World) (hb : Below w.heap.size w W) => ints_any A1 n1 c1 xl W ((h1.below hb).more hb.size) hc1 (by omega) (by omega) hxl)
      have E3 := hide (fun (W : World) (hb : Below w.heap.size w W) => strings_any A2 n2 c2 xs W ((h2.below hb).more hb.size) hc2 (by omega) (by omega))
      have E4 := hide (fun (W : World) (hb : Below w.heap.size w W) => digests_any A3 n3 c3 xd W ((h3.below hb).more hb.size) hc3 (by omega) hxd hn3)
      have F0 := hide (fun (W : World) (hb : Below w.heap.size w W) => refInt_any z W hz)
      have F1 := hide (fun (W : World) (hb : Below w.heap.size w W) => refBytes_any s W (by omega))
      have F2 := hide (fun (W : World) (hb : Below w.heap.size w W) => refInts_any A1 n1 c1 xl W ((h1.below hb).more hb.size) (by omega) (by omega) hxl)
      have F3 := hide (fun (W : World) (hb : Below w.heap.size w W) => refStrings_any A2 n2 c2 xs W ((h2.below hb).more hb.size) (by omega) (by omega))
      have F4 := hide (fun (W : World) (hb : Below w.heap.size w W) => refDigests_any A3 n3 c3 xd W ((h3.below hb).more hb.size) (by omega) hxd hn3)
      rw [← List.length_append] at E1 E2 E3
      rw [← hfl] at E4
      rw [← List.length_append] at E4
      have q0 : (Wr.enc z).length ≤ 40000 := by omega
      have q1 : (Wr.enc (s.length : Int) ++ s).length ≤ 40000 := by rw [List.length_append]; omega
      have q2 : (Wr.enc (xl.length : Int) ++ Wr.encL Wr.enc xl).length ≤ 40000 := by rw [List.length_append]; omega
      have q3 : (Wr.enc (xs.length : Int) ++ Wr.encL Wr.encB xs).length ≤ 40000 := by rw [List.length_append]; omega
      have q4 : (Wr.enc (xd.length : Int) ++ xd.flatten).length ≤ 40000 := by rw [List.length_append]; omega
      generalize Wr.enc (s.length : Int) ++ s = y1 at *
      generalize Wr.enc (xl.length : Int) ++ Wr.encL Wr.enc xl = y2 at *
      generalize Wr.enc (xs.length : Int) ++ Wr.encL Wr.encB xs = y3 at *
      generalize Wr.enc (xd.length : Int) ++ xd.flatten = y4 at *
      generalize Wr.enc z = y0 at *
      have X0 := hide (BV_get' y0)
      generalize hL0 : y0.length = L0 at *
      clear hL0
      have X1 := hide (BV_get' y1)
      generalize hL1 : y1.length = L1 at *
      clear hL1
      have X2 := hide (BV_get' y2)
      generalize hL2 : y2.length = L2 at *
      clear hL2
      have X3 := hide (BV_get' y3)
      generalize hL3 : y3.length = L3 at *
      clear hL3
      have X4 := hide (BV_get' y4)
      generalize hL4 : y4.length = L4 at *
      clear hL4
      generalize S s = str at *
      clear hl1 hl2 hn3 h1 h2 h3 hxl hxd hbig hfew hsz hs hb1 hb2 hb3 hbi hbs hfl e0 e1 e2 e3 e4 hz
      go_enter Try.func3, Try.ntmps3
      go_wp2_with (first
        | (go_at_call 11; refine (unhide HF w (Below.refl _ _)).mono ?_; rintro e w1 ⟨rfl, rfl⟩)
        | (go_at_call 12; refine (sanity_any _).mono ?_; rintro e ws ⟨rfl, hbs⟩; have P0 := hide hbs; clear hbs)
        | (go_at_call 14; refine (unhide E0 ws P0.out).mono ?_; rintro e wa0 ⟨va0, rfl, howna, hba⟩; obtain ⟨Aa0, ca0, rfl, hca0, _⟩ := own_slice howna; have RA0 := hide (Reads.of_own howna); have PA0 := hide (below_then P0.out hba); clear howna hba)
        | (go_at_call 15; refine (unhide F0 wa0 PA0.out).mono ?_; rintro e wb0 ⟨vb0, rfl, hownb, hbb⟩; obtain ⟨Ab0, cb0, rfl, hcb0, _⟩ := own_slice hownb; have RB0 := hide (Reads.of_own hownb); have RA0' := hide ((RA0.out.below hbb).more hbb.size); have PB0 := hide (below_then PA0.out hbb); clear hownb hbb)
        | (go_at_call_of 13 Aa0; refine (same_eq Aa0 Ab0 L0 ca0 cb0 (BV y0) _ wb0 X0.out RA0'.out RB0.out (by unfold maxLen; omega)).mono ?_; rintro e w9 ⟨rfl, k0, hk9⟩; subst hk9)
        | (go_at_call 16; refine (unhide E1 (wb0.drewN k0) (below_drewN PB0.out k0)).mono ?_; rintro e wa1 ⟨va1, rfl, howna, hba⟩; obtain ⟨Aa1, ca1, rfl, hca1, _⟩ := own_slice howna; have RA1 := hide (Reads.of_own howna); have PA1 := hide (below_then (below_drewN PB0.out k0) hba); clear howna hba)
        | (go_at_call 17; refine (unhide F1 wa1 PA1.out).mono ?_; rintro e wb1 ⟨vb1, rfl, hownb, hbb⟩; obtain ⟨Ab1, cb1, rfl, hcb1, _⟩ := own_slice hownb; have RB1 := hide (Reads.of_own hownb); have RA1' := hide ((RA1.out.below hbb).more hbb.size); have PB1 := hide (below_then PA1.out hbb); clear hownb hbb)
        | (go_at_call_of 13 Aa1; refine (same_eq Aa1 Ab1 L1 ca1 cb1 (BV y1) _ wb1 X1.out RA1'.out RB1.out (by unfold maxLen; omega)).mono ?_; rintro e w9 ⟨rfl, k1, hk9⟩; subst hk9)
        | (go_at_call 18; refine (unhide E2 (wb1.drewN k1) (below_drewN PB1.out k1)).mono ?_; rintro e wa2 ⟨va2, rfl, howna, hba⟩; obtain ⟨Aa2, ca2, rfl, hca2, _⟩ := own_slice howna; have RA2 := hide (Reads.of_own howna); have PA2 := hide (below_then (below_drewN PB1.out k1) hba); clear howna hba)
        | (go_at_call 19; refine (unhide F2 wa2 PA2.out).mono ?_; rintro e wb2 ⟨vb2, rfl, hownb, hbb⟩; obtain ⟨Ab2, cb2, rfl, hcb2, _⟩ := own_slice hownb; have RB2 := hide (Reads.of_own hownb); have RA2' := hide ((RA2.out.below hbb).more hbb.size); have PB2 := hide (below_then PA2.out hbb); clear hownb hbb)
        | (go_at_call_of 13 Aa2; refine (same_eq Aa2 Ab2 L2 ca2 cb2 (BV y2) _ wb2 X2.out RA2'.out RB2.out (by unfold maxLen; omega)).mono ?_; rintro e w9 ⟨rfl, k2, hk9⟩; subst hk9)
        | (go_at_call 20; refine (unhide E3 (wb2.drewN k2) (below_drewN PB2.out k2)).mono ?_; rintro e wa3 ⟨va3, rfl, howna, hba⟩; obtain ⟨Aa3, ca3, rfl, hca3, _⟩ := own_slice howna; have RA3 := hide (Reads.of_own howna); have PA3 := hide (below_then (below_drewN PB2.out k2) hba); clear howna hba)
        | (go_at_call 21; refine (unhide F3 wa3 PA3.out).mono ?_; rintro e wb3 ⟨vb3, rfl, hownb, hbb⟩; obtain ⟨Ab3, cb3, rfl, hcb3, _⟩ := own_slice hownb; have RB3 := hide (Reads.of_own hownb); have RA3' := hide ((RA3.out.below hbb).more hbb.size); have PB3 := hide (below_then PA3.out hbb); clear hownb hbb)
        | (go_at_call_of 13 Aa3; refine (same_eq Aa3 Ab3 L3 ca3 cb3 (BV y3) _ wb3 X3.out RA3'.out RB3.out (by unfold maxLen; omega)).mono ?_; rintro e w9 ⟨rfl, k3, hk9⟩; subst hk9)
        | (go_at_call 22; refine (unhide E4 (wb3.drewN k3) (below_drewN PB3.out k3)).mono ?_; rintro e wa4 ⟨va4, rfl, howna, hba⟩; obtain ⟨Aa4, ca4, rfl, hca4, _⟩ := own_slice howna; have RA4 := hide (Reads.of_own howna); have PA4 := hide (below_then (below_drewN PB3.out k3) hba); clear howna hba)
        | (go_at_call 23; refine (unhide F4 wa4 PA4.out).mono ?_; rintro e wb4 ⟨vb4, rfl, hownb, hbb⟩; obtain ⟨Ab4, cb4, rfl, hcb4, _⟩ := own_slice hownb; have RB4 := hide (Reads.of_own hownb); have RA4' := hide ((RA4.out.below hbb).more hbb.size); have PB4 := hide (below_then PA4.out hbb); clear hownb hbb)
        | (go_at_call_of 13 Aa4; refine (same_eq Aa4 Ab4 L4 ca4 cb4 (BV y4) _ wb4 X4.out RA4'.out RB4.out (by unfold maxLen; omega)).mono ?_; rintro e w9 ⟨rfl, k4, hk9⟩; subst hk9))
      go_ret
      exact ⟨rfl, below_drewN PB4.out _⟩
    · rw [decide_eq_false hfew] at HF
      generalize S s = str at *
      clear hl1 hl2 hn3 h1 h2 h3 hxl hxd hbig hfew hsz hs hb1 hb2 hb3 hz
      go_enter Try.func3, Try.ntmps3
      go_wp2_with (first
        | (go_at_call 11; refine (unhide HF w (Below.refl _ _)).mono ?_; rintro e w1 ⟨rfl, rfl⟩)
        | (go_at_call 12; refine (sanity_any _).mono ?_; rintro e w12 ⟨rfl, hb12⟩; have B12' := hide hb12; clear hb12))
      go_ret
      exact ⟨rfl, B12'.out⟩
  · have hsum : 2000 < ((S s).size : Int) + (n1 : Int) + (n3 : Int) := by rw [hsz]; omega
    have hss : (S s).size ≤ 1048576 := by rw [hsz]; omega
    generalize S s = str at *
    clear hl1 hl2 hn3 h1 h2 h3 hxl hxd hbig hsz hs hb2 HF hz
    go_enter Try.func3, Try.ntmps3
    go_wp2_with (first
      | (go_at_call 12; refine (sanity_any _).mono ?_; rintro e w12 ⟨rfl, hb12⟩; have B12' := hide hb12; clear hb12))
    go_ret
    exact ⟨rfl, B12'.out⟩
end Go.Proofs.Ytbkpnfejhaedhaa
