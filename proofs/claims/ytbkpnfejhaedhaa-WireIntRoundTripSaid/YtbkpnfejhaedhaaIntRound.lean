/-
  WireIntRoundTrip answers true at every integer and tail: the walk.
-/
import Derived.Test.YtbkpnfejhaedhaaLaw
namespace Go.Proofs.Ytbkpnfejhaedhaa
open Go.RowKit
set_option linter.unusedVariables false
set_option linter.unusedSimpArgs false

set_option maxHeartbeats 1000000 in
set_option maxRecDepth 100000 in
theorem intRound_walk (z : Int) (A : Option Addr) (m c : Nat) (tail : List UInt8) (w : World) (hz : Wr.inI z) (hr : Reads w w.heap.size 1 A m (BV tail)) (hm : m ≤ maxLen) (hmc : m ≤ c) :
    Calls Try.prog 6 #[.int .i64 z, .slice A m c] w fun e w' => e = .returned (.bool true) ∧ Below w.heap.size w w' := by
  by_cases hbig : m ≤ 2000
  · have H1 := hide (fun W => int_any z W hz)
    have hdec := Wr.dec_enc hz tail
    have hL1 := Wr.enc_pos z
    have hL9 := Wr.enc_le z
    obtain ⟨i0, hi, hz0, hz1, hz2⟩ := info_parts byteInfo
    have HI := hide hi
    have HZ0 := hide hz0
    have HZ1 := hide hz1
    have HZ2 := hide hz2
    have HR := hide hr
    have HG := hide (fun (A' : Addr) (c' : Nat) (W : World) (h : Reads W W.heap.size 1 (some A') ((Wr.enc z).length + m) (BV (Wr.enc z ++ tail))) (hc : (Wr.enc z).length + m ≤ c') =>
      getInt_any (some A') ((Wr.enc z).length + m) c' (Wr.enc z ++ tail) W h (by unfold maxLen; omega) hc)
    rw [hdec] at HG
    clear hi hz0 hz1 hz2 hr hm hdec
    have HA := hide (BV_append (Wr.enc z) tail)
    generalize hen : Wr.enc z = en at *
    clear hen
    generalize hLn : en.length = L at *
    have hi1 : (1 : Int) ≤ (L : Int) := by omega
    have hi9 : (L : Int) ≤ 9 := by omega
    go_enter Try.func6, Try.ntmps6
    go_wp2_with (first
      | (go_at_call 14; refine (unhide H1 _).mono ?_; rintro e w1 ⟨v1, rfl, hown1, hb1⟩; obtain ⟨g, cap, rfl, hcap, hr1⟩ := own_form hown1 hL1; have HR1 := hide hr1; have HB1 := hide hb1; clear hown1 hr1 hb1)
      | (at_builtin; refine wpList_append_tight _ rfl (.tmp 21) (.tmp 22) 28 rfl 5 i0 (.int .u8 0) Try.underlying28 HI.out HZ0.out HZ1.out HZ2.out rfl w1.heap.size ⟨g, 0, none⟩ L (BV en) rfl HR1.out hL1 (Nat.le_refl _) w.heap.size A m c (BV tail) rfl (HR.out.below HB1.out) (BV_one tail) (by omega) ?_; intro A2 c2 w2 hr2 hc2 hb2; rw [← HA.out] at hr2; have HR2 := hide hr2; have HB2 := hide hb2; clear hr2 hb2)
      | (go_at_call 24; refine (unhide HG A2 c2 w2 HR2.out hc2).mono ?_; rintro e w3 ⟨rfl, rfl⟩)
      | (go_at_call 12; refine (sanity_any _).mono ?_; rintro e w4 ⟨rfl, hb4⟩; have HB4 := hide hb4; clear hb4))
    go_ret
    exact ⟨rfl, below_then HB1.out (below_then HB2.out HB4.out)⟩
  · go_enter Try.func6, Try.ntmps6
    go_wp2_with (go_at_call 12; refine (sanity_any _).mono ?_; rintro e w4 ⟨rfl, hb4⟩; have HB4 := hide hb4; clear hb4)
    go_ret
    exact ⟨rfl, HB4.out⟩

end Go.Proofs.Ytbkpnfejhaedhaa
