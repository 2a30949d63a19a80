/-
  WireConcat answers true at every string and list of integers: the walk.
-/
import Derived.Test.YtbkpnfejhaedhaaLaw
import Derived.Test.YtbkpnfejhaedhaaPure2
namespace Go.Proofs.Ytbkpnfejhaedhaa
open Go.RowKit
set_option linter.unusedVariables false
set_option linter.unusedSimpArgs false

set_option maxHeartbeats 1000000 in
set_option maxRecDepth 100000 in
theorem concat_walk (s : List UInt8) (A : Option Addr) (n c : Nat) (xs : List Int) (w : World) (hs : s.length ≤ 140737488351232) (hr : Reads w w.heap.size 1 A n (xs.map (Value.int .i64))) (hn : n ≤ 140737488351232) (hnc : n ≤ c) (hx : ∀ x ∈ xs, Wr.inI x) :
    Calls Try.prog 10 #[.string (S s), .slice A n c] w fun e w' => e = .returned (.bool true) ∧ Below w.heap.size w w' := by
  have hnx : n = xs.length := by have := hr.1; simpa using this.symm
  have hsz : (S s).size = s.length := rfl
  by_cases hbig : s.length + n ≤ 2000
  · have hbound : (Wr.encL Wr.enc xs).length ≤ 18000 := by
      have : ∀ ys : List Int, (Wr.encL Wr.enc ys).length ≤ 9 * ys.length := fun ys => by
        induction ys with
        | nil => simp [Wr.encL_nil]
        | cons y ys ih => rw [Wr.encL_cons, List.length_append, List.length_cons]; have := Wr.enc_le y; omega
      have := this xs
      omega
    have hLb : (Wr.enc (s.length : Int) ++ s).length ≤ 2009 := by rw [List.length_append]; have := Wr.enc_le (s.length : Int); omega
    have hLi : (Wr.enc (xs.length : Int) ++ Wr.encL Wr.enc xs).length ≤ 18009 := by rw [List.length_append]; have := Wr.enc_le (xs.length : Int); omega
    have hLb1 : 1 ≤ (Wr.enc (s.length : Int) ++ s).length := by rw [List.length_append]; have := Wr.enc_pos (s.length : Int); omega
    have hLi1 : 1 ≤ (Wr.enc (xs.length : Int) ++ Wr.encL Wr.enc xs).length := by rw [List.length_append]; have := Wr.enc_pos (xs.length : Int); omega
    have HBY := hide (fun W => bytes_any s W (by omega))
    have HIN := hide (fun (W : World) (hb : Below w.heap.size w W) => ints_any A n c xs W ((hr.below hb).more hb.size) hnc (by omega) (by omega) hx)
    have HGB := hide (fun (ad : Addr) (m cap : Nat) (W : World) (hm : m = (Wr.enc (s.length : Int) ++ s).length + (Wr.enc (xs.length : Int) ++ Wr.encL Wr.enc xs).length) (h : Reads W W.heap.size 1 (some ad) m (BV ((Wr.enc (s.length : Int) ++ s) ++ (Wr.enc (xs.length : Int) ++ Wr.encL Wr.enc xs)))) (hc : m ≤ cap) =>
      getBytes_any (some ad) m cap _ W h (by unfold maxLen; omega) hc)
    have hdb := Wr.codecBytes.full s (Wr.enc (xs.length : Int) ++ Wr.encL Wr.enc xs) (by unfold Wr.okB; omega)
    rw [show Wr.encB s = Wr.enc (s.length : Int) ++ s from rfl] at hdb
    rw [hdb] at HGB
    have HGI := hide (fun (ad : Addr) (m cap : Nat) (W : World) (hm : m = (Wr.enc (xs.length : Int) ++ Wr.encL Wr.enc xs).length) (h : Reads W W.heap.size 1 (some ad) m (BV (Wr.enc (xs.length : Int) ++ Wr.encL Wr.enc xs))) (hc : m ≤ cap) =>
      getInts_any (some ad) m cap _ W h (by omega) hc)
    have hdi := Wr.list_full (size := 1) Wr.codecInt.full Wr.codecInt.least (by omega) xs hx (by omega) []
    rw [List.append_nil, ← List.length_append] at hdi
    rw [hdi] at HGI
    rw [← List.length_append] at HBY HIN
    obtain ⟨i0, hi, hz0, hz1, hz2⟩ := info_parts byteInfo
    have HI := hide hi
    have HZ0 := hide hz0
    have HZ1 := hide hz1
    have HZ2 := hide hz2
    clear hi hz0 hz1 hz2 hdb hdi hbound
    have hlen : s.length + n ≤ 2000 := hbig
    have hsmall : ((S s).size : Int) + (n : Int) ≤ 2000 := by rw [hsz]; omega
    have hs1 : (S s).size ≤ 2000 := by omega
    have hxk : ∀ k, (h : k < (xs.map (Value.int .i64)).length) → (xs.map (Value.int .i64))[k] = .int .i64 (xs.getD k 0) := fun k h => by
      have hk : k < xs.length := by simpa using h
      simp [List.getD, hk]
    have HX := hide hxk
    clear hxk
    generalize S s = str at *
    generalize Wr.enc (s.length : Int) ++ s = eB at *
    generalize Wr.enc (xs.length : Int) ++ Wr.encL Wr.enc xs = eI at *
    generalize hlB : eB.length = LB at *
    generalize hlI : eI.length = LI at *
    have HR := hide hr
    clear hr hbig hsz
    go_enter Try.func10, Try.ntmps10
    have HA := hide (BV_append eB eI)
    have HNX := hide hnx
    have hcmp : decide ((LB : Int) + (LI : Int) < (LB : Int)) = false := by rw [decide_eq_false_iff_not]; omega
    have hneg : decide ((LB : Int) < 0) = false := by rw [decide_eq_false_iff_not]; omega
    clear hnx
    go_wp2_with (first
      | (go_at_call 16; refine (unhide HBY _).mono ?_; rintro e w1 ⟨v1, rfl, hown1, hb1⟩; obtain ⟨g1, cap1, rfl, hcap1, hr1⟩ := own_form hown1 hLb1; have HR1 := hide hr1; have HO0 := hide (own_below (own_empty w) hb1); have HB1 := hide (below_then (below_alloc w _) hb1); clear hown1 hr1 hb1)
      | (at_builtin; refine wpList_append_any _ rfl (.tmp 19) (.tmp 21) 28 rfl w.heap.size 5 i0 (.int .u8 0) 1 1 Try.underlying28 HI.out HZ0.out HZ1.out HZ2.out rfl (by omega) (.slice (some ⟨w.heap.size, 0, none⟩) 0 0) 0 [] rfl HO0.out w1.heap.size (some ⟨g1, 0, none⟩) LB cap1 (BV eB) rfl HR1.out (BV_one eB) (by unfold maxLen; omega) (by omega) HB1.out.size ?_; intro v2 w2 hown2 hgrow2 hat2; have HB2 := hide (HB1.out.trans (below_grown hgrow2 HO0.out HB1.out.size)); rw [Nat.zero_add, List.nil_append] at hown2; have HO2 := hide hown2; clear hown2 hgrow2 hat2)
      | (go_at_call 18; refine (unhide HIN w2 HB2.out).mono ?_; rintro e w3 ⟨v3, rfl, hown3, hb3⟩; obtain ⟨g3, cap3, rfl, hcap3, hr3⟩ := own_form hown3 hLi1; have HR3 := hide hr3; have HO3 := hide (own_below HO2.out hb3); have HB3 := hide (below_then HB2.out hb3); clear hown3 hr3 hb3)
      | (at_builtin; refine wpList_append_any _ rfl (.tmp 22) (.tmp 24) 28 rfl w.heap.size 5 i0 (.int .u8 0) 1 1 Try.underlying28 HI.out HZ0.out HZ1.out HZ2.out rfl (by omega) v2 LB (BV eB) rfl HO3.out w3.heap.size (some ⟨g3, 0, none⟩) LI cap3 (BV eI) rfl HR3.out (BV_one eI) (by unfold maxLen; omega) (by omega) HB3.out.size ?_; intro v4 w4 hown4 hgrow4 hat4; have HB4 := hide (HB3.out.trans (below_grown hgrow4 HO3.out HB3.out.size)); rw [← HA.out] at hown4; obtain ⟨g4, cap4, rfl, hcap4, hr4⟩ := own_form hown4 (by omega); have HR4 := hide hr4; clear hown4 hgrow4 hat4 hr4)
      | (go_at_call 26; refine (unhide HGB ⟨g4, 0, none⟩ (LB + LI) cap4 w4 rfl HR4.out hcap4).mono ?_; rintro e w5 ⟨rfl, rfl⟩)
      | (go_at_call 28; have hrest := reads_rest HR4.out LB (by omega); rw [Nat.add_sub_cancel_left, List.drop_left' hlB, show ((⟨g4, 0, none⟩ : Addr).add LB) = ⟨g4, LB, none⟩ by simp [Addr.add]; intro h; omega] at hrest; refine (unhide HGI ⟨g4, LB, none⟩ LI (cap4 - LB) w4 rfl hrest (by omega)).mono ?_; rintro e w6 ⟨v6, rfl, hown6, hb6⟩; rw [← HNX.out] at hown6; obtain ⟨A6, c6, rfl, hc6, _⟩ := own_slice hown6; have HR6 := hide (Reads.of_own hown6); have HB6 := hide (below_then HB4.out hb6); clear hown6 hb6 hrest)
      | (go_at_call 12; refine (sanity_any _).mono ?_; rintro e w7 ⟨rfl, hb7⟩; have HB7 := hide hb7; clear hb7)
      | (go_at_call 30; have hra := (HR6.out.below HB7.out).more HB7.out.size; have hrb := (HR.out.below (below_then HB6.out HB7.out)).more (below_then HB6.out HB7.out).size; refine (sameInts_eq A6 A n c6 c _ _ w7 HX.out hra hrb (by unfold maxLen; omega)).mono ?_; rintro e w8 ⟨rfl, k8, hk8⟩; subst hk8))
    go_ret
    exact ⟨rfl, below_drewN (below_then HB6.out HB7.out) _⟩
  · have hbig' : (2000 : Int) < ((S s).size : Int) + (n : Int) := by rw [hsz]; omega
    have hs' : (S s).size ≤ 140737488355328 := by rw [hsz]; omega
    have hn' : n ≤ 140737488355328 := by omega
    clear hs hn hsz hnx hr hx hbig
    generalize S s = str at *
    go_enter Try.func10, Try.ntmps10
    go_wp2_with (go_at_call 12; refine (sanity_any _).mono ?_; rintro e w4 ⟨rfl, hb4⟩; have HB4 := hide hb4; clear hb4)
    go_ret
    exact ⟨rfl, HB4.out⟩

end Go.Proofs.Ytbkpnfejhaedhaa
