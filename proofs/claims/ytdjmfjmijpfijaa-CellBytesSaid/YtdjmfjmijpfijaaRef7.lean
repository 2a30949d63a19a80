/-
  The reference's count, GetBytes, GetInts, GetStrings by their contracts: they answer what the plain decodings answer.
-/
import Derived.Test.YtdjmfjmijpfijaaRef6
namespace Go.Proofs.Ytdjmfjmijpfijaa
open Go.RowKit
set_option linter.unusedVariables false
set_option linter.unusedSimpArgs false
set_option maxHeartbeats 400000 in
set_option maxRecDepth 100000 in
theorem refCount_any (A : Option Addr) (n c : Nat) (l : List UInt8) (size : Nat) (w : World) (hr : Reads w w.heap.size 1 A n (BV l)) (hm : n ≤ 17592186044416) (hnc : n ≤ c) (hs1 : 1 ≤ size) (hs2 : size ≤ 16) :
    Calls Try.prog 34 #[.slice A n c, .int .i64 (size : Int)] w fun e w' => e = .returned (.tuple #[.int .i64 (Wr.decLen size l).1, .int .i64 (Wr.decLen size l).2.1, .int .i64 (Wr.decLen size l).2.2]) ∧ Below w.heap.size w w' := by
  have hn : n = l.length := by have := hr.1; simp [BV] at this; omega
  have H := refGetInt_any A n c l w hr (by unfold maxLen; omega) hnc
  have hu : (Wr.decI l).2.2 = 0 → (Wr.decI l).2.1 ≤ n ∧ Wr.inI (Wr.decI l).1 := fun h0 => by
    have := Wr.enc_dec (l := l) (n := (Wr.decI l).1) (u := (Wr.decI l).2.1) (by rw [← h0])
    exact ⟨by omega, this.1⟩
  have he := Wr.decI_errs l
  have hdef : Wr.decLen size l = if (Wr.decI l).2.2 ≠ 0 then (0, 0, (Wr.decI l).2.2) else if (Wr.decI l).1 < 0 then (0, 0, 2) else if ((n - (Wr.decI l).2.1 : Nat) : Int) / (size : Int) < (Wr.decI l).1 then (0, 0, 3) else Wr.decI l := by rw [hn]; rfl
  generalize hL : Wr.decLen size l = L at *
  generalize Wr.decI l = d at *
  obtain ⟨z, u, er⟩ := d
  simp only at H hu he hdef
  clear hr hn hL
  have H := hide H
  by_cases h1 : er = 0
  · subst h1
    obtain ⟨hu1, hu2⟩ := hu rfl
    unfold Wr.inI at hu2
    rw [if_neg (by simp)] at hdef
    clear hu he
    by_cases h2 : z < 0
    · rw [if_pos h2] at hdef
      subst hdef
      go_enter Try.func34, Try.ntmps34
      go_wp2_with (go_at_call 44; refine (unhide H).mono ?_; rintro e w1 ⟨rfl, hb1⟩; have HB := hide hb1; clear hb1)
      go_ret3
      exact ⟨rfl, HB.out⟩
    · rw [if_neg h2] at hdef
      have hq : ((n : Int) - (u : Int)) = ((n - u : Nat) : Int) := by omega
      have hiff : ((n - u : Nat) : Int) / (size : Int) < z ↔ ((n - u : Nat) : Int) < z * (size : Int) := by
        rw [← Int.not_le, ← Int.not_le, Int.le_ediv_iff_mul_le (by omega)]
      by_cases h3 : (n : Int) < z
      · have hge : z * 1 ≤ z * (size : Int) := Int.mul_le_mul_of_nonneg_left (by omega) (by omega)
        rw [if_pos (hiff.2 (by omega))] at hdef
        subst hdef
        clear hiff hq hge
        go_enter Try.func34, Try.ntmps34
        go_wp2_with (go_at_call 44; refine (unhide H).mono ?_; rintro e w1 ⟨rfl, hb1⟩; have HB := hide hb1; clear hb1)
        go_ret3
        exact ⟨rfl, HB.out⟩
      · have hp1 : 0 ≤ z * (size : Int) := Int.mul_nonneg (by omega) (by omega)
        have hp2 : z * (size : Int) ≤ 17592186044416 * 16 := by
          have a1 : z * (size : Int) ≤ 17592186044416 * (size : Int) := Int.mul_le_mul_of_nonneg_right (by omega) (by omega)
          omega
        have hcmp : decide ((n : Int) < z) = false := by rw [decide_eq_false_iff_not]; exact h3
        by_cases h4 : ((n - u : Nat) : Int) < z * (size : Int)
        · rw [if_pos (hiff.2 h4)] at hdef
          subst hdef
          have h5 : (n : Int) - (u : Int) < z * (size : Int) := by omega
          clear hiff hq h4
          generalize hpp : z * (size : Int) = pr at *
          have HPP := hide hpp
          go_enter Try.func34, Try.ntmps34
          go_wp2_with (go_at_call 44; refine (unhide H).mono ?_; rintro e w1 ⟨rfl, hb1⟩; have HB := hide hb1; clear hb1)
          go_ret3
          exact ⟨rfl, HB.out⟩
        · rw [if_neg (fun x => h4 (hiff.1 x))] at hdef
          subst hdef
          have h5 : ¬ (n : Int) - (u : Int) < z * (size : Int) := by omega
          clear hiff hq h4
          generalize hpp : z * (size : Int) = pr at *
          have HPP := hide hpp
          go_enter Try.func34, Try.ntmps34
          go_wp2_with (go_at_call 44; refine (unhide H).mono ?_; rintro e w1 ⟨rfl, hb1⟩; have HB := hide hb1; clear hb1)
          go_ret3
          exact ⟨rfl, HB.out⟩
  · rw [if_pos (by simpa using h1)] at hdef
    subst hdef
    have hb' : (er != 0) = true := by rw [bne_iff_ne]; exact h1
    clear hu he
    go_enter Try.func34, Try.ntmps34
    go_wp2_with (go_at_call 44; refine (unhide H).mono ?_; rintro e w1 ⟨rfl, hb1⟩; have HB := hide hb1; clear hb1)
    go_ret3
    exact ⟨rfl, HB.out⟩

set_option maxHeartbeats 400000 in
set_option maxRecDepth 100000 in
theorem refGetBytes_err (A : Option Addr) (n c : Nat) (l : List UInt8) (w : World) (hr : Reads w w.heap.size 1 A n (BV l)) (hm : n ≤ 17592186044416) (hnc : n ≤ c) (he : (Wr.decLen 1 l).2.2 ≠ 0) :
    Calls Try.prog 35 #[.slice A n c] w fun e w' => e = .returned (.tuple #[.string (S []), .int .i64 0, .int .i64 (Wr.decLen 1 l).2.2]) ∧ Below w.heap.size w w' := by
  have H := hide (refCount_any A n c l 1 w hr hm hnc (by omega) (by omega))
  generalize Wr.decLen 1 l = d at *
  obtain ⟨z, u, er⟩ := d
  simp only at he H ⊢
  have hb' : (er != 0) = true := by rw [bne_iff_ne]; exact he
  clear hr he
  rw [S_nil]
  go_enter Try.func35, Try.ntmps35
  go_wp2_with (go_at_call 34; refine (unhide H).mono ?_; rintro e w1 ⟨rfl, hb1⟩; have HB := hide hb1; clear hb1)
  go_ret3
  exact ⟨rfl, HB.out⟩

set_option maxHeartbeats 400000 in
set_option maxRecDepth 100000 in
theorem refGetBytes_ok (ad : Addr) (n c : Nat) (l : List UInt8) (w : World) (hr : Reads w w.heap.size 1 (some ad) n (BV l)) (hm : n ≤ 17592186044416) (hnc : n ≤ c) (z u : Nat) (hd : Wr.decLen 1 l = ((z : Int), u, 0)) (hu : 1 ≤ u) (hz : u + z ≤ n) :
    Calls Try.prog 35 #[.slice (some ad) n c] w fun e w' => e = .returned (.tuple #[.string (S ((l.drop u).take z)), .int .i64 ((u + z : Nat) : Int), .int .i64 0]) ∧ Below w.heap.size w w' := by
  have H := refCount_any (some ad) n c l 1 w hr hm hnc (by omega) (by omega)
  rw [hd] at H
  have H := hide H
  clear hd
  have hn : n = l.length := by have := hr.1; simp [BV] at this; omega
  by_cases hcu : c = u
  · have hz0 : z = 0 := by omega
    subst hz0
    have hc1 := hide (fun (W : World) c' => run_conv_reads (P := Try.prog) (reads_zero W W.heap.size (some ad)) 23 9 5 c' Try.underlying23 Try.underlying5 Try.underlying9)
    have hun : u = n := by omega
    clear hr hn
    rw [List.take_zero]
    generalize S [] = s at *
    subst hcu
    subst hun
    go_enter Try.func35, Try.ntmps35
    go_wp2_with (go_at_call 34; refine (unhide H).mono ?_; rintro e w1 ⟨rfl, hb1⟩; have HB := hide hb1; have hcv := unhide hc1 w1; clear hb1)
    go_ret3
    exact ⟨by simp, HB.out⟩
  · have hconv := hide (fun (W : World) (hW : Below w.heap.size w W) c' => run_conv_reads (P := Try.prog) ((reads_sub hr u z hz).below hW) 23 9 5 c' Try.underlying23 Try.underlying5 Try.underlying9)
    clear hr hn
    generalize S ((l.drop u).take z) = s at *
    go_enter Try.func35, Try.ntmps35
    go_wp2_with (go_at_call 34; refine (unhide H).mono ?_; rintro e w1 ⟨rfl, hb1⟩; have HB := hide hb1; have hcv := unhide hconv w1 hb1; clear hb1)
    go_ret3
    exact ⟨by simp, HB.out⟩

/-- the reference's GetBytes, for every slice of bytes -/
theorem refGetBytes_any (A : Option Addr) (n c : Nat) (l : List UInt8) (w : World) (hr : Reads w w.heap.size 1 A n (BV l)) (hm : n ≤ 17592186044416) (hnc : n ≤ c) :
    Calls Try.prog 35 #[.slice A n c] w fun e w' => e = .returned (.tuple #[.string (S (Wr.decB l).1), .int .i64 (Wr.decB l).2.1, .int .i64 (Wr.decB l).2.2]) ∧ Below w.heap.size w w' := by
  have hn : n = l.length := by have := hr.1; simp [BV] at this; omega
  unfold Wr.decB
  by_cases he : (Wr.decLen 1 l).2.2 = 0
  · obtain ⟨_, _, h1, h2, h3⟩ := Wr.decLen_ok (by omega) he
    rw [if_neg (by simpa using he)]
    obtain ⟨ad, rfl, _, _⟩ := hr.2 (by omega)
    exact refGetBytes_ok ad n c l w hr hm hnc (Wr.decLen 1 l).1.toNat (Wr.decLen 1 l).2.1 (by rw [Int.toNat_of_nonneg h1, ← he]) h2 (by omega)
  · rw [if_pos (by simpa using he)]
    exact refGetBytes_err A n c l w hr hm hnc he

/-- what stands while the reference decodes a list -/
structure RefMidInt (w : World) (n z : Nat) (l : List UInt8) (R : List (Int) × Nat × Int) (k us : Nat) (vs : List (Int)) (v : Value) (wr : World) : Prop where
  len : vs.length = k
  le : us ≤ n
  rest : Wr.comb vs us (Wr.decLoop Wr.decI (z - k) (l.drop us)) = R
  own : wr.ownsRow w.heap.size 3 1 v k (vs.map (Value.int .i64))
  old : Below w.heap.size w wr

set_option maxHeartbeats 400000 in
set_option maxRecDepth 100000 in
theorem refGetStrings_err (A : Option Addr) (n c : Nat) (l : List UInt8) (w : World) (hr : Reads w w.heap.size 1 A n (BV l)) (hm : n ≤ 17592186044416) (hnc : n ≤ c) (he : (Wr.decLen 1 l).2.2 ≠ 0) :
    Calls Try.prog 20 #[.slice A n c] w fun e w' => e = .returned (.tuple #[.slice none 0 0, .int .i64 0, .int .i64 (Wr.decLen 1 l).2.2]) ∧ Below w.heap.size w w' := by
  have H := hide (refCount_any A n c l 1 w hr hm hnc (by omega) (by omega))
  generalize Wr.decLen 1 l = d at *
  obtain ⟨z, u, er⟩ := d
  simp only at he H ⊢
  have hb' : (er != 0) = true := by rw [bne_iff_ne]; exact he
  clear hr he
  go_enter Try.func20, Try.ntmps20
  go_wp2_with (go_at_call 34; refine (unhide H).mono ?_; rintro e w1 ⟨rfl, hb1⟩; have HB := hide hb1; clear hb1)
  go_ret3
  exact ⟨rfl, HB.out⟩

/-- what stands while the reference decodes a list -/
structure RefMidStr (w : World) (n z : Nat) (l : List UInt8) (R : List (List UInt8) × Nat × Int) (k us : Nat) (vs : List (List UInt8)) (v : Value) (wr : World) : Prop where
  len : vs.length = k
  le : us ≤ n
  rest : Wr.comb vs us (Wr.decLoop Wr.decB (z - k) (l.drop us)) = R
  own : wr.ownsRow w.heap.size 9 1 v k (vs.map VS)
  old : Below w.heap.size w wr

set_option maxHeartbeats 1000000 in
set_option maxRecDepth 100000 in
theorem refGetStrings_ok (ad : Addr) (n c : Nat) (l : List UInt8) (w : World) (hr : Reads w w.heap.size 1 (some ad) n (BV l)) (hm : n ≤ 1048576) (hnc : n ≤ c) (z u : Nat) (hd : Wr.decLen 1 l = ((z : Int), u, 0)) (hz : u + z ≤ n)
    (R : List (List UInt8) × Nat × Int) (hR : Wr.comb [] u (Wr.decLoop Wr.decB z (l.drop u)) = R) :
    Calls Try.prog 20 #[.slice (some ad) n c] w fun e w' =>
      ∃ v, e = .returned (.tuple #[v, .int .i64 R.2.1, .int .i64 R.2.2]) ∧ w'.ownsRow w.heap.size 9 1 v R.1.length (R.1.map VS) ∧ Below w.heap.size w w' := by
  have hn : n = l.length := by have := hr.1; simp [BV] at this; omega
  have H := refCount_any (some ad) n c l 1 w hr (by omega) hnc (by omega) (by omega)
  rw [hd] at H
  have H := hide H
  have HN := hide hn
  have HR := hide hr
  have HE := hide hR
  clear hr hn hd hR
  obtain ⟨i0, hi, hz0, hz1, hz2⟩ := info_parts StrInfo
  have HI := hide hi
  have HZ0 := hide hz0
  have HZ1 := hide hz1
  have HZ2 := hide hz2
  clear hi hz0 hz1 hz2
  go_enter Try.func20, Try.ntmps20
  go_wp2_with (go_at_call 34; refine (unhide H).mono ?_; rintro e w1 ⟨rfl, hb1⟩; have HB1 := hide hb1; clear hb1)
  go_loopw [6, 8, 9] (fun a v i wr => ∃ (k us : Nat) (vs : List (List UInt8)), k ≤ z ∧ i = .int .i64 (k : Int) ∧ a = .int .i64 (us : Int) ∧ RefMidStr w n z l R k us vs v wr) (fun _ _ i _ => z - (intOf i).toNat)
  case atStart => exact ⟨0, u, [], Nat.zero_le _, rfl, rfl, ⟨rfl, by omega, HE.out, World.ownsRow_nil _ _ _ _, HB1.out⟩⟩
  case round =>
    obtain ⟨k, us, vs, hk, rfl, rfl, hmid⟩ := hrel
    obtain ⟨wd, rfl⟩ : ∃ wd, wd = wr := ⟨wr, rfl⟩
    by_cases hlt : k < z
    · have hrw : Reads wd wd.heap.size 1 (some ad) n (BV l) := (HR.out.below hmid.old).more hmid.old.size
      have husl := hmid.le
      have hcut := reads_rest hrw us husl
      have hend := Wr.comb_err Wr.decB vs us (z - k - 1) (l.drop us)
      have hok := Wr.comb_ok Wr.decB vs us (z - k - 1) (l.drop us)
      have hrest := hmid.rest
      rw [show z - k = z - k - 1 + 1 by omega] at hrest
      rw [hrest] at hend hok
      have hused := Wr.decB_used (l.drop us)
      rw [List.length_drop, ← HN.out] at hused
      rw [List.drop_drop] at hok
      have C : ∀ ad' c', Reads wd wd.heap.size 1 (some ad') (n - us) (BV (l.drop us)) → n - us ≤ c' → Calls Try.prog 35 #[.slice (some ad') (n - us) c'] wd _ := fun ad' c' h1 h2 => refGetBytes_any (some ad') (n - us) c' (l.drop us) wd h1 (by omega) h2
      have hempty : c = us → (Wr.decB (l.drop us)).2.2 = 3 ∧ n = us := fun hcu => by
        have : l.drop us = [] := List.drop_eq_nil_of_le (by have := HN.out; omega)
        rw [this]
        exact ⟨rfl, by omega⟩
      generalize hdd : Wr.decB (l.drop us) = dd at *
      obtain ⟨v, uu, er⟩ := dd
      simp only at C hend hok hused hempty
      have C := hide C
      have HEND := hide hend
      have HOK := hide hok
      have HCUT := hide hcut
      have HO := hide hmid.own
      have HB := hide hmid.old
      have HLEN := hide hmid.len
      clear hend hok hrest hcut hrw hmid hdd
      by_cases hcu : c = us
      · obtain ⟨he3, hnu⟩ := hempty hcu
        subst he3
        subst hcu
        subst hnu
        have hHC := HCUT.out
        have hCC := fun h => C.out ad 0 h
        rw [Nat.sub_self] at hCC hHC
        have HCC := hide (hCC (by have := hHC.1; exact ⟨this, fun h => absurd h (by omega)⟩) (by omega))
        clear hCC hHC hempty
        go_wp2_with (go_at_call 35; refine (unhide HCC).mono ?_; rintro e w5 ⟨rfl, hb5⟩; have HB5 := hide hb5; clear hb5)
        go_ret3
        rw [HEND.out (by simp)]
        exact ⟨_, rfl, World.ownsRow_nil _ _ _ _, below_then HB.out HB5.out⟩
      · clear hempty
        have HCC := hide (C.out (ad.add us) (c - us) HCUT.out (by omega))
        by_cases h0 : er = 0
        · subst h0
          have HOKD := hide (HOK.out (by first | exact rfl | trivial))
          clear HOK
          go_wp2_with (first
            | (go_at_call 35; refine (unhide HCC).mono ?_; rintro e w5 ⟨rfl, hb5⟩; have HO5 := hide (own_below HO.out hb5); have HB5 := hide (below_then HB.out hb5); have hsz5 := HB5.out.size; clear hb5)
            | (at_builtin; refine wpList_append_any _ rfl (.tmp 38) (.tmp 40) 30 rfl w.heap.size 9 i0 (.string ByteArray.empty) 1 16 Try.underlying30 HI.out HZ0.out HZ1.out HZ2.out rfl (by omega) _ k _ rfl (HO5.out.alloc _) _ (some ⟨w5.heap.size, 0, none⟩) 1 1 [.string (S v)] rfl (reads_new w5 _ _) (by simp [Value.oneCell']) (by unfold maxLen; omega) (by omega) (by simp; omega) ?_; intro v6 w6 hown6 hgrow6 hat6; have HO6 := hide hown6; have HB6 := hide ((HB5.out.trans (below_alloc' w5 _ hsz5)).trans (below_grown hgrow6 (HO5.out.alloc _) (by simp; omega))); clear hown6 hgrow6 hat6))
          refine ⟨⟨k + 1, us + uu, vs ++ [v], by omega, by go_num, by go_num, ⟨by simp [HLEN.out], by omega, ?_, ?_, HB6.out⟩⟩, ?_⟩
          · rw [show z - (k + 1) = z - k - 1 by omega]; exact HOKD.out.symm
          · rw [List.map_append]; exact HO6.out
          · simp [intOf]; omega
        · have hb' : (er != 0) = true := by rw [bne_iff_ne]; exact h0
          have HEND := hide (HEND.out h0)
          clear h0
          go_wp2_with (go_at_call 35; refine (unhide HCC).mono ?_; rintro e w5 ⟨rfl, hb5⟩; have HB5 := hide hb5; clear hb5)
          go_ret3
          rw [HEND.out]
          exact ⟨_, rfl, World.ownsRow_nil _ _ _ _, below_then HB.out HB5.out⟩
    · obtain rfl : k = z := by omega
      have hR : R = (vs, us, 0) := by
        have := hmid.rest
        rw [Nat.sub_self, Wr.comb_end] at this
        exact this.symm
      have HR2 := hide hR
      have HM := hide hmid
      clear hR hmid
      go_wp2
      go_ret3
      rw [HR2.out]
      have hm := HM.out
      refine ⟨_, rfl, ?_, hm.old⟩
      show World.ownsRow _ _ _ _ _ vs.length _
      rw [hm.len]
      exact hm.own

/-- the reference's GetStrings, for every slice of bytes -/
theorem refGetStrings_any (A : Option Addr) (n c : Nat) (l : List UInt8) (w : World) (hr : Reads w w.heap.size 1 A n (BV l)) (hm : n ≤ 1048576) (hnc : n ≤ c) :
    Calls Try.prog 20 #[.slice A n c] w fun e w' =>
      ∃ v, e = .returned (.tuple #[v, .int .i64 (Wr.decList 1 Wr.decB l).2.1, .int .i64 (Wr.decList 1 Wr.decB l).2.2]) ∧ w'.ownsRow w.heap.size 9 1 v (Wr.decList 1 Wr.decB l).1.length ((Wr.decList 1 Wr.decB l).1.map VS) ∧ Below w.heap.size w w' := by
  have hn : n = l.length := by have := hr.1; simp [BV] at this; omega
  unfold Wr.decList
  by_cases he : (Wr.decLen 1 l).2.2 = 0
  · obtain ⟨_, _, h1, h2, h3⟩ := Wr.decLen_ok (by omega) he
    rw [if_neg (by simpa using he)]
    obtain ⟨ad, rfl, _, _⟩ := hr.2 (by omega)
    exact refGetStrings_ok ad n c l w hr hm hnc (Wr.decLen 1 l).1.toNat (Wr.decLen 1 l).2.1 (by rw [Int.toNat_of_nonneg h1, ← he]) (by omega) _ rfl
  · rw [if_pos (by simpa using he)]
    exact (refGetStrings_err A n c l w hr (by omega) hnc he).mono fun e w' h => ⟨_, h.1, World.ownsRow_nil _ _ _ _, h.2⟩

end Go.Proofs.Ytdjmfjmijpfijaa
