/-
  WireListRoundTrip answers true where its input is of bounded bulk: the walk.
-/
import Derived.Test.YtbkpnfejhaedhaaFew
import Derived.Test.YtbkpnfejhaedhaaIs
namespace Go.Proofs.Ytbkpnfejhaedhaa
open Go.RowKit
set_option linter.unusedVariables false
set_option linter.unusedSimpArgs false

theorem below_of_drewN' {w w' : World} {k : Nat} (h : Below (w.drewN k).heap.size (w.drewN k) w') : Below w.heap.size w w' := ⟨h.os, h.tape, h.output, h.size, h.block⟩
theorem encI_bound (ys : List Int) : (Wr.encL Wr.enc ys).length ≤ 9 * ys.length := by
  induction ys with
  | nil => simp [Wr.encL_nil]
  | cons y ys ih => rw [Wr.encL_cons, List.length_append, List.length_cons]; have := Wr.enc_le y; omega
theorem encB_bound (ys : List (List UInt8)) : (Wr.encL Wr.encB ys).length ≤ 9 * ys.length + lens ys := by
  induction ys with
  | nil => simp [Wr.encL_nil]
  | cons y ys ih => rw [Wr.encL_cons, List.length_append, List.length_cons, Wr.encB_len, lens_cons]; have := Wr.enc_le (y.length : Int); omega
theorem lens_mem (xs : List (List UInt8)) (x : List UInt8) (h : x ∈ xs) : x.length ≤ lens xs := by
  induction xs with
  | nil => cases h
  | cons y ys ih =>
    rw [lens_cons]
    rcases List.mem_cons.1 h with rfl | h
    · omega
    · have := ih h; omega
theorem map_int_get (xs : List Int) (k : Nat) (h : k < (xs.map (Value.int .i64)).length) : (xs.map (Value.int .i64))[k] = .int .i64 (xs.getD k 0) := by
  have hk : k < xs.length := by simpa using h
  simp [List.getD, hk]
theorem map_str_get (xs : List (List UInt8)) (k : Nat) (h : k < (xs.map VS).length) : (xs.map VS)[k] = .string (S (xs.getD k [])) := by
  have hk : k < xs.length := by simpa using h
  simp [List.getD, hk, VS]

set_option maxHeartbeats 2000000 in
set_option maxRecDepth 100000 in
theorem round_walk (s tail : List UInt8) (xl : List Int) (xs xd : List (List UInt8)) (A1 A2 A3 A4 : Option Addr) (n1 n2 n3 m c1 c2 c3 c4 : Nat) (w : World)
    (hs : s.length ≤ 1048576) (h1 : Reads w w.heap.size 1 A1 n1 (xl.map (Value.int .i64))) (h2 : Reads w w.heap.size 1 A2 n2 (xs.map VS)) (h3 : Reads w w.heap.size 16 A3 n3 (BV xd.flatten)) (h4 : Reads w w.heap.size 1 A4 m (BV tail))
    (hn3 : n3 = xd.length) (hc1 : n1 ≤ c1) (hc2 : n2 ≤ c2) (hc3 : n3 ≤ c3) (hc4 : m ≤ c4) (hb1 : n1 ≤ 1048576) (hb2 : n2 + lens xs ≤ 1048576) (hb3 : n3 ≤ 1048576) (hb4 : m ≤ 1048576) (hxl : ∀ x ∈ xl, Wr.inI x) (hxd : ∀ d ∈ xd, d.length = 16) :
    Calls Try.prog 8 #[.string (S s), .slice A1 n1 c1, .slice A2 n2 c2, .slice A3 n3 c3, .slice A4 m c4] w fun e w' => e = .returned (.bool true) ∧ Below w.heap.size w w' := by
  have hl1 : n1 = xl.length := by have := h1.1; simpa using this.symm
  have hl2 : n2 = xs.length := by have := h2.1; simpa using this.symm
  have hsz : (S s).size = s.length := rfl
  have HF := hide (fun W hb => few_any A2 n2 c2 xs W ((h2.below hb).more (Below.size hb)) (by omega))
  by_cases hbig : s.length + n1 + n3 + m ≤ 2000
  · by_cases hfew : n2 + lens xs ≤ 2000
    · rw [decide_eq_true hfew] at HF
      have hbi := encI_bound xl
      have hbs := encB_bound xs
      have hfl : xd.flatten.length = xd.length * 16 := flat_len xd hxd
      have e1 := Wr.enc_le (s.length : Int)
      have e2 := Wr.enc_le (xl.length : Int)
      have e3 := Wr.enc_le (xd.length : Int)
      have e4 := Wr.enc_le (xs.length : Int)
      have p1 := Wr.enc_pos (s.length : Int)
      have p2 := Wr.enc_pos (xl.length : Int)
      have p3 := Wr.enc_pos (xd.length : Int)
      have p4 := Wr.enc_pos (xs.length : Int)
      have HB := hide (fun W => bytes_any s W (by omega))
      have HL := hide (fun (W : World) (hb : Below w.heap.size w W) => ints_any A1 n1 c1 xl W ((h1.below hb).more hb.size) hc1 (by omega) (by omega) hxl)
      have HS := hide (fun (W : World) (hb : Below w.heap.size w W) => strings_any A2 n2 c2 xs W ((h2.below hb).more hb.size) hc2 (by omega) (by omega))
      have HD := hide (fun (W : World) (hb : Below w.heap.size w W) => digests_any A3 n3 c3 xd W ((h3.below hb).more hb.size) hc3 (by omega) hxd hn3)
      have hdb := Wr.codecBytes.full s tail (by unfold Wr.okB; omega)
      rw [show Wr.encB s = Wr.enc (s.length : Int) ++ s from rfl] at hdb
      have hdl := Wr.list_full (size := 1) Wr.codecInt.full Wr.codecInt.least (by omega) xl hxl (by omega) tail
      have hds := Wr.list_full (size := 1) Wr.codecBytes.full Wr.codecBytes.least (by omega) xs (fun x hx => by have := lens_mem xs x hx; unfold Wr.okB; omega) (by omega) tail
      have hdd := Wr.digests_full xd hxd (by omega) tail
      rw [← List.length_append] at hdl hds hdd HB HL HS
      rw [← hfl] at HD
      rw [← List.length_append] at HD
      have q1 : (Wr.enc (s.length : Int) ++ s).length ≤ 40000 ∧ 1 ≤ (Wr.enc (s.length : Int) ++ s).length := by rw [List.length_append]; omega
      have q2 : (Wr.enc (xl.length : Int) ++ Wr.encL Wr.enc xl).length ≤ 40000 ∧ 1 ≤ (Wr.enc (xl.length : Int) ++ Wr.encL Wr.enc xl).length := by rw [List.length_append]; omega
      have q3 : (Wr.enc (xd.length : Int) ++ xd.flatten).length ≤ 40000 ∧ 1 ≤ (Wr.enc (xd.length : Int) ++ xd.flatten).length := by rw [List.length_append]; omega
      have q4 : (Wr.enc (xs.length : Int) ++ Wr.encL Wr.encB xs).length ≤ 40000 ∧ 1 ≤ (Wr.enc (xs.length : Int) ++ Wr.encL Wr.encB xs).length := by rw [List.length_append]; omega
      generalize Wr.enc (s.length : Int) ++ s = eB at *
      generalize Wr.enc (xl.length : Int) ++ Wr.encL Wr.enc xl = eI at *
      generalize Wr.enc (xd.length : Int) ++ xd.flatten = eD at *
      generalize Wr.enc (xs.length : Int) ++ Wr.encL Wr.encB xs = eS at *
      have HGB := hide (fun (ad : Addr) (cap : Nat) (W : World) (h : Reads W W.heap.size 1 (some ad) (eB.length + m) (BV (eB ++ tail))) (hc : eB.length + m ≤ cap) => getBytes_any (some ad) (eB.length + m) cap _ W h (by unfold maxLen; omega) hc)
      have HGL := hide (fun (ad : Addr) (cap : Nat) (W : World) (h : Reads W W.heap.size 1 (some ad) (eI.length + m) (BV (eI ++ tail))) (hc : eI.length + m ≤ cap) => getInts_any (some ad) (eI.length + m) cap _ W h (by omega) hc)
      have HGD := hide (fun (ad : Addr) (cap : Nat) (W : World) (h : Reads W W.heap.size 1 (some ad) (eD.length + m) (BV (eD ++ tail))) (hc : eD.length + m ≤ cap) => getDigests_any (some ad) (eD.length + m) cap _ W h (by omega) hc)
      have HGS := hide (fun (ad : Addr) (cap : Nat) (W : World) (h : Reads W W.heap.size 1 (some ad) (eS.length + m) (BV (eS ++ tail))) (hc : eS.length + m ≤ cap) => getStrings_any (some ad) (eS.length + m) cap _ W h (by omega) hc)
      unfold digestsOf at HGD
      rw [hdb] at HGB
      rw [hdl] at HGL
      rw [hdd] at HGD
      rw [hds] at HGS
      clear hdb hdl hds hdd
      have HAB := hide (BV_append eB tail)
      have HAI := hide (BV_append eI tail)
      have HAD := hide (BV_append eD tail)
      have HAS := hide (BV_append eS tail)
      generalize eB.length = LB at *
      generalize eI.length = LI at *
      generalize eD.length = LD at *
      generalize eS.length = LS at *
      obtain ⟨i0, hi, hz0, hz1, hz2⟩ := info_parts byteInfo
      have HI := hide hi
      have HZ0 := hide hz0
      have HZ1 := hide hz1
      have HZ2 := hide hz2
      clear hi hz0 hz1 hz2
      have hsum : ((S s).size : Int) + (n1 : Int) + (n3 : Int) + (m : Int) ≤ 2000 := by rw [hsz]; omega
      have hss : (S s).size ≤ 2000 := by rw [hsz]; omega
      have hs1 : n1 ≤ 2000 := by omega
      have hs3 : n3 ≤ 2000 := by omega
      have hs4 : m ≤ 2000 := by omega
      have hs2 : n2 ≤ 2000 := by omega
      generalize S s = str at *
      have N1 := hide hl1
      have N2 := hide hl2
      have N3 := hide hn3
      have R1 := hide h1
      have R2 := hide h2
      have R3 := hide h3
      have R4 := hide h4
      have X1 := hide (map_int_get xl)
      have X2 := hide (map_str_get xs)
      have X3 := hide hxd
      obtain ⟨q1, p1⟩ := q1
      obtain ⟨q2, p2⟩ := q2
      obtain ⟨q3, p3⟩ := q3
      obtain ⟨q4, p4⟩ := q4
      clear hl1 hl2 hn3 h1 h2 h3 h4 hxl hxd hbig hfew hsz hs hb1 hb2 hb3 hb4 hbi hbs hfl e1 e2 e3 e4
      go_enter Try.func8, Try.ntmps8
      go_wp2_with (first
        | (go_at_call 11; refine (unhide HF w (Below.refl _ _)).mono ?_; rintro e w1 ⟨rfl, rfl⟩)
        | (go_at_call 16; refine (unhide HB w).mono ?_; rintro e w1 ⟨v1, rfl, hown1, hb1⟩; obtain ⟨g1, k1, rfl, hk1, hr1⟩ := own_form hown1 p1; have HR1 := hide hr1; have B1 := hide hb1; clear hown1 hr1 hb1)
        | (go_at_call 18; refine (unhide HL w1 B1.out).mono ?_; rintro e w2 ⟨v2, rfl, hown2, hb2⟩; obtain ⟨g2, k2, rfl, hk2, hr2⟩ := own_form hown2 p2; have HR2 := hide hr2; have B12 := hide hb2; have B2 := hide (below_then B1.out hb2); clear hown2 hr2 hb2)
        | (go_at_call 22; refine (unhide HD w2 B2.out).mono ?_; rintro e w3 ⟨v3, rfl, hown3, hb3⟩; obtain ⟨g3, k3, rfl, hk3, hr3⟩ := own_form hown3 p3; have HR3 := hide hr3; have B23 := hide hb3; have B3 := hide (below_then B2.out hb3); clear hown3 hr3 hb3)
        | (go_at_call 20; refine (unhide HS w3 B3.out).mono ?_; rintro e w4 ⟨v4, rfl, hown4, hb4⟩; obtain ⟨g4, k4, rfl, hk4, hr4⟩ := own_form hown4 p4; have HR4 := hide hr4; have B34 := hide hb4; have B4 := hide (below_then B3.out hb4); clear hown4 hr4 hb4)
        | (at_builtin; have C := below_then B12.out (below_then B23.out B34.out); refine wpList_append_tight _ rfl (.tmp 59) (.tmp 60) 28 rfl 5 i0 (.int .u8 0) Try.underlying28 HI.out HZ0.out HZ1.out HZ2.out rfl w1.heap.size ⟨g1, 0, none⟩ LB (BV eB) rfl (HR1.out.below C) p1 C.size w.heap.size A4 m c4 (BV tail) rfl (R4.out.below B4.out) (BV_one tail) (by omega) ?_; intro A5 c5 w5 hr5 hc5 hb5; rw [← HAB.out] at hr5; have HR5 := hide hr5; have B45 := hide hb5; have B5 := hide (below_then B4.out hb5); clear hr5 hb5 C)
        | (go_at_call 26; refine (unhide HGB A5 c5 w5 HR5.out hc5).mono ?_; rintro e w6 ⟨rfl, rfl⟩)
        | (at_builtin; have C := below_then B23.out (below_then B34.out B45.out); refine wpList_append_tight _ rfl (.tmp 72) (.tmp 73) 28 rfl 5 i0 (.int .u8 0) Try.underlying28 HI.out HZ0.out HZ1.out HZ2.out rfl w2.heap.size ⟨g2, 0, none⟩ LI (BV eI) rfl (HR2.out.below C) p2 C.size w.heap.size A4 m c4 (BV tail) rfl (R4.out.below B5.out) (BV_one tail) (by omega) ?_; intro A6 c6 w6 hr6 hc6 hb6; rw [← HAI.out] at hr6; have HR6 := hide hr6; have B56 := hide hb6; have B6 := hide (below_then B5.out hb6); clear hr6 hb6 C)
        | (go_at_call 28; refine (unhide HGL A6 c6 w6 HR6.out hc6).mono ?_; rintro e w7 ⟨v7, rfl, hown7, hb7⟩; rw [← N1.out] at hown7; obtain ⟨A7, c7, rfl, hc7, _⟩ := own_slice hown7; have HR7 := hide (Reads.of_own hown7); have B67 := hide hb7; have B7 := hide (below_then B6.out hb7); clear hown7 hb7)
        | (at_builtin; have C := below_then B34.out (below_then B45.out (below_then B56.out B67.out)); refine wpList_append_tight _ rfl (.tmp 85) (.tmp 86) 28 rfl 5 i0 (.int .u8 0) Try.underlying28 HI.out HZ0.out HZ1.out HZ2.out rfl w3.heap.size ⟨g3, 0, none⟩ LD (BV eD) rfl (HR3.out.below C) p3 C.size w.heap.size A4 m c4 (BV tail) rfl (R4.out.below B7.out) (BV_one tail) (by omega) ?_; intro A8 c8 w8 hr8 hc8 hb8; rw [← HAD.out] at hr8; have HR8 := hide hr8; have B78 := hide hb8; have B8 := hide (below_then B7.out hb8); clear hr8 hb8 C)
        | (go_at_call 34; refine (unhide HGD A8 c8 w8 HR8.out hc8).mono ?_; rintro e w9 ⟨v9, rfl, _, hown9, hb9⟩; rw [← N3.out] at hown9; obtain ⟨A9, c9, rfl, hc9, _⟩ := own_slice hown9; have HR9 := hide (Reads.of_own hown9); have B89 := hide hb9; have B9 := hide (below_then B8.out hb9); clear hown9 hb9)
        | (at_builtin; have C := below_then B45.out (below_then B56.out (below_then B67.out (below_then B78.out B89.out))); refine wpList_append_tight _ rfl (.tmp 98) (.tmp 99) 28 rfl 5 i0 (.int .u8 0) Try.underlying28 HI.out HZ0.out HZ1.out HZ2.out rfl w4.heap.size ⟨g4, 0, none⟩ LS (BV eS) rfl (HR4.out.below C) p4 C.size w.heap.size A4 m c4 (BV tail) rfl (R4.out.below B9.out) (BV_one tail) (by omega) ?_; intro A10 c10 w10 hr10 hc10 hb10; rw [← HAS.out] at hr10; have HR10 := hide hr10; have B910 := hide hb10; have B10 := hide (below_then B9.out hb10); clear hr10 hb10 C)
        | (go_at_call 31; refine (unhide HGS A10 c10 w10 HR10.out hc10).mono ?_; rintro e w11 ⟨v11, rfl, hown11, hb11⟩; rw [← N2.out] at hown11; obtain ⟨A11, c11, rfl, hc11, _⟩ := own_slice hown11; have HR11 := hide (Reads.of_own hown11); have B1011 := hide hb11; have B11 := hide (below_then B10.out hb11); clear hown11 hb11)
        | (go_at_call 12; refine (sanity_any _).mono ?_; rintro e w12 ⟨rfl, hb12⟩; have B1112 := hide hb12; have B12' := hide (below_then B11.out hb12); clear hb12)
        | (go_at_call 33; refine (sameTexts_eq A11 A2 n2 c11 c2 _ _ w12 X2.out ((HR11.out.below B1112.out).more B1112.out.size) ((R2.out.below B12'.out).more B12'.out.size) (by unfold maxLen; omega)).mono ?_; rintro e w13 ⟨rfl, k13, hk13⟩; subst hk13)
        | (go_at_call 30; have C := below_drewN (below_then B78.out (below_then B89.out (below_then B910.out (below_then B1011.out B1112.out)))) k13; refine (sameInts_eq A7 A1 n1 c7 c1 _ _ (w12.drewN k13) X1.out ((HR7.out.below C).more C.size) ((R1.out.below (below_drewN B12'.out k13)).more (below_drewN B12'.out k13).size) (by unfold maxLen; omega)).mono ?_; rintro e w14 ⟨rfl, k14, hk14⟩; subst hk14)
        | (go_at_call 36; have C := below_drewN (below_then B910.out (below_then B1011.out B1112.out)) (k13 + k14); have D := below_drewN B12'.out (k13 + k14); refine (sameDigests_eq A9 A3 n3 c9 c3 xd (w12.drewN (k13 + k14)) X3.out ((HR9.out.below C).more C.size) ((R3.out.below D).more D.size) N3.out (by omega) hc9 hc3).mono ?_; rintro e w15 ⟨rfl, k15, hk15⟩; subst hk15))
      go_ret
      exact ⟨rfl, below_drewN B12'.out _⟩
    · rw [decide_eq_false hfew] at HF
      have hsum : ((S s).size : Int) + (n1 : Int) + (n3 : Int) + (m : Int) ≤ 2000 := by rw [hsz]; omega
      have hss : (S s).size ≤ 2000 := by rw [hsz]; omega
      have hs1 : n1 ≤ 2000 := by omega
      have hs3 : n3 ≤ 2000 := by omega
      have hs4 : m ≤ 2000 := by omega
      generalize S s = str at *
      clear hl1 hl2 hn3 h1 h2 h3 h4 hxl hxd hbig hfew hsz hs hb1 hb2 hb3 hb4
      go_enter Try.func8, Try.ntmps8
      go_wp2_with (first
        | (go_at_call 11; refine (unhide HF w (Below.refl _ _)).mono ?_; rintro e w1 ⟨rfl, rfl⟩)
        | (go_at_call 12; refine (sanity_any _).mono ?_; rintro e w12 ⟨rfl, hb12⟩; have B12' := hide hb12; clear hb12))
      go_ret
      exact ⟨rfl, B12'.out⟩
  · have hsum : 2000 < ((S s).size : Int) + (n1 : Int) + (n3 : Int) + (m : Int) := by rw [hsz]; omega
    have hss : (S s).size ≤ 1048576 := by rw [hsz]; omega
    have hs2 : n2 ≤ 1048576 := by omega
    generalize S s = str at *
    clear hl1 hl2 hn3 h1 h2 h3 h4 hxl hxd hbig hsz hs hb2 HF
    go_enter Try.func8, Try.ntmps8
    go_wp2_with (first
      | (go_at_call 12; refine (sanity_any _).mono ?_; rintro e w12 ⟨rfl, hb12⟩; have B12' := hide hb12; clear hb12))
    go_ret
    exact ⟨rfl, B12'.out⟩
end Go.Proofs.Ytbkpnfejhaedhaa
