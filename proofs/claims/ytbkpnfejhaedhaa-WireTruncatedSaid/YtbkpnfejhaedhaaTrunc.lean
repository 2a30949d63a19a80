/-
  WireTruncated answers true at every input: the walk.
-/
import Derived.Test.YtbkpnfejhaedhaaRound
namespace Go.Proofs.Ytbkpnfejhaedhaa
open Go.RowKit
set_option linter.unusedVariables false
set_option linter.unusedSimpArgs false

theorem trunc_of {w : World} {ad : Addr} {L : Nat} {e : List UInt8} (h : Reads w w.heap.size 1 (some ad) L (BV e)) (i : Nat) (hi : i ≤ L) : Reads w w.heap.size 1 (some ad) i (BV (e.take i)) := by
  have := reads_sub h 0 i (by omega)
  simpa [Addr.add] using this

set_option maxHeartbeats 4000000 in
set_option maxRecDepth 100000 in
theorem trunc_walk (z : Int) (s : List UInt8) (xl : List Int) (xs xd : List (List UInt8)) (A1 A2 A3 : Option Addr) (n1 n2 n3 c1 c2 c3 : Nat) (w : World) (hz : Wr.inI z)
    (hs : s.length ≤ 140737488351232) (h1 : Reads w w.heap.size 1 A1 n1 (xl.map (Value.int .i64))) (h2 : Reads w w.heap.size 1 A2 n2 (xs.map VS)) (h3 : Reads w w.heap.size 16 A3 n3 (BV xd.flatten))
    (hn3 : n3 = xd.length) (hc1 : n1 ≤ c1) (hc2 : n2 ≤ c2) (hc3 : n3 ≤ c3) (hb1 : n1 ≤ 140737488351232) (hb2 : n2 ≤ 140737488351232) (hb2' : n2 ≤ 40 → n2 + lens xs ≤ 4611686018427387904) (hb3 : n3 ≤ 140737488351232) (hxl : ∀ x ∈ xl, Wr.inI x) (hxd : ∀ d ∈ xd, d.length = 16) :
    Calls Try.prog 9 #[.int .i64 z, .string (S s), .slice A1 n1 c1, .slice A2 n2 c2, .slice A3 n3 c3] w fun e w' => e = .returned (.bool true) ∧ Below w.heap.size w w' := by
  have hl1 : n1 = xl.length := by have := h1.1; simpa using this.symm
  have hl2 : n2 = xs.length := by have := h2.1; simpa using this.symm
  have hsz : (S s).size = s.length := rfl
  by_cases hbig : s.length + 9 * n1 + 16 * n3 ≤ 400
  · have hsum : ((S s).size : Int) + 9 * (n1 : Int) + 16 * (n3 : Int) ≤ 400 := by rw [hsz]; omega
    have hss : (S s).size ≤ 400 := by rw [hsz]; omega
    have hs1 : n1 ≤ 400 := by omega
    have hs3 : n3 ≤ 400 := by omega
    by_cases h40 : n2 ≤ 40
    · have HF := hide (fun W hb => few_any A2 n2 c2 xs W ((h2.below hb).more (Below.size hb)) (hb2' h40))
      by_cases hfew : n2 + lens xs ≤ 2000
      · rw [decide_eq_true hfew] at HF
        have hbi := encI_bound xl
        have hbs := encB_bound xs
        have hfl : xd.flatten.length = xd.length * 16 := flat_len xd hxd
        have e0 := Wr.enc_le z
        have e1 := Wr.enc_le (s.length : Int)
        have e2 := Wr.enc_le (xl.length : Int)
        have e3 := Wr.enc_le (xs.length : Int)
        have e4 := Wr.enc_le (xd.length : Int)
        have p0 := Wr.enc_pos z
        have p1 := Wr.enc_pos (s.length : Int)
        have p2 := Wr.enc_pos (xl.length : Int)
        have p3 := Wr.enc_pos (xs.length : Int)
        have p4 := Wr.enc_pos (xd.length : Int)
        have E0 := hide (fun W => int_any z W hz)
        have E1 := hide (fun W => bytes_any s W (by omega))
        have E2 := hide (fun (W : World) (hb : Below w.heap.size w W) => ints_any A1 n1 c1 xl W ((h1.below hb).more hb.size) hc1 (by omega) (by omega) hxl)
        have E3 := hide (fun (W : World) (hb : Below w.heap.size w W) => strings_any A2 n2 c2 xs W ((h2.below hb).more hb.size) hc2 (by omega) (by omega))
        have E4 := hide (fun (W : World) (hb : Below w.heap.size w W) => digests_any A3 n3 c3 xd W ((h3.below hb).more hb.size) hc3 (by omega) hxd hn3)
        have t0 := fun i (hi : i < (Wr.enc z).length) => (Wr.codecInt.short z i hz hi)
        have t1 := fun i (hi : i < (Wr.encB s).length) => (Wr.codecBytes.short s i (by unfold Wr.okB; omega) hi)
        have t2 := fun i hi => Wr.list_short Wr.codecInt xl hxl (by omega) i hi
        have t3 := fun i hi => Wr.list_short Wr.codecBytes xs (fun x hx => by have := lens_mem xs x hx; unfold Wr.okB; omega) (by omega) i hi
        have t4 := fun i hi => Wr.digests_short xd hxd (by omega) i hi
        rw [show Wr.encB s = Wr.enc (s.length : Int) ++ s from rfl] at t1
        rw [← List.length_append] at E1 E2 E3
        rw [← hfl] at E4
        rw [← List.length_append] at E4
        have q0 : (Wr.enc z).length ≤ 500 := by omega
        have q1 : (Wr.enc (s.length : Int) ++ s).length ≤ 500 ∧ 1 ≤ (Wr.enc (s.length : Int) ++ s).length := by rw [List.length_append]; omega
        have q2 : (Wr.enc (xl.length : Int) ++ Wr.encL Wr.enc xl).length ≤ 500 ∧ 1 ≤ (Wr.enc (xl.length : Int) ++ Wr.encL Wr.enc xl).length := by rw [List.length_append]; omega
        have q3 : (Wr.enc (xs.length : Int) ++ Wr.encL Wr.encB xs).length ≤ 40000 ∧ 1 ≤ (Wr.enc (xs.length : Int) ++ Wr.encL Wr.encB xs).length := by rw [List.length_append]; omega
        have q4 : (Wr.enc (xd.length : Int) ++ xd.flatten).length ≤ 500 ∧ 1 ≤ (Wr.enc (xd.length : Int) ++ xd.flatten).length := by rw [List.length_append]; omega
        generalize Wr.enc (s.length : Int) ++ s = y1 at *
        generalize Wr.enc (xl.length : Int) ++ Wr.encL Wr.enc xl = y2 at *
        generalize Wr.enc (xs.length : Int) ++ Wr.encL Wr.encB xs = y3 at *
        generalize Wr.enc (xd.length : Int) ++ xd.flatten = y4 at *
        generalize Wr.enc z = y0 at *
        have T0 : Hid (∀ (ad : Addr) (i cap : Nat) (W : World), i < y0.length → Reads W W.heap.size 1 (some ad) i (BV (y0.take i)) → i ≤ cap → Calls Try.prog 24 #[.slice (some ad) i cap] W fun e w' => ∃ v v2, e = .returned (.tuple #[v, v2, .int .i64 3]) ∧ Below W.heap.size W w') := fun ad i cap W hi h hc =>
          (getInt_any (some ad) i cap _ W h (by unfold maxLen; omega) hc).mono (by rintro e w' ⟨rfl, rfl⟩; exact ⟨_, _, by rw [t0 i hi], Below.refl _ _⟩)
        have T1 : Hid (∀ (ad : Addr) (i cap : Nat) (W : World), i < y1.length → Reads W W.heap.size 1 (some ad) i (BV (y1.take i)) → i ≤ cap → Calls Try.prog 26 #[.slice (some ad) i cap] W fun e w' => ∃ v v2, e = .returned (.tuple #[v, v2, .int .i64 3]) ∧ Below W.heap.size W w') := fun ad i cap W hi h hc =>
          (getBytes_any (some ad) i cap _ W h (by unfold maxLen; omega) hc).mono (by rintro e w' ⟨rfl, rfl⟩; exact ⟨_, _, by rw [t1 i hi], Below.refl _ _⟩)
        have T2 : Hid (∀ (ad : Addr) (i cap : Nat) (W : World), i < y2.length → Reads W W.heap.size 1 (some ad) i (BV (y2.take i)) → i ≤ cap → Calls Try.prog 28 #[.slice (some ad) i cap] W fun e w' => ∃ v v2, e = .returned (.tuple #[v, v2, .int .i64 3]) ∧ Below W.heap.size W w') := fun ad i cap W hi h hc =>
          (getInts_any (some ad) i cap _ W h (by omega) hc).mono (by rintro e w' ⟨v, rfl, _, hb⟩; exact ⟨_, _, by rw [t2 i hi], hb⟩)
        have T3 : Hid (∀ (ad : Addr) (i cap : Nat) (W : World), i < y3.length → Reads W W.heap.size 1 (some ad) i (BV (y3.take i)) → i ≤ cap → Calls Try.prog 31 #[.slice (some ad) i cap] W fun e w' => ∃ v v2, e = .returned (.tuple #[v, v2, .int .i64 3]) ∧ Below W.heap.size W w') := fun ad i cap W hi h hc =>
          (getStrings_any (some ad) i cap _ W h (by omega) hc).mono (by rintro e w' ⟨v, rfl, _, hb⟩; exact ⟨_, _, by rw [t3 i hi], hb⟩)
        have T4 : Hid (∀ (ad : Addr) (i cap : Nat) (W : World), i < y4.length → Reads W W.heap.size 1 (some ad) i (BV (y4.take i)) → i ≤ cap → Calls Try.prog 34 #[.slice (some ad) i cap] W fun e w' => ∃ v v2, e = .returned (.tuple #[v, v2, .int .i64 3]) ∧ Below W.heap.size W w') := fun ad i cap W hi h hc =>
          (getDigests_any (some ad) i cap _ W h (by omega) hc).mono (by rintro e w' ⟨v, rfl, _, _, hb⟩; exact ⟨_, _, by unfold digestsOf; rw [t4 i hi], hb⟩)
        clear t0 t1 t2 t3 t4
        generalize hL0 : y0.length = L0 at *
        generalize hL1 : y1.length = L1 at *
        generalize hL2 : y2.length = L2 at *
        generalize hL3 : y3.length = L3 at *
        generalize hL4 : y4.length = L4 at *
        obtain ⟨q1, p1⟩ := q1
        obtain ⟨q2, p2⟩ := q2
        obtain ⟨q3, p3⟩ := q3
        obtain ⟨q4, p4⟩ := q4
        clear hL0 hL1 hL2 hL3 hL4
        generalize S s = str at *
        clear hl1 hl2 hn3 h1 h2 h3 hxl hxd hbig hfew hsz hs hb1 hb2 hb2' hb3 hbi hbs hfl e0 e1 e2 e3 e4 hz
        go_enter Try.func9, Try.ntmps9
        go_wp2_with (first
          | (go_at_call 11; refine (unhide HF w (Below.refl _ _)).mono ?_; rintro e w1 ⟨rfl, rfl⟩)
          | (go_at_call 14; refine (unhide E0 w).mono ?_; rintro e w0 ⟨v0, rfl, hown0, hb0⟩; obtain ⟨g0, k0, rfl, hk0, hr0⟩ := own_form hown0 p0; have HR0 := hide hr0; have B0 := hide hb0; clear hown0 hr0 hb0)
          | (go_at_call 16; refine (unhide E1 w0).mono ?_; rintro e w1 ⟨v1, rfl, hown1, hb1⟩; obtain ⟨g1, k1, rfl, hk1, hr1⟩ := own_form hown1 p1; have HR1 := hide hr1; have B01 := hide hb1; have B1 := hide (below_then B0.out hb1); clear hown1 hr1 hb1)
          | (go_at_call 18; refine (unhide E2 w1 B1.out).mono ?_; rintro e w2 ⟨v2, rfl, hown2, hb2⟩; obtain ⟨g2, k2, rfl, hk2, hr2⟩ := own_form hown2 p2; have HR2 := hide hr2; have B12 := hide hb2; have B2 := hide (below_then B1.out hb2); clear hown2 hr2 hb2)
          | (go_at_call 20; refine (unhide E3 w2 B2.out).mono ?_; rintro e w3 ⟨v3, rfl, hown3, hb3⟩; obtain ⟨g3, k3, rfl, hk3, hr3⟩ := own_form hown3 p3; have HR3 := hide hr3; have B23 := hide hb3; have B3 := hide (below_then B2.out hb3); clear hown3 hr3 hb3)
          | (go_at_call 22; refine (unhide E4 w3 B3.out).mono ?_; rintro e w4 ⟨v4, rfl, hown4, hb4⟩; obtain ⟨g4, k4, rfl, hk4, hr4⟩ := own_form hown4 p4; have HR4 := hide hr4; have B34 := hide hb4; have B4 := hide (below_then B3.out hb4); clear hown4 hr4 hb4))
        have hbs : w4.heap.size < (w4.alloc (.cells #[.slice (some ⟨g0, 0, none⟩) L0 k0, .slice (some ⟨g1, 0, none⟩) L1 k1, .slice (some ⟨g2, 0, none⟩) L2 k2, .slice (some ⟨g3, 0, none⟩) L3 k3, .slice (some ⟨g4, 0, none⟩) L4 k4] 28)).heap.size := by simp
        have B4m := below_alloc w4 (.cells #[.slice (some ⟨g0, 0, none⟩) L0 k0, .slice (some ⟨g1, 0, none⟩) L1 k1, .slice (some ⟨g2, 0, none⟩) L2 k2, .slice (some ⟨g3, 0, none⟩) L3 k3, .slice (some ⟨g4, 0, none⟩) L4 k4] 28)
        have hcell : ∀ j, (w4.alloc (.cells #[.slice (some ⟨g0, 0, none⟩) L0 k0, .slice (some ⟨g1, 0, none⟩) L1 k1, .slice (some ⟨g2, 0, none⟩) L2 k2, .slice (some ⟨g3, 0, none⟩) L3 k3, .slice (some ⟨g4, 0, none⟩) L4 k4] 28)).cell? ⟨w4.heap.size, j, none⟩ = (#[.slice (some ⟨g0, 0, none⟩) L0 k0, .slice (some ⟨g1, 0, none⟩) L1 k1, .slice (some ⟨g2, 0, none⟩) L2 k2, .slice (some ⟨g3, 0, none⟩) L3 k3, .slice (some ⟨g4, 0, none⟩) L4 k4] : Array Value)[j]? := fun j => by
          exact cell_of_row _ _ j _ _ (0, 0) (heap_alloc_new w4 _)
        generalize w4.alloc (.cells #[.slice (some ⟨g0, 0, none⟩) L0 k0, .slice (some ⟨g1, 0, none⟩) L1 k1, .slice (some ⟨g2, 0, none⟩) L2 k2, .slice (some ⟨g3, 0, none⟩) L3 k3, .slice (some ⟨g4, 0, none⟩) L4 k4] 28) = wm at *
        have BM := hide (below_then B4.out B4m)
        have C0 := hide (fun (W : World) (hb : Below wm.heap.size wm W) => (hb.cell hbs).trans (hcell 0))
        have C1 := hide (fun (W : World) (hb : Below wm.heap.size wm W) => (hb.cell hbs).trans (hcell 1))
        have C2 := hide (fun (W : World) (hb : Below wm.heap.size wm W) => (hb.cell hbs).trans (hcell 2))
        have C3 := hide (fun (W : World) (hb : Below wm.heap.size wm W) => (hb.cell hbs).trans (hcell 3))
        have C4 := hide (fun (W : World) (hb : Below wm.heap.size wm W) => (hb.cell hbs).trans (hcell 4))
        have M4 := B4m
        have M3 := below_then B34.out M4
        have M2 := below_then B23.out M3
        have M1 := below_then B12.out M2
        have M0 := below_then B01.out M1
        have R0 := hide (fun (W : World) (hb : Below wm.heap.size wm W) => ((HR0.out.below (below_then M0 hb)).more (below_then M0 hb).size))
        have R1 := hide (fun (W : World) (hb : Below wm.heap.size wm W) => ((HR1.out.below (below_then M1 hb)).more (below_then M1 hb).size))
        have R2 := hide (fun (W : World) (hb : Below wm.heap.size wm W) => ((HR2.out.below (below_then M2 hb)).more (below_then M2 hb).size))
        have R3 := hide (fun (W : World) (hb : Below wm.heap.size wm W) => ((HR3.out.below (below_then M3 hb)).more (below_then M3 hb).size))
        have R4 := hide (fun (W : World) (hb : Below wm.heap.size wm W) => ((HR4.out.below (below_then M4 hb)).more (below_then M4 hb).size))
        generalize w4.heap.size = bs at *
        clear hbs hcell B4m M0 M1 M2 M3 M4 HR0 HR1 HR2 HR3 HR4 B0 B1 B2 B3 B4 B01 B12 B23 B34 HF E0 E1 E2 E3 E4
        go_loopw [49] (fun t wr => ∃ k : Nat, k ≤ 5 ∧ t = .int .i64 (k : Int) ∧ Below wm.heap.size wm wr) (fun t _ => 5 - (intOf t).toNat)
        case atStart => exact ⟨0, by omega, rfl, Below.refl _ _⟩
        case round =>
          obtain ⟨k, hk, rfl, hbr⟩ := hrel
          by_cases hlt : k < 5
          · have hkc : k = 0 ∨ k = 1 ∨ k = 2 ∨ k = 3 ∨ k = 4 := by omega
            rcases hkc with rfl | rfl | rfl | rfl | rfl
            · skip
              have hcel := C0.out wr hbr
              have BR := hide hbr
              clear hbr
              rw [show ((0 : Nat) : Int) = 0 from rfl]
              go_wp2
              go_loopw [57] (fun t wq => ∃ i : Nat, i ≤ L0 ∧ t = .int .i64 (i : Int) ∧ Below wm.heap.size wm wq) (fun t _ => L0 - (intOf t).toNat)
              case atStart => exact ⟨0, by omega, rfl, BR.out⟩
              case round =>
                obtain ⟨i, hi, rfl, hbq⟩ := hrel
                by_cases hil : i < L0
                · have hT := hide (unhide T0 ⟨g0, 0, none⟩ i k0 wr (by omega) (trunc_of (R0.out wr hbq) i (by omega)) (by omega))
                  have BQ := hide hbq
                  clear hbq
                  go_wp2_with (go_at_call 24; refine (unhide hT).mono ?_; rintro e w9 ⟨u1, u2, rfl, hb9⟩; have B9 := hide (below_then BQ.out hb9); clear hb9)
                  refine ⟨⟨i + 1, by omega, by go_num, B9.out⟩, ?_⟩
                  simp [intOf]; omega
                · obtain rfl : i = L0 := by omega
                  go_wp2
                  refine ⟨⟨1, by omega, by go_num, hbq⟩, ?_⟩
                  simp [intOf]
            · skip
              have hcel := C1.out wr hbr
              have BR := hide hbr
              clear hbr
              rw [show ((1 : Nat) : Int) = 1 from rfl]
              go_wp2
              go_loopw [57] (fun t wq => ∃ i : Nat, i ≤ L1 ∧ t = .int .i64 (i : Int) ∧ Below wm.heap.size wm wq) (fun t _ => L1 - (intOf t).toNat)
              case atStart => exact ⟨0, by omega, rfl, BR.out⟩
              case round =>
                obtain ⟨i, hi, rfl, hbq⟩ := hrel
                by_cases hil : i < L1
                · have hT := hide (unhide T1 ⟨g1, 0, none⟩ i k1 wr (by omega) (trunc_of (R1.out wr hbq) i (by omega)) (by omega))
                  have BQ := hide hbq
                  clear hbq
                  go_wp2_with (go_at_call 26; refine (unhide hT).mono ?_; rintro e w9 ⟨u1, u2, rfl, hb9⟩; have B9 := hide (below_then BQ.out hb9); clear hb9)
                  refine ⟨⟨i + 1, by omega, by go_num, B9.out⟩, ?_⟩
                  simp [intOf]; omega
                · obtain rfl : i = L1 := by omega
                  go_wp2
                  refine ⟨⟨2, by omega, by go_num, hbq⟩, ?_⟩
                  simp [intOf]
            · skip
              have hcel := C2.out wr hbr
              have BR := hide hbr
              clear hbr
              rw [show ((2 : Nat) : Int) = 2 from rfl]
              go_wp2
              go_loopw [57] (fun t wq => ∃ i : Nat, i ≤ L2 ∧ t = .int .i64 (i : Int) ∧ Below wm.heap.size wm wq) (fun t _ => L2 - (intOf t).toNat)
              case atStart => exact ⟨0, by omega, rfl, BR.out⟩
              case round =>
                obtain ⟨i, hi, rfl, hbq⟩ := hrel
                by_cases hil : i < L2
                · have hT := hide (unhide T2 ⟨g2, 0, none⟩ i k2 wr (by omega) (trunc_of (R2.out wr hbq) i (by omega)) (by omega))
                  have BQ := hide hbq
                  clear hbq
                  go_wp2_with (go_at_call 28; refine (unhide hT).mono ?_; rintro e w9 ⟨u1, u2, rfl, hb9⟩; have B9 := hide (below_then BQ.out hb9); clear hb9)
                  refine ⟨⟨i + 1, by omega, by go_num, B9.out⟩, ?_⟩
                  simp [intOf]; omega
                · obtain rfl : i = L2 := by omega
                  go_wp2
                  refine ⟨⟨3, by omega, by go_num, hbq⟩, ?_⟩
                  simp [intOf]
            · by_cases h500 : L3 ≤ 500
              · skip
                have hcel := C3.out wr hbr
                have BR := hide hbr
                clear hbr
                rw [show ((3 : Nat) : Int) = 3 from rfl]
                go_wp2
                go_loopw [57] (fun t wq => ∃ i : Nat, i ≤ L3 ∧ t = .int .i64 (i : Int) ∧ Below wm.heap.size wm wq) (fun t _ => L3 - (intOf t).toNat)
                case atStart => exact ⟨0, by omega, rfl, BR.out⟩
                case round =>
                  obtain ⟨i, hi, rfl, hbq⟩ := hrel
                  by_cases hil : i < L3
                  · have hT := hide (unhide T3 ⟨g3, 0, none⟩ i k3 wr (by omega) (trunc_of (R3.out wr hbq) i (by omega)) (by omega))
                    have BQ := hide hbq
                    clear hbq
                    go_wp2_with (go_at_call 31; refine (unhide hT).mono ?_; rintro e w9 ⟨u1, u2, rfl, hb9⟩; have B9 := hide (below_then BQ.out hb9); clear hb9)
                    refine ⟨⟨i + 1, by omega, by go_num, B9.out⟩, ?_⟩
                    simp [intOf]; omega
                  · obtain rfl : i = L3 := by omega
                    go_wp2
                    refine ⟨⟨4, by omega, by go_num, hbq⟩, ?_⟩
                    simp [intOf]
              · skip
                have hcel := C3.out wr hbr
                have BR := hide hbr
                clear hbr
                rw [show ((3 : Nat) : Int) = 3 from rfl]
                go_wp2
                go_loopw [57] (fun t wq => ∃ i : Nat, i ≤ 500 ∧ t = .int .i64 (i : Int) ∧ Below wm.heap.size wm wq) (fun t _ => 500 - (intOf t).toNat)
                case atStart => exact ⟨0, by omega, rfl, BR.out⟩
                case round =>
                  obtain ⟨i, hi, rfl, hbq⟩ := hrel
                  by_cases hil : i < 500
                  · have hT := hide (unhide T3 ⟨g3, 0, none⟩ i k3 wr (by omega) (trunc_of (R3.out wr hbq) i (by omega)) (by omega))
                    have BQ := hide hbq
                    clear hbq
                    go_wp2_with (go_at_call 31; refine (unhide hT).mono ?_; rintro e w9 ⟨u1, u2, rfl, hb9⟩; have B9 := hide (below_then BQ.out hb9); clear hb9)
                    refine ⟨⟨i + 1, by omega, by go_num, B9.out⟩, ?_⟩
                    simp [intOf]; omega
                  · obtain rfl : i = 500 := by omega
                    go_wp2
                    refine ⟨⟨4, by omega, by go_num, hbq⟩, ?_⟩
                    simp [intOf]
            · skip
              have hcel := C4.out wr hbr
              have BR := hide hbr
              clear hbr
              rw [show ((4 : Nat) : Int) = 4 from rfl]
              go_wp2
              go_loopw [57] (fun t wq => ∃ i : Nat, i ≤ L4 ∧ t = .int .i64 (i : Int) ∧ Below wm.heap.size wm wq) (fun t _ => L4 - (intOf t).toNat)
              case atStart => exact ⟨0, by omega, rfl, BR.out⟩
              case round =>
                obtain ⟨i, hi, rfl, hbq⟩ := hrel
                by_cases hil : i < L4
                · have hT := hide (unhide T4 ⟨g4, 0, none⟩ i k4 wr (by omega) (trunc_of (R4.out wr hbq) i (by omega)) (by omega))
                  have BQ := hide hbq
                  clear hbq
                  go_wp2_with (go_at_call 34; refine (unhide hT).mono ?_; rintro e w9 ⟨u1, u2, rfl, hb9⟩; have B9 := hide (below_then BQ.out hb9); clear hb9)
                  refine ⟨⟨i + 1, by omega, by go_num, B9.out⟩, ?_⟩
                  simp [intOf]; omega
                · obtain rfl : i = L4 := by omega
                  go_wp2
                  refine ⟨⟨5, by omega, by go_num, hbq⟩, ?_⟩
                  simp [intOf]
          · obtain rfl : k = 5 := by omega
            have BR := hide hbr
            go_wp2_with (go_at_call 12; refine (sanity_any _).mono ?_; rintro e w9 ⟨rfl, hb9⟩; have B9 := hide (below_then BR.out hb9); clear hb9)
            go_ret
            exact ⟨rfl, below_then BM.out B9.out⟩
      · rw [decide_eq_false hfew] at HF
        generalize S s = str at *
        clear hl1 hl2 hn3 h1 h2 h3 hxl hxd hbig hfew hsz hs hb1 hb2 hb2' hb3 hz
        go_enter Try.func9, Try.ntmps9
        go_wp2_with (first
          | (go_at_call 11; refine (unhide HF w (Below.refl _ _)).mono ?_; rintro e w1 ⟨rfl, rfl⟩)
          | (go_at_call 12; refine (sanity_any _).mono ?_; rintro e w12 ⟨rfl, hb12⟩; have B12' := hide hb12; clear hb12))
        go_ret
        exact ⟨rfl, B12'.out⟩
    · have h40' : (40 : Int) < (n2 : Int) := by omega
      generalize S s = str at *
      clear hl1 hl2 hn3 h1 h2 h3 hxl hxd hbig hsz hs hb1 hb2' hb3 hz h40
      go_enter Try.func9, Try.ntmps9
      go_wp2_with (go_at_call 12; refine (sanity_any _).mono ?_; rintro e w12 ⟨rfl, hb12⟩; have B12' := hide hb12; clear hb12)
      go_ret
      exact ⟨rfl, B12'.out⟩
  · have hsum : 400 < ((S s).size : Int) + 9 * (n1 : Int) + 16 * (n3 : Int) := by rw [hsz]; omega
    have hss : (S s).size ≤ 140737488351232 := by rw [hsz]; omega
    generalize S s = str at *
    clear hl1 hl2 hn3 h1 h2 h3 hxl hxd hbig hsz hs hb2' hz
    go_enter Try.func9, Try.ntmps9
    go_wp2_with (go_at_call 12; refine (sanity_any _).mono ?_; rintro e w12 ⟨rfl, hb12⟩; have B12' := hide hb12; clear hb12)
    go_ret
    exact ⟨rfl, B12'.out⟩
end Go.Proofs.Ytbkpnfejhaedhaa
