/-
  WireCanonical answers true at every byte sequence: the walk.
-/
import Derived.Test.YtbkpnfejhaedhaaIs
namespace Go.Proofs.Ytbkpnfejhaedhaa
open Go.RowKit
set_option linter.unusedVariables false
set_option linter.unusedSimpArgs false

theorem below_of_drewN {w w' : World} {k : Nat} (h : Below (w.drewN k).heap.size (w.drewN k) w') : Below w.heap.size w w' := ⟨h.os, h.tape, h.output, h.size, h.block⟩

set_option maxHeartbeats 2000000 in
set_option maxRecDepth 100000 in
theorem canon_walk (A : Option Addr) (n c : Nat) (l : List UInt8) (w : World) (hr : Reads w w.heap.size 1 A n (BV l)) (hn : n ≤ 140737488351232) (hnc : n ≤ c) :
    Calls Try.prog 7 #[.slice A n c] w fun e w' => e = .returned (.bool true) ∧ Below w.heap.size w w' := by
  by_cases hbig : n ≤ 2000
  · have hl : n = l.length := by have := hr.1; rw [BV_len] at this; omega
    have hB0 := below_alloc w (.cells #[.slice A n c] 28)
    have hcell0 : (w.alloc (.cells #[.slice A n c] 28)).cell? ⟨w.heap.size, 0, none⟩ = some (.slice A n c) := by
      rw [World.cell?_alloc_at _ _ _ _ rfl]; rfl
    have hbsz : w.heap.size < (w.alloc (.cells #[.slice A n c] 28)).heap.size := by simp
    generalize hwb : w.alloc (.cells #[.slice A n c] 28) = wb at *
    have hread : ∀ W, Below wb.heap.size wb W → Reads W W.heap.size 1 A n (BV l) := fun W hb => (hr.below (below_then hB0 hb)).more (below_then hB0 hb).size
    have hcell : ∀ W, Below wb.heap.size wb W → W.cell? ⟨w.heap.size, 0, none⟩ = some (.slice A n c) := fun W hb => by rw [hb.cell hbsz]; exact hcell0
    have hmx : n ≤ maxLen := by unfold maxLen; omega
    obtain ⟨fi1, fi2⟩ := Wr.factI l
    obtain ⟨fb1, fb2⟩ := Wr.factB l
    obtain ⟨fl1, fl2, fl3, fl4⟩ := Wr.factL Wr.codecInt l
    obtain ⟨fs1, fs2, fs3, fs4⟩ := Wr.factL Wr.codecBytes l
    obtain ⟨fd1, fd2, fd3⟩ := Wr.factD l
    have HGI := hide (fun W hb => getInt_any A n c l W (hread W hb) hmx hnc)
    have HGB := hide (fun W hb => getBytes_any A n c l W (hread W hb) hmx hnc)
    have HGL := hide (fun W hb => getInts_any A n c l W (hread W hb) (by omega) hnc)
    have HGS := hide (fun W hb => getStrings_any A n c l W (hread W hb) (by omega) hnc)
    have HGD := hide (fun W hb => getDigests_any A n c l W (hread W hb) (by omega) hnc)
    have HIS := hide (fun (Am : Option Addr) (m d u : Nat) (er : Int) (cl : List UInt8) (W : World) (hb : Below wb.heap.size wb W) (hm : Reads W W.heap.size 1 Am m (BV cl)) (h : er ≠ 0 ∨ (u ≤ l.length ∧ cl = l.take u)) =>
      is_any w.heap.size A Am n c m d u er l cl W (hcell W hb) (hread W hb) hnc hbig hm h)
    unfold digestsOf at HGD
    generalize Wr.decI l = ri at *
    generalize Wr.decB l = rb at *
    generalize Wr.decList 1 Wr.decI l = rl at *
    generalize Wr.decList 1 Wr.decB l = rs at *
    generalize Wr.decList 16 Wr.decD l = rd at *
    obtain ⟨zi, ui, ei⟩ := ri
    obtain ⟨sb, ub, eb⟩ := rb
    obtain ⟨xl, ul, el⟩ := rl
    obtain ⟨xs, us, es⟩ := rs
    obtain ⟨xd, ud, ed⟩ := rd
    have HI := hide (fun W => int_any zi W fi1)
    have HBy := hide (fun W => bytes_any sb W (by simp only [] at fb1; omega))
    have HL := hide (fun (A' : Option Addr) (c' : Nat) (W : World) (h : Reads W W.heap.size 1 A' xl.length (xl.map (Value.int .i64))) (hc : xl.length ≤ c') => ints_any A' xl.length c' xl W h hc (by simp only [] at fl3; omega) (by simp only [] at fl2; omega) fl1)
    have HS := hide (fun (A' : Option Addr) (c' : Nat) (W : World) (h : Reads W W.heap.size 1 A' xs.length (xs.map VS)) (hc : xs.length ≤ c') => strings_any A' xs.length c' xs W h hc (by simp only [] at fs3; omega) (by simp only [] at fs2; omega))
    have HD := hide (fun (A' : Option Addr) (c' : Nat) (W : World) (h : Reads W W.heap.size 16 A' xd.length (BV xd.flatten)) (hc : xd.length ≤ c') => digests_any A' xd.length c' xd W h hc (by simp only [] at fd2; omega) fd1 rfl)
    have FI := hide fi2
    have FB := hide fb2
    have FL := hide fl4
    have FS := hide fs4
    have FD := hide fd3
    have HR := hide hread
    have HC := hide hcell
    have HB0 := hide hB0
    clear fi1 fi2 fb1 fb2 fl1 fl2 fl3 fl4 fs1 fs2 fs3 fs4 fd1 fd2 fd3 hread hr hl hbsz
    go_enter Try.func7, Try.ntmps7
    go_upto_region 1 with fail
    try rw [hwb]
    clear hwb
    go_wp2_with (first
      | (go_at_call 24; refine (unhide HGI wb (Below.refl _ _)).mono ?_; rintro e w1 ⟨rfl, rfl⟩)
      | (go_at_call 26; refine (unhide HGB wb (Below.refl _ _)).mono ?_; rintro e w1 ⟨rfl, rfl⟩)
      | (go_at_call 28; refine (unhide HGL wb (Below.refl _ _)).mono ?_; rintro e w3 ⟨v3, rfl, hown3, hb3⟩; obtain ⟨A3, c3, rfl, hc3, _⟩ := own_slice hown3; have HR3 := hide (Reads.of_own hown3); have B3 := hide hb3; have hcel3 := HC.out w3 hb3; clear hown3 hb3)
      | (go_at_call 31; refine (unhide HGS w3 B3.out).mono ?_; rintro e w4 ⟨v4, rfl, hown4, hb4⟩; obtain ⟨A4, c4, rfl, hc4, _⟩ := own_slice hown4; have HR4 := hide (Reads.of_own hown4); have B34 := hide hb4; have B4 := hide (below_then B3.out hb4); have hcel4 := HC.out w4 B4.out; clear hown4 hb4)
      | (go_at_call 34; refine (unhide HGD w4 B4.out).mono ?_; rintro e w5 ⟨v5, rfl, hd16, hown5, hb5⟩; obtain ⟨A5, c5, rfl, hc5, _⟩ := own_slice hown5; have HR5 := hide (Reads.of_own hown5); have B45 := hide hb5; have B5 := hide (below_then B4.out hb5); clear hown5 hb5 hd16)
      | (go_at_call 12; refine (sanity_any _).mono ?_; rintro e w6 ⟨rfl, hb6⟩; have B56 := hide hb6; have B6 := hide (below_then B5.out hb6); clear hb6)
      | (go_at_call 14; refine (unhide HI _).mono ?_; rintro e w7 ⟨v7, rfl, hown7, hb7⟩; obtain ⟨A7, c7, rfl, hc7, _⟩ := own_slice hown7; have HR7 := hide (Reads.of_own hown7); have B67 := hide hb7; have B7 := hide (below_then B6.out hb7); clear hown7 hb7)
      | (go_at_call_of 37 (Value.int .i64 (ui : Int)); refine (unhide HIS A7 _ c7 ui ei _ w7 B7.out HR7.out FI.out).mono ?_; rintro e w1 ⟨rfl, k7, hk7⟩; subst hk7)
      | (go_at_call 16; refine (unhide HBy _).mono ?_; rintro e w8 ⟨v8, rfl, hown8, hb8⟩; obtain ⟨A8, c8, rfl, hc8, _⟩ := own_slice hown8; have HR8 := hide (Reads.of_own hown8); have B78 := hide (below_of_drewN hb8); have B8 := hide (below_then B7.out B78.out); clear hown8 hb8)
      | (go_at_call_of 37 (Value.int .i64 (ub : Int)); refine (unhide HIS A8 _ c8 ub eb _ w8 B8.out HR8.out FB.out).mono ?_; rintro e w1 ⟨rfl, k8, hk8⟩; subst hk8)
      | (go_at_call 18; have B38 := below_then B34.out (below_then B45.out (below_then B56.out (below_then B67.out B78.out))); refine (unhide HL A3 c3 _ (((HR3.out.below B38).more B38.size).drewN _) hc3).mono ?_; rintro e w9 ⟨v9, rfl, hown9, hb9⟩; obtain ⟨A9, c9, rfl, hc9, _⟩ := own_slice hown9; have HR9 := hide (Reads.of_own hown9); have B89 := hide (below_of_drewN hb9); have B9 := hide (below_then B8.out B89.out); clear hown9 hb9 B38)
      | (go_at_call_of 37 (Value.int .i64 (ul : Int)); refine (unhide HIS A9 _ c9 ul el _ w9 B9.out HR9.out FL.out).mono ?_; rintro e w1 ⟨rfl, k9, hk9⟩; subst hk9)
      | (go_at_call 20; have B49 := below_then B45.out (below_then B56.out (below_then B67.out (below_then B78.out B89.out))); refine (unhide HS A4 c4 _ (((HR4.out.below B49).more B49.size).drewN _) hc4).mono ?_; rintro e w10 ⟨v10, rfl, hown10, hb10⟩; obtain ⟨A10, c10, rfl, hc10, _⟩ := own_slice hown10; have HR10 := hide (Reads.of_own hown10); have B910 := hide (below_of_drewN hb10); have B10 := hide (below_then B9.out B910.out); clear hown10 hb10 B49)
      | (go_at_call_of 37 (Value.int .i64 (us : Int)); refine (unhide HIS A10 _ c10 us es _ w10 B10.out HR10.out FS.out).mono ?_; rintro e w1 ⟨rfl, k10, hk10⟩; subst hk10)
      | (go_at_call 22; have B510 := below_then B56.out (below_then B67.out (below_then B78.out (below_then B89.out B910.out))); refine (unhide HD A5 c5 _ (((HR5.out.below B510).more B510.size).drewN _) hc5).mono ?_; rintro e w11 ⟨v11, rfl, hown11, hb11⟩; obtain ⟨A11, c11, rfl, hc11, _⟩ := own_slice hown11; have HR11 := hide (Reads.of_own hown11); have B11 := hide (below_then B10.out (below_of_drewN hb11)); clear hown11 hb11 B510)
      | (go_at_call_of 37 (Value.int .i64 (ud : Int)); refine (unhide HIS A11 _ c11 ud ed _ w11 B11.out HR11.out FD.out).mono ?_; rintro e w1 ⟨rfl, k11, hk11⟩; subst hk11))
    go_ret
    exact ⟨rfl, below_then HB0.out (below_drewN B11.out _)⟩
  · have hbig' : (2000 : Int) < (n : Int) := by omega
    have hn' : n ≤ 140737488351232 := hn
    clear hr hbig hn
    go_enter Try.func7, Try.ntmps7
    go_wp2_with (go_at_call 12; refine (sanity_any _).mono ?_; rintro e w4 ⟨rfl, hb4⟩; have HB4 := hide (below_then (below_alloc w _) hb4); clear hb4)
    go_ret
    exact ⟨rfl, HB4.out⟩
end Go.Proofs.Ytbkpnfejhaedhaa
