/-
  WireDecodeMatchesSpec answers true at every byte sequence: the walk.
-/
import Derived.Test.YtbkpnfejhaedhaaRef8
import Derived.Test.YtbkpnfejhaedhaaCanon
namespace Go.Proofs.Ytbkpnfejhaedhaa
open Go.RowKit
set_option linter.unusedVariables false
set_option linter.unusedSimpArgs false

theorem str_items (xs : List (List UInt8)) : ∀ k, (h : k < (xs.map VS).length) → (xs.map VS)[k] = .string (S (xs.getD k [])) := fun k h => by
  have hk : k < xs.length := by simpa using h
  simp [List.getD, hk, VS]
theorem int_items (xs : List Int) : ∀ k, (h : k < (xs.map (Value.int .i64)).length) → (xs.map (Value.int .i64))[k] = .int .i64 (xs.getD k 0) := fun k h => by
  have hk : k < xs.length := by simpa using h
  simp [List.getD, hk]

set_option maxHeartbeats 2000000 in
set_option maxRecDepth 100000 in
theorem decode_walk (A : Option Addr) (n c : Nat) (l : List UInt8) (w : World) (hr : Reads w w.heap.size 1 A n (BV l)) (hn : n ≤ 140737488351232) (hnc : n ≤ c) :
    Calls Try.prog 4 #[.slice A n c] w fun e w' => e = .returned (.bool true) ∧ Below w.heap.size w w' := by
  by_cases hbig : n ≤ 2000
  · have hl : n = l.length := by have := hr.1; rw [BV_len] at this; omega
    have hmx : n ≤ maxLen := by unfold maxLen; omega
    have hread : ∀ W, Below w.heap.size w W → Reads W W.heap.size 1 A n (BV l) := fun W hb => (hr.below hb).more hb.size
    have D1 := hide (fun W hb => getInt_any A n c l W (hread W hb) hmx hnc)
    have F1 := hide (fun W hb => refGetInt_any A n c l W (hread W hb) hmx hnc)
    have D2 := hide (fun W hb => getBytes_any A n c l W (hread W hb) hmx hnc)
    have F2 := hide (fun W hb => refGetBytes_any A n c l W (hread W hb) (by omega) hnc)
    have D3 := hide (fun W hb => getInts_any A n c l W (hread W hb) (by omega) hnc)
    have F3 := hide (fun W hb => refGetInts_any A n c l W (hread W hb) (by omega) hnc)
    have D4 := hide (fun W hb => getStrings_any A n c l W (hread W hb) (by omega) hnc)
    have F4 := hide (fun W hb => refGetStrings_any A n c l W (hread W hb) (by omega) hnc)
    have D5 := hide (fun W hb => getDigests_any A n c l W (hread W hb) (by omega) hnc)
    have F5 := hide (fun W hb => refGetDigests_any A n c l W (hread W hb) (by omega) hnc)
    obtain ⟨fl1, fl2, fl3, fl4⟩ := Wr.factL Wr.codecInt l
    obtain ⟨fs1, fs2, fs3, fs4⟩ := Wr.factL Wr.codecBytes l
    obtain ⟨fd1, fd2, fd3⟩ := Wr.factD l
    unfold digestsOf at D5 F5
    generalize Wr.decI l = ri at *
    generalize Wr.decB l = rb at *
    generalize Wr.decList 1 Wr.decI l = rl at *
    generalize Wr.decList 1 Wr.decB l = rs at *
    generalize Wr.decList 16 Wr.decD l = rd at *
    obtain ⟨zi, ui, ei⟩ := ri
    obtain ⟨sb, ub, eb⟩ := rb
    obtain ⟨xl, ul, el⟩ := rl
    obtain ⟨xs, us, es⟩ := rs
    obtain ⟨xd, ud, ed⟩ := rd
    simp only [] at fl3 fs3 fd1 fd2
    have IL := hide (int_items xl)
    have IS := hide (str_items xs)
    have hll : xl.length ≤ 2000 := by omega
    have hls : xs.length ≤ 2000 := by omega
    have hld : xd.length ≤ 2000 := by omega
    have HD16 := hide fd1
    have hml : xl.length ≤ maxLen := by unfold maxLen; omega
    have hms : xs.length ≤ maxLen := by unfold maxLen; omega
    generalize S sb = str at *
    clear fl1 fl2 fl3 fl4 fs1 fs2 fs3 fs4 fd1 fd2 fd3 hread hr hl hn
    go_enter Try.func4, Try.ntmps4
    go_wp2_with (first
      | (go_at_call 24; refine (unhide D1 w (Below.refl _ _)).mono ?_; rintro e w1 ⟨rfl, rfl⟩)
      | (go_at_call 25; refine (unhide F1 w (Below.refl _ _)).mono ?_; rintro e w1 ⟨rfl, hb1⟩; have B1 := hide hb1; clear hb1)
      | (go_at_call 26; refine (unhide D2 w1 B1.out).mono ?_; rintro e w2 ⟨rfl, rfl⟩)
      | (go_at_call 27; refine (unhide F2 w1 B1.out).mono ?_; rintro e w2 ⟨rfl, hb2⟩; have B2 := hide (below_then B1.out hb2); clear hb2)
      | (go_at_call 28; refine (unhide D3 w2 B2.out).mono ?_; rintro e w3 ⟨v3, rfl, hown3, hb3⟩; obtain ⟨A3, c3, rfl, hc3, _⟩ := own_slice hown3; have R3 := hide (Reads.of_own hown3); have B3 := hide (below_then B2.out hb3); clear hown3 hb3)
      | (go_at_call 29; refine (unhide F3 w3 B3.out).mono ?_; rintro e w4 ⟨v4, rfl, hown4, hb4⟩; obtain ⟨A4, c4, rfl, hc4, _⟩ := own_slice hown4; have R4 := hide (Reads.of_own hown4); have R3' := hide ((R3.out.below hb4).more hb4.size); have B4 := hide (below_then B3.out hb4); clear hown4 hb4)
      | (go_at_call 30; refine (sameInts_eq A3 A4 xl.length c3 c4 _ _ w4 IL.out R3'.out R4.out hml).mono ?_; rintro e w5 ⟨rfl, k5, hk5⟩; subst hk5)
      | (go_at_call 31; refine (unhide D4 (w4.drewN k5) (below_drewN B4.out k5)).mono ?_; rintro e w6 ⟨v6, rfl, hown6, hb6⟩; obtain ⟨A6, c6, rfl, hc6, _⟩ := own_slice hown6; have R6 := hide (Reads.of_own hown6); have B6 := hide (below_then (below_drewN B4.out k5) hb6); clear hown6 hb6)
      | (go_at_call 32; refine (unhide F4 w6 B6.out).mono ?_; rintro e w7 ⟨v7, rfl, hown7, hb7⟩; obtain ⟨A7, c7, rfl, hc7, _⟩ := own_slice hown7; have R7 := hide (Reads.of_own hown7); have R6' := hide ((R6.out.below hb7).more hb7.size); have B7 := hide (below_then B6.out hb7); clear hown7 hb7)
      | (go_at_call 33; refine (sameTexts_eq A6 A7 xs.length c6 c7 _ _ w7 IS.out R6'.out R7.out hms).mono ?_; rintro e w8 ⟨rfl, k8, hk8⟩; subst hk8)
      | (go_at_call 34; refine (unhide D5 (w7.drewN k8) (below_drewN B7.out k8)).mono ?_; rintro e w9 ⟨v9, rfl, _, hown9, hb9⟩; obtain ⟨A9, c9, rfl, hc9, _⟩ := own_slice hown9; have R9 := hide (Reads.of_own hown9); have B9 := hide (below_then (below_drewN B7.out k8) hb9); clear hown9 hb9)
      | (go_at_call 35; refine (unhide F5 w9 B9.out).mono ?_; rintro e wa ⟨va, rfl, _, howna, hba⟩; obtain ⟨Aa, ca, rfl, hca, _⟩ := own_slice howna; have Ra := hide (Reads.of_own howna); have R9' := hide ((R9.out.below hba).more hba.size); have Ba := hide (below_then B9.out hba); clear howna hba)
      | (go_at_call 12; refine (sanity_any _).mono ?_; rintro e wb ⟨rfl, hbb⟩; have R9b := hide ((R9'.out.below hbb).more hbb.size); have Rb := hide ((Ra.out.below hbb).more hbb.size); have Bb := hide (below_then Ba.out hbb); clear hbb)
      | (go_at_call 36; refine (sameDigests_eq A9 Aa xd.length c9 ca xd wb HD16.out R9b.out Rb.out rfl (by omega) hc9 hca).mono ?_; rintro e wc ⟨rfl, kc, hkc⟩; subst hkc))
    go_ret
    exact ⟨rfl, below_drewN Bb.out _⟩
  · have hbig' : (2000 : Int) < (n : Int) := by omega
    have hn' : n ≤ 140737488351232 := hn
    clear hr hbig hn
    go_enter Try.func4, Try.ntmps4
    go_wp2_with (go_at_call 12; refine (sanity_any _).mono ?_; rintro e w4 ⟨rfl, hb4⟩; have HB4 := hide hb4; clear hb4)
    go_ret
    exact ⟨rfl, HB4.out⟩
end Go.Proofs.Ytbkpnfejhaedhaa
