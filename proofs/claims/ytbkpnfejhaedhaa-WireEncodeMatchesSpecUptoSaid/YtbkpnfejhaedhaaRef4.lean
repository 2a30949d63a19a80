/-
  The reference's Bytes, Ints, Strings by their contracts.
-/
import Derived.Test.YtbkpnfejhaedhaaRef3
import Derived.Laws.IdiomStrings
namespace Go.Proofs.Ytbkpnfejhaedhaa
open Go.RowKit
set_option linter.unusedVariables false
set_option linter.unusedSimpArgs false

theorem conv_bytes (s : List UInt8) (W : World) : ∃ A c w', (convert 9 28 (.string (S s))).run Try.prog W = .ok (.slice (some A) (S s).size c) w' ∧ Reads w' w'.heap.size 1 (some A) (S s).size (BV s) ∧ Below W.heap.size W w' := by
  refine ⟨_, _, _, run_bytes_of_string W 9 28 5 (S s) Try.underlying9 Try.underlying28 Try.underlying5, ⟨by rw [BV_len, Nat.mul_one]; rfl, fun _ => ⟨_, rfl, by simp, fun j u hj => ?_⟩⟩, ⟨rfl, rfl, rfl, by simp, fun k hk => ?_⟩⟩
  · rw [show ((⟨W.heap.size, 0, none⟩ : Addr).add j) = ⟨W.heap.size, j, none⟩ by simp [Addr.add]; intro h; omega]
    have hjl : j < s.length := by
      rcases Nat.lt_or_ge j s.length with h | h
      · exact h
      · rw [List.getElem?_eq_none (by rw [BV_len]; exact h)] at hj; cases hj
    refine (cell_of_row _ W.heap.size j _ 5 _ (show (World.alloc W.drew _).heap[W.heap.size]? = some _ from Array.getElem?_push_size)).trans ?_
    rw [bytesRow_at (S s) _ j (by simpa [S] using hjl)]
    rw [BV_get s j hjl] at hj
    simpa [S] using hj
  · exact Below.heap_alloc W.drew _ k hk

set_option maxHeartbeats 400000 in
set_option maxRecDepth 100000 in
/-- the reference's Bytes -/
theorem refBytes_any (s : List UInt8) (w : World) (hs : s.length ≤ 1099511627776) :
    Calls Try.prog 17 #[.string (S s)] w fun e w' => ∃ v, e = .returned v ∧ w'.ownsRow w.heap.size 5 1 v (Wr.enc s.length ++ s).length (BV (Wr.enc s.length ++ s)) ∧ Below w.heap.size w w' := by
  obtain ⟨i0, hi, hz0, hz1, hz2⟩ := info_parts byteInfo
  have HI := hide hi
  have HZ0 := hide hz0
  have HZ1 := hide hz1
  have HZ2 := hide hz2
  clear hi hz0 hz1 hz2
  have hle : (S s).size ≤ 1099511627776 := hs
  have HE := hide (fun W => refInt_any (s.length : Int) W (by unfold Wr.inI; omega))
  rw [show ((s.length : Nat) : Int) = (((S s).size : Nat) : Int) from rfl] at HE
  have HC := hide (conv_bytes s)
  have e9 := Wr.enc_le (s.length : Int)
  rw [show ((s.length : Nat) : Int) = (((S s).size : Nat) : Int) from rfl] at e9 ⊢
  have hl2 : (Wr.enc ((S s).size : Int) ++ s).length = (Wr.enc ((S s).size : Int)).length + (S s).size := by rw [List.length_append]; rfl
  have HL := hide hl2
  have HA := hide (BV_append (Wr.enc ((S s).size : Int)) s)
  clear hl2 hs
  generalize Wr.enc ((S s).size : Int) = y at *
  have HO := hide (BV_one s)
  generalize S s = str at *
  go_enter Try.func17, Try.ntmps17
  go_wp2_with (first
    | (go_at_call 15; refine (unhide HE w).mono ?_; rintro e w1 ⟨v1, rfl, hown1, hb1⟩; obtain ⟨A5, c5, w5, hconv, hrd, hb5⟩ := unhide HC w1; have HO1 := hide (own_below hown1 hb5); have HR := hide hrd; have HB := hide (below_then hb1 hb5); clear hown1 hrd hb1 hb5)
    | (at_builtin; refine wpList_append_any _ rfl (.tmp 5) (.tmp 7) 28 rfl w.heap.size 5 i0 (.int .u8 0) 1 1 Try.underlying28 HI.out HZ0.out HZ1.out HZ2.out rfl (by omega) _ y.length (BV y) rfl HO1.out w5.heap.size (some A5) str.size c5 (BV s) rfl HR.out HO.out (by unfold maxLen; omega) (by omega) HB.out.size ?_; intro v2 w2 hown2 hgrow2 hat2; have HO2 := hide hown2; have HB2 := hide (HB.out.trans (below_grown hgrow2 HO1.out HB.out.size)); clear hown2 hgrow2 hat2))
  go_ret
  refine ⟨_, rfl, ?_, HB2.out⟩
  rw [HL.out, HA.out]
  exact HO2.out
set_option maxHeartbeats 1000000 in
set_option maxRecDepth 100000 in
/-- the reference's Ints -/
theorem refInts_any (A : Option Addr) (n c : Nat) (xs : List (Int)) (w : World) (hr : Reads w w.heap.size 1 A n (xs.map (Value.int .i64))) (hm : n ≤ 1048576) (hbig : (Wr.encL Wr.enc xs).length ≤ 1099511627776) (hx : ∀ x ∈ xs, Wr.inI x) :
    Calls Try.prog 19 #[.slice A n c] w fun e w' => ∃ v, e = .returned v ∧ w'.ownsRow w.heap.size 5 1 v (Wr.enc xs.length ++ Wr.encL Wr.enc xs).length (BV (Wr.enc xs.length ++ Wr.encL Wr.enc xs)) ∧ Below w.heap.size w w' := by
  obtain ⟨i0, hi, hz0, hz1, hz2⟩ := info_parts byteInfo
  have HI := hide hi
  have HZ0 := hide hz0
  have HZ1 := hide hz1
  have HZ2 := hide hz2
  clear hi hz0 hz1 hz2
  have hl : n = xs.length := by have := hr.1; simpa using this.symm
  have HE := hide (fun W => refInt_any (n : Int) W (by unfold Wr.inI; omega))
  rw [← hl]
  have e9 := Wr.enc_le (n : Int)
  have HS := hide hr
  have HN := hide hl
  clear hr hl
  generalize Wr.enc (n : Int) = y at *
  go_enter Try.func19, Try.ntmps19
  go_wp2_with (go_at_call 15; refine (unhide HE w).mono ?_; rintro e w1 ⟨v1, rfl, hown1, hb1⟩; have HO1 := hide hown1; have HB1 := hide hb1; clear hown1 hb1)
  go_loopw [3, 4] (fun v i wr => ∃ j : Nat, j ≤ n ∧ i = .int .i64 (j : Int) ∧ wr.ownsRow w.heap.size 5 1 v (y ++ Wr.encL Wr.enc (xs.take j)).length (BV (y ++ Wr.encL Wr.enc (xs.take j))) ∧ Below w.heap.size w wr) (fun _ i _ => n - (intOf i).toNat)
  case atStart =>
    refine ⟨0, Nat.zero_le _, rfl, ?_, HB1.out⟩
    rw [List.take_zero, Wr.encL_nil, List.append_nil]
    exact HO1.out
  case round =>
    obtain ⟨j, hj, rfl, hown, hb⟩ := hrel
    by_cases hlt : j < n
    · obtain ⟨ad, rfl, hx0, hc⟩ := reads_item HS.out j hlt
      have hjx : j < xs.length := by have := HN.out; omega
      have hc2 : w.cell? (ad.add j) = some (.int .i64 xs[j]) := by rw [hc]; simp
      have hcw : wr.cell? (ad.add j) = some (.int .i64 xs[j]) := by rw [hb.cell (block_lt_of_cell hc2)]; exact hc2
      have hle := Wr.encL_take_le Wr.enc xs j
      have hle2 := Wr.encL_take_le Wr.enc xs (j + 1)
      have hst := Wr.encL_take Wr.enc xs j hjx
      have hin := hx _ (List.getElem_mem hjx)
      have HK := hide (fun W => refInt_any xs[j] W hin)
      have hln : (y ++ Wr.encL Wr.enc (xs.take j)).length ≤ 1099511627785 := by rw [List.length_append]; omega
      have hln2 : (Wr.enc xs[j]).length ≤ 1099511627776 := by rw [hst, List.length_append] at hle2; omega
      have hpos : 1 ≤ (Wr.enc xs[j]).length := by exact Wr.enc_pos _
      have HST := hide hst
      have HA := hide (BV_append (y ++ Wr.encL Wr.enc (xs.take j)) (Wr.enc xs[j]))
      have HO := hide hown
      have HB := hide hb
      have H1 := hide (BV_one (Wr.enc xs[j]))
      clear hown hb hc hc2 hst hx0 hle hle2
      generalize hcur : y ++ Wr.encL Wr.enc (xs.take j) = cur at *
      generalize hnew : Wr.enc xs[j] = new at *
      go_wp2_with (first
        | (go_at_call 15; refine (unhide HK wr).mono ?_; rintro e w5 ⟨v5, rfl, hown5, hb5⟩; obtain ⟨g5, k5, rfl, hk5, hr5⟩ := own_form hown5 hpos; have HR5 := hide hr5; have HO5 := hide (own_below HO.out hb5); have HB5 := hide (below_then HB.out hb5); clear hown5 hr5 hb5)
        | (at_builtin; refine wpList_append_any _ rfl (.tmp 14) (.tmp 19) 28 rfl w.heap.size 5 i0 (.int .u8 0) 1 1 Try.underlying28 HI.out HZ0.out HZ1.out HZ2.out rfl (by omega) _ cur.length (BV cur) rfl HO5.out w5.heap.size (some ⟨g5, 0, none⟩) new.length k5 (BV new) rfl HR5.out H1.out (by unfold maxLen; omega) (by omega) HB5.out.size ?_; intro v6 w6 hown6 hgrow6 hat6; have HO6 := hide hown6; have HB6 := hide (HB5.out.trans (below_grown hgrow6 HO5.out HB5.out.size)); clear hown6 hgrow6 hat6))
      refine ⟨⟨j + 1, by omega, by go_num, ?_, HB6.out⟩, ?_⟩
      · rw [HST.out, ← List.append_assoc, hcur, List.length_append, HA.out]
        exact HO6.out
      · simp [intOf]; omega
    · obtain rfl : j = n := by omega
      have HO := hide hown
      have HB := hide hb
      clear hown hb
      go_wp2
      go_ret
      refine ⟨_, rfl, ?_, HB.out⟩
      have h := HO.out
      rwa [List.take_of_length_le (by have := HN.out; omega)] at h

set_option maxHeartbeats 1000000 in
set_option maxRecDepth 100000 in
/-- the reference's Strings -/
theorem refStrings_any (A : Option Addr) (n c : Nat) (xs : List (List UInt8)) (w : World) (hr : Reads w w.heap.size 1 A n (xs.map VS)) (hm : n ≤ 1048576) (hbig : (Wr.encL Wr.encB xs).length ≤ 1099511627776) :
    Calls Try.prog 21 #[.slice A n c] w fun e w' => ∃ v, e = .returned v ∧ w'.ownsRow w.heap.size 5 1 v (Wr.enc xs.length ++ Wr.encL Wr.encB xs).length (BV (Wr.enc xs.length ++ Wr.encL Wr.encB xs)) ∧ Below w.heap.size w w' := by
  obtain ⟨i0, hi, hz0, hz1, hz2⟩ := info_parts byteInfo
  have HI := hide hi
  have HZ0 := hide hz0
  have HZ1 := hide hz1
  have HZ2 := hide hz2
  clear hi hz0 hz1 hz2
  have hl : n = xs.length := by have := hr.1; simpa using this.symm
  have HE := hide (fun W => refInt_any (n : Int) W (by unfold Wr.inI; omega))
  rw [← hl]
  have e9 := Wr.enc_le (n : Int)
  have HS := hide hr
  have HN := hide hl
  clear hr hl
  generalize Wr.enc (n : Int) = y at *
  go_enter Try.func21, Try.ntmps21
  go_wp2_with (go_at_call 15; refine (unhide HE w).mono ?_; rintro e w1 ⟨v1, rfl, hown1, hb1⟩; have HO1 := hide hown1; have HB1 := hide hb1; clear hown1 hb1)
  go_loopw [3, 4] (fun v i wr => ∃ j : Nat, j ≤ n ∧ i = .int .i64 (j : Int) ∧ wr.ownsRow w.heap.size 5 1 v (y ++ Wr.encL Wr.encB (xs.take j)).length (BV (y ++ Wr.encL Wr.encB (xs.take j))) ∧ Below w.heap.size w wr) (fun _ i _ => n - (intOf i).toNat)
  case atStart =>
    refine ⟨0, Nat.zero_le _, rfl, ?_, HB1.out⟩
    rw [List.take_zero, Wr.encL_nil, List.append_nil]
    exact HO1.out
  case round =>
    obtain ⟨j, hj, rfl, hown, hb⟩ := hrel
    by_cases hlt : j < n
    · obtain ⟨ad, rfl, hx0, hc⟩ := reads_item HS.out j hlt
      have hjx : j < xs.length := by have := HN.out; omega
      have hc2 : w.cell? (ad.add j) = some (.string (S xs[j])) := by rw [hc]; simp [VS]
      have hcw : wr.cell? (ad.add j) = some (.string (S xs[j])) := by rw [hb.cell (block_lt_of_cell hc2)]; exact hc2
      have hle := Wr.encL_take_le Wr.encB xs j
      have hle2 := Wr.encL_take_le Wr.encB xs (j + 1)
      have hst := Wr.encL_take Wr.encB xs j hjx
      have HK := hide (show ∀ W : World, Calls Try.prog 17 #[.string (S xs[j])] W fun e w' => ∃ v, e = .returned v ∧ w'.ownsRow W.heap.size 5 1 v (Wr.encB xs[j]).length (BV (Wr.encB xs[j])) ∧ Below W.heap.size W w' from fun W => refBytes_any xs[j] W (by rw [hst, List.length_append, Wr.encB_len] at hle2; omega))
      have hln : (y ++ Wr.encL Wr.encB (xs.take j)).length ≤ 1099511627785 := by rw [List.length_append]; omega
      have hln2 : (Wr.encB xs[j]).length ≤ 1099511627776 := by rw [hst, List.length_append] at hle2; omega
      have hpos : 1 ≤ (Wr.encB xs[j]).length := by unfold Wr.encB; rw [List.length_append]; have := Wr.enc_pos (xs[j].length : Int); omega
      have HST := hide hst
      have HA := hide (BV_append (y ++ Wr.encL Wr.encB (xs.take j)) (Wr.encB xs[j]))
      have HO := hide hown
      have HB := hide hb
      have H1 := hide (BV_one (Wr.encB xs[j]))
      clear hown hb hc hc2 hst hx0 hle hle2
      generalize hcur : y ++ Wr.encL Wr.encB (xs.take j) = cur at *
      generalize hnew : Wr.encB xs[j] = new at *
      go_wp2_with (first
        | (go_at_call 17; refine (unhide HK wr).mono ?_; rintro e w5 ⟨v5, rfl, hown5, hb5⟩; obtain ⟨g5, k5, rfl, hk5, hr5⟩ := own_form hown5 hpos; have HR5 := hide hr5; have HO5 := hide (own_below HO.out hb5); have HB5 := hide (below_then HB.out hb5); clear hown5 hr5 hb5)
        | (at_builtin; refine wpList_append_any _ rfl (.tmp 14) (.tmp 19) 28 rfl w.heap.size 5 i0 (.int .u8 0) 1 1 Try.underlying28 HI.out HZ0.out HZ1.out HZ2.out rfl (by omega) _ cur.length (BV cur) rfl HO5.out w5.heap.size (some ⟨g5, 0, none⟩) new.length k5 (BV new) rfl HR5.out H1.out (by unfold maxLen; omega) (by omega) HB5.out.size ?_; intro v6 w6 hown6 hgrow6 hat6; have HO6 := hide hown6; have HB6 := hide (HB5.out.trans (below_grown hgrow6 HO5.out HB5.out.size)); clear hown6 hgrow6 hat6))
      refine ⟨⟨j + 1, by omega, by go_num, ?_, HB6.out⟩, ?_⟩
      · rw [HST.out, ← List.append_assoc, hcur, List.length_append, HA.out]
        exact HO6.out
      · simp [intOf]; omega
    · obtain rfl : j = n := by omega
      have HO := hide hown
      have HB := hide hb
      clear hown hb
      go_wp2
      go_ret
      refine ⟨_, rfl, ?_, HB.out⟩
      have h := HO.out
      rwa [List.take_of_length_le (by have := HN.out; omega)] at h
end Go.Proofs.Ytbkpnfejhaedhaa
