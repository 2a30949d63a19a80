/-
  The reference's Digests by its contract.
-/
import Derived.Test.YtbkpnfejhaedhaaRef4
namespace Go.Proofs.Ytbkpnfejhaedhaa
open Go.RowKit
set_option linter.unusedVariables false
set_option linter.unusedSimpArgs false

theorem flat_take (ds : List (List UInt8)) (k : Nat) (h : k < ds.length) : (ds.take (k + 1)).flatten = (ds.take k).flatten ++ ds[k] := by
  rw [List.take_succ_eq_append_getElem h, List.flatten_append]; simp

set_option maxHeartbeats 1000000 in
set_option maxRecDepth 100000 in
/-- the reference's Digests -/
theorem refDigests_any (A : Option Addr) (n c : Nat) (ds : List (List UInt8)) (w : World) (hr : Reads w w.heap.size 16 A n (BV ds.flatten)) (hm : n ≤ 1048576) (hd : ∀ d ∈ ds, d.length = 16) (hl : n = ds.length) :
    Calls Try.prog 23 #[.slice A n c] w fun e w' => ∃ v, e = .returned v ∧ w'.ownsRow w.heap.size 5 1 v (Wr.enc ds.length ++ ds.flatten).length (BV (Wr.enc ds.length ++ ds.flatten)) ∧ Below w.heap.size w w' := by
  obtain ⟨i0, hi, hz0, hz1, hz2⟩ := info_parts byteInfo
  have HI := hide hi
  have HZ0 := hide hz0
  have HZ1 := hide hz1
  have HZ2 := hide hz2
  clear hi hz0 hz1 hz2
  have HE := hide (fun W => refInt_any (n : Int) W (by unfold Wr.inI; omega))
  rw [← hl]
  have e9 := Wr.enc_le (n : Int)
  have hfl : ∀ k, (ds.take k).flatten.length ≤ 16 * 1048576 := fun k => by
    rw [flat_len (ds.take k) (fun d h => hd d (List.mem_of_mem_take h)), List.length_take]; omega
  have HS := hide hr
  have HN := hide hl
  have HD := hide hd
  have HF := hide hfl
  clear hr hl hd hfl
  generalize Wr.enc (n : Int) = y at *
  go_enter Try.func23, Try.ntmps23
  go_wp2_with (go_at_call 15; refine (unhide HE w).mono ?_; rintro e w1 ⟨v1, rfl, hown1, hb1⟩; have HO1 := hide hown1; have HB1 := hide hb1; clear hown1 hb1)
  go_loopw [3, 4] (fun v i wr => ∃ k : Nat, k ≤ n ∧ i = .int .i64 (k : Int) ∧ wr.ownsRow w.heap.size 5 1 v (y ++ (ds.take k).flatten).length (BV (y ++ (ds.take k).flatten)) ∧ Below w.heap.size w wr) (fun _ i _ => n - (intOf i).toNat)
  case atStart =>
    refine ⟨0, Nat.zero_le _, rfl, ?_, HB1.out⟩
    rw [List.take_zero, List.flatten_nil, List.append_nil]
    exact HO1.out
  case round =>
    obtain ⟨k, hk, rfl, hown, hb⟩ := hrel
    obtain ⟨wd, rfl⟩ : ∃ wd, wd = wr := ⟨wr, rfl⟩
    by_cases hlt : k < n
    · have hkd : k < ds.length := by have := HN.out; omega
      obtain ⟨b, o, rfl, hrange⟩ := digest_range HD.out HS.out HN.out k hkd
      have h16 : ds[k].length = 16 := HD.out _ (List.getElem_mem hkd)
      have hst := flat_take ds k hkd
      have hlk := HF.out k
      have HST := hide hst
      have HO := hide hown
      have HB := hide hb
      have HRG := hide hrange
      clear hown hb hst hrange
      generalize hcur : y ++ (ds.take k).flatten = cur at *
      have hcl : cur.length ≤ 16777225 := by rw [← hcur, List.length_append]; omega
      generalize hdk : ds[k] = dk at *
      go_wp2
      go_loopw [3, 5] (fun v i wr => ∃ j : Nat, j ≤ 16 ∧ i = .int .i64 (j : Int) ∧ wr.ownsRow w.heap.size 5 1 v (cur ++ dk.take j).length (BV (cur ++ dk.take j)) ∧ Below w.heap.size w wr) (fun _ i _ => 16 - (intOf i).toNat)
      case atStart =>
        refine ⟨0, by omega, rfl, ?_, HB.out⟩
        rw [List.take_zero, List.append_nil]
        exact HO.out
      case round =>
        obtain ⟨j, hj, rfl, hown, hb⟩ := hrel
        by_cases hjl : j < 16
        · have hjd : j < dk.length := by omega
          have hc0 : w.cell? ⟨b, o + k * 16 + j, none⟩ = some (.int .u8 ((dk[j].toNat : Nat) : Int)) := by
            have := HRG.out j _ (BV_get dk j hjd)
            exact this
          have hcw : wr.cell? ⟨b, o + k * 16 + j, none⟩ = some (.int .u8 ((dk[j].toNat : Nat) : Int)) := by rw [hb.cell (block_lt_of_cell hc0)]; exact hc0
          have hbyte : dk[j].toNat < 256 := dk[j].toNat_lt
          have hnext : dk.take (j + 1) = dk.take j ++ [dk[j]] := List.take_succ_eq_append_getElem hjd
          have hone : BV [dk[j]] = [.int .u8 ((dk[j].toNat : Nat) : Int)] := rfl
          have hwsz := hb.size
          have hln : (cur ++ dk.take j).length ≤ 16777241 := by rw [List.length_append, List.length_take]; omega
          have HX := hide hnext
          have H1 := hide hone
          have HO3 := hide hown
          have HB3 := hide hb
          clear hown hb hc0 hnext hone
          generalize dk[j] = cb at *
          have HA := hide (BV_append (cur ++ dk.take j) [cb])
          generalize hcj : cur ++ dk.take j = cj at *
          go_wp2_with (at_builtin; refine wpList_append_any _ rfl (.tmp 19) (.tmp 26) 28 rfl w.heap.size 5 i0 (.int .u8 0) 1 1 Try.underlying28 HI.out HZ0.out HZ1.out HZ2.out rfl (by omega) _ cj.length (BV cj) rfl (HO3.out.alloc _) _ (some ⟨wr.heap.size, 0, none⟩) 1 1 [.int .u8 ((cb.toNat : Nat) : Int)] rfl (reads_new wr _ _) (by simp [Value.oneCell']) (by unfold maxLen; omega) (by omega) (by simp; omega) ?_; intro v5 w5 hown5 hgrow5 hat5; have HO5 := hide hown5; have HB5 := hide ((HB3.out.trans (below_alloc' wr _ hwsz)).trans (below_grown hgrow5 (HO3.out.alloc _) (by simp; omega))); clear hown5 hgrow5 hat5)
          refine ⟨⟨j + 1, by omega, by go_num, ?_, HB5.out⟩, ?_⟩
          · rw [HX.out, ← List.append_assoc, hcj, List.length_append, HA.out, H1.out]
            exact HO5.out
          · simp [intOf]; omega
        · obtain rfl : j = 16 := by omega
          have HO3 := hide hown
          have HB3 := hide hb
          clear hown hb
          go_wp2
          refine ⟨⟨k + 1, by omega, by go_num, ?_, HB3.out⟩, ?_⟩
          · have h := HO3.out
            rw [List.take_of_length_le (by omega)] at h
            rw [HST.out, ← List.append_assoc, hcur]
            exact h
          · simp [intOf]; omega
    · obtain rfl : k = n := by omega
      have HO := hide hown
      have HB := hide hb
      clear hown hb
      go_wp2
      go_ret
      refine ⟨_, rfl, ?_, HB.out⟩
      have h := HO.out
      rwa [List.take_of_length_le (by have := HN.out; omega)] at h
end Go.Proofs.Ytbkpnfejhaedhaa
