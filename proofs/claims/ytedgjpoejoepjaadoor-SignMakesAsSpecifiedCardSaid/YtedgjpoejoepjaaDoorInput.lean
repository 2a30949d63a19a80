/-
  The input of a digest of parts, and its digest, by the reference: by contract.
-/
import Derived.Test.YtedgjpoejoepjaaDoorRefMac
namespace Go.Proofs.YtedgjpoejoepjaaDoor
open Go.RowKit
set_option linter.unusedVariables false
set_option linter.unusedSimpArgs false

/-- a tag as a byte -/
def tagB (z : Int) : UInt8 := UInt8.ofNat (z % 256).toNat
theorem tagB_is (z : Int) : IntKind.u8.wrap z = ((tagB z).toNat : Int) := by
  rw [IntKind.wrap_u8']
  unfold tagB
  rw [UInt8.toNat_ofNat']
  omega
/-- the input of a digest -/
def inputOf (z : Int) (xs : List (List UInt8)) : List UInt8 := tagB z :: Wr.encL Wr.encB xs

set_option maxHeartbeats 1000000 in
set_option maxRecDepth 100000 in
theorem input_any (z : Int) (A : Option Addr) (n c : Nat) (xs : List (List UInt8)) (w : World) (hr : Reads w w.heap.size 1 A n (xs.map VS)) (hm : n ≤ 1048576) (hbig : (Wr.encL Wr.encB xs).length ≤ 1099511627700) :
    Calls Tryd.prog 57 #[.int .i64 z, .slice A n c] w fun e w' => ∃ v, e = .returned v ∧ w'.ownsRow w.heap.size 5 1 v (inputOf z xs).length (BV (inputOf z xs)) ∧ Below w.heap.size w w' := by
  obtain ⟨i0, hi, hz0, hz1, hz2⟩ := info_parts byteInfo
  have HI := hide hi
  have HZ0 := hide hz0
  have HZ1 := hide hz1
  have HZ2 := hide hz2
  clear hi hz0 hz1 hz2
  have hl : n = xs.length := by have := hr.1; simpa using this.symm
  have HS := hide hr
  have HN := hide hl
  have htg := tagB_is z
  have hby := (tagB z).toNat_lt
  have HIN := hide (show inputOf z xs = [tagB z] ++ Wr.encL Wr.encB xs from rfl)
  have HO1 := hide (show (w.alloc (.cells #[.int .u8 ((tagB z).toNat : Int)] 5)).ownsRow w.heap.size 5 1 (.slice (some ⟨w.heap.size, 0, none⟩) 1 1) 1 (BV [tagB z]) from ⟨rfl, .inr ⟨w.heap.size, 1, #[.int .u8 ((tagB z).toNat : Int)], rfl, Nat.le_refl _, heap_alloc_new w _, Nat.le_refl _, by unfold maxLen; omega, rfl, rfl⟩⟩)
  have HB1 := hide (below_alloc w (.cells #[.int .u8 ((tagB z).toNat : Int)] 5))
  generalize tagB z = y at *
  clear hr hl
  go_enter Tryd.func57, Tryd.ntmps57
  go_wp2_with fail
  clear htg
  go_loopw [5, 6] (fun v i wr => ∃ j : Nat, j ≤ n ∧ i = .int .i64 (j : Int) ∧ wr.ownsRow w.heap.size 5 1 v ([y] ++ Wr.encL Wr.encB (xs.take j)).length (BV ([y] ++ Wr.encL Wr.encB (xs.take j))) ∧ Below w.heap.size w wr) (fun _ i _ => n - (intOf i).toNat)
  case atStart =>
    refine ⟨0, Nat.zero_le _, rfl, ?_, HB1.out⟩
    rw [List.take_zero, Wr.encL_nil, List.append_nil]
    exact HO1.out
  case round =>
    obtain ⟨j, hj, rfl, hown, hb⟩ := hrel
    by_cases hlt : j < n
    · obtain ⟨ad, rfl, hx0, hc⟩ := reads_item HS.out j hlt
      have hjx : j < xs.length := by have := HN.out; omega
      have hc2 : w.cell? (ad.add j) = some (.string (S xs[j])) := by rw [hc]; simp [VS]
      have hcw : wr.cell? (ad.add j) = some (.string (S xs[j])) := by rw [hb.cell (block_lt_of_cell hc2)]; exact hc2
      have hle := Wr.encL_take_le Wr.encB xs j
      have hle2 := Wr.encL_take_le Wr.encB xs (j + 1)
      have hst := Wr.encL_take Wr.encB xs j hjx
      have HK := hide (show ∀ W : World, Calls Tryd.prog 67 #[.string (S xs[j])] W fun e w' => ∃ v, e = .returned v ∧ w'.ownsRow W.heap.size 5 1 v (Wr.encB xs[j]).length (BV (Wr.encB xs[j])) ∧ Below W.heap.size W w' from fun W => refBytes_any xs[j] W (by rw [hst, List.length_append, Wr.encB_len] at hle2; omega))
      have hln : ([y] ++ Wr.encL Wr.encB (xs.take j)).length ≤ 1099511627785 := by rw [List.length_append]; simp; omega
      have hln2 : (Wr.encB xs[j]).length ≤ 1099511627776 := by rw [hst, List.length_append] at hle2; omega
      have hpos : 1 ≤ (Wr.encB xs[j]).length := by unfold Wr.encB; rw [List.length_append]; have := Wr.enc_pos (xs[j].length : Int); omega
      have HST := hide hst
      have HA := hide (BV_append ([y] ++ Wr.encL Wr.encB (xs.take j)) (Wr.encB xs[j]))
      have HO := hide hown
      have HB := hide hb
      have H1 := hide (BV_one (Wr.encB xs[j]))
      clear hown hb hc hc2 hst hx0 hle hle2
      generalize hcur : [y] ++ Wr.encL Wr.encB (xs.take j) = cur at *
      generalize hnew : Wr.encB xs[j] = new at *
      have HCUR := hide hcur
      clear hcur hnew
      go_wp2_with (first
        | (go_at_call 67; refine (unhide HK wr).mono ?_; rintro e w5 ⟨v5, rfl, hown5, hb5⟩; obtain ⟨g5, k5, rfl, hk5, hr5⟩ := own_form hown5 hpos; have HR5 := hide hr5; have HO5 := hide (own_below HO.out hb5); have HB5 := hide (below_then HB.out hb5); clear hown5 hr5 hb5)
        | (at_builtin; refine wpList_append_any _ rfl (.tmp 16) (.tmp 21) 51 rfl w.heap.size 5 i0 (.int .u8 0) 1 1 Tryd.underlying51 HI.out HZ0.out HZ1.out HZ2.out rfl (by omega) _ cur.length (BV cur) rfl HO5.out w5.heap.size (some ⟨g5, 0, none⟩) new.length k5 (BV new) rfl HR5.out H1.out (by unfold maxLen; omega) (by omega) HB5.out.size ?_; intro v6 w6 hown6 hgrow6 hat6; have HO6 := hide hown6; have HB6 := hide (HB5.out.trans (below_grown hgrow6 HO5.out HB5.out.size)); clear hown6 hgrow6 hat6))
      refine ⟨⟨j + 1, by omega, by go_num, ?_, HB6.out⟩, ?_⟩
      · rw [HST.out, ← List.append_assoc, HCUR.out, List.length_append, HA.out]
        exact HO6.out
      · simp [intOf]; omega
    · obtain rfl : j = n := by omega
      have HO := hide hown
      have HB := hide hb
      clear hown hb
      go_wp2
      go_ret
      refine ⟨_, rfl, ?_, HB.out⟩
      have h := HO.out
      rw [List.take_of_length_le (by have := HN.out; omega), ← HIN.out] at h
      exact h
end Go.Proofs.YtedgjpoejoepjaaDoor
