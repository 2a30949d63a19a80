/-
  Cells: plain words, and bit, Back, Dots of the code, Has, bit, Dots of the reference, by contract.
-/
import Derived.Test.YtdjmfjmijpfijaaBase
import Derived.Test.YtdjmfjmijpfijaaRef7
import Derived.Test.YtdjmfjmijpfijaaRef4
namespace Go.Proofs.Ytdjmfjmijpfijaa
open Go.RowKit
set_option linter.unusedVariables false
set_option linter.unusedSimpArgs false
namespace Ce
/-- is the dot k + 1 among those of a cell -/
def on (c k : Nat) : Bool := c / 2 ^ k % 2 == 1
/-- the dots up to one of them -/
def dotsTo (c i : Nat) : List Int := ((List.range i).filter (on c)).map fun k : Nat => 1 + (k : Int)
def dots (c : Nat) : List Int := dotsTo c 6
def back (c : Nat) : Nat := c / 8 % 8 + c % 8 * 8
theorem dotsTo_on (c i : Nat) (h : on c i = true) : dotsTo c (i + 1) = dotsTo c i ++ [1 + (i : Int)] := by
  unfold dotsTo
  rw [List.range_succ, List.filter_append, List.map_append]
  simp [h]
theorem dotsTo_off (c i : Nat) (h : on c i = false) : dotsTo c (i + 1) = dotsTo c i := by
  unfold dotsTo
  rw [List.range_succ, List.filter_append, List.map_append]
  simp [h]
theorem dotsTo_len (c : Nat) : ∀ i, (dotsTo c i).length ≤ i
  | 0 => Nat.le_refl _
  | i + 1 => by
    have := dotsTo_len c i
    cases h : on c i
    · rw [dotsTo_off c i h]; omega
    · rw [dotsTo_on c i h, List.length_append]; simp; omega
set_option maxRecDepth 100000 in
theorem and_bit (c k : Nat) (hc : c < 256) (hk : k < 8) : (c &&& 2 ^ k) = if on c k then 2 ^ k else 0 := by
  have H : ∀ k : Fin 8, ∀ c : Fin 256, (c.val &&& 2 ^ k.val) = if on c.val k.val then 2 ^ k.val else 0 := by decide +kernel
  exact H ⟨k, hk⟩ ⟨c, hc⟩
end Ce
theorem intInfo : (Try.prog.info? 3).map (fun i => (i.zero, i.size, i.bytes)) = some (some (.int .i64 0), 1, 8) := by kernel_rfl

set_option maxHeartbeats 400000 in
set_option maxRecDepth 100000 in
theorem bit_any (d : Nat) (w : World) (h6 : d < 6) :
    Calls Try.prog 36 #[.int .i64 (1 + (d : Int))] w fun e w' => e = .returned (.int .u8 ((2 ^ d : Nat) : Int)) ∧ w = w' := by
  obtain rfl | rfl | rfl | rfl | rfl | rfl : d = 0 ∨ d = 1 ∨ d = 2 ∨ d = 3 ∨ d = 4 ∨ d = 5 := by omega
  all_goals
    go_enter Try.func36, Try.ntmps36
    go_wp2
    go_ret
    exact ⟨by rfl, rfl⟩
set_option maxHeartbeats 400000 in
set_option maxRecDepth 100000 in
theorem back_any (c : UInt8) (w : World) :
    Calls Try.prog 25 #[.int .u8 ((c.toNat : Nat) : Int)] w fun e w' => e = .returned (.int .u8 ((Ce.back c.toNat : Nat) : Int)) ∧ w = w' := by
  have hc := c.toNat_lt
  unfold Ce.back
  generalize c.toNat = n at *
  have H : ∀ a b : Fin 8, bits .or .u8 ((a.val : Int) * 8) (b.val : Int) = ((b.val + a.val * 8 : Nat) : Int) := by decide +kernel
  have hb := H ⟨n % 8, by omega⟩ ⟨n / 8 % 8, by omega⟩
  simp only [] at hb
  rw [Int.natCast_emod, Int.natCast_emod, Int.natCast_ediv] at hb
  clear H
  go_enter Try.func25, Try.ntmps25
  go_wp2
  go_ret
  exact ⟨by show Ending.returned (Value.int IntKind.u8 _) = _; first | rfl | (congr 2; done), rfl⟩
set_option maxHeartbeats 1000000 in
set_option maxRecDepth 100000 in
theorem dots_any (c : UInt8) (w : World) :
    Calls Try.prog 27 #[.int .u8 ((c.toNat : Nat) : Int)] w fun e w' => ∃ v, e = .returned v ∧ w'.ownsRow w.heap.size 3 1 v (Ce.dots c.toNat).length ((Ce.dots c.toNat).map (Value.int .i64)) ∧ Below w.heap.size w w' := by
  obtain ⟨i0, hi, hz0, hz1, hz2⟩ := info_parts intInfo
  have HI := hide hi
  have HZ0 := hide hz0
  have HZ1 := hide hz1
  have HZ2 := hide hz2
  have hc := c.toNat_lt
  generalize c.toNat = n at *
  have HC := hide hc
  clear hi hz0 hz1 hz2 hc
  go_enter Try.func27, Try.ntmps27
  go_upto_region 3 with fail
  go_loopw [3, 5] (fun s3 s5 wr => ∃ i : Nat, i ≤ 6 ∧ s5 = .int .i64 (i : Int) ∧ wr.ownsRow w.heap.size 3 1 s3 (Ce.dotsTo n i).length ((Ce.dotsTo n i).map (Value.int .i64)) ∧ Below w.heap.size w wr) (fun _ s5 _ => 6 - (intOf s5).toNat)
  case atStart => exact ⟨0, by omega, rfl, World.ownsRow_nil _ _ _ _, Below.refl _ _⟩
  case round =>
    obtain ⟨i, hi, rfl, hown, hbel⟩ := hrel
    obtain ⟨wd, rfl⟩ : ∃ wd, wd = wr := ⟨wr, rfl⟩
    by_cases hlt : i < 6
    · have CB := hide (fun W => bit_any i W hlt)
      have hi0 : (0 : Int) ≤ (i : Int) := by omega
      have hi6 : (i : Int) < 6 := by omega
      have hp : 2 ^ i < 256 := by exact show 2 ^ i < 2 ^ 8 from Nat.pow_lt_pow_right (by omega) (by omega)
      have hand := u8_and_nat n (2 ^ i) HC.out hp
      rw [Ce.and_bit n i HC.out (by omega)] at hand
      have hpp : (2 ^ i : Nat) ≠ 0 := by have := Nat.one_le_two_pow (n := i); omega
      have hlen := Ce.dotsTo_len n i
      cases hon : Ce.on n i with
      | true =>
        have hd := Ce.dotsTo_on n i hon
        rw [hon, if_pos rfl] at hand
        generalize 2 ^ i = p at *
        have HLT := hide hlt
        have HD := hide hd
        have HO := hide hown
        have HB := hide hbel
        have hsz := hbel.size
        have hp0 : ¬ ((p : Int) = 0) := by omega
        clear hon hd hown hbel hlt hp hpp
        generalize Ce.dotsTo n i = cur at *
        go_wp2_with (first
          | (go_at_call 36; refine (CB.out _).mono ?_; rintro e w1 ⟨rfl, rfl⟩)
          | (at_builtin; refine wpList_append_any _ rfl (.tmp 14) (.tmp 17) 22 rfl w.heap.size 3 i0 (.int .i64 0) 1 8 Try.underlying22 HI.out HZ0.out HZ1.out HZ2.out rfl (by omega) _ cur.length (cur.map (Value.int .i64)) rfl (HO.out.alloc _) _ (some ⟨wd.heap.size, 0, none⟩) 1 1 [.int .i64 (1 + (i : Int))] rfl (reads_new wd _ _) (by simp [Value.oneCell']) (by unfold maxLen; omega) (by omega) (by simp; omega) ?_; intro v2 w2 hown2 hgrow2 hat2; have HO2 := hide hown2; have HB2 := hide (HB.out.trans ((below_alloc' wd _ (Nat.le_refl _)).mono hsz |>.trans (below_grown hgrow2 (HO.out.alloc _) (by simp; omega)))); clear hown2 hgrow2 hat2))
        exact ⟨⟨i + 1, HLT.out, by go_num, by rw [HD.out, List.length_append, List.map_append]; exact HO2.out, HB2.out⟩, by have := HLT.out; simp [intOf]; omega⟩
      | false =>
        have hd := Ce.dotsTo_off n i hon
        rw [hon, if_neg (by simp)] at hand
        generalize 2 ^ i = p at *
        have HLT := hide hlt
        have HD := hide hd
        have HO := hide hown
        have HB := hide hbel
        clear hon hd hown hbel hlt hp hpp
        generalize Ce.dotsTo n i = cur at *
        go_wp2_with (first
          | (go_at_call 36; refine (CB.out _).mono ?_; rintro e w1 ⟨rfl, rfl⟩))
        exact ⟨⟨i + 1, HLT.out, by go_num, by rw [HD.out]; exact HO.out, HB.out⟩, by have := HLT.out; simp [intOf]; omega⟩
    · obtain rfl : i = 6 := by omega
      have HO := hide hown
      have HB := hide hbel
      clear hown hbel
      go_wp2
      go_ret
      exact ⟨_, rfl, HO.out, HB.out⟩

/-- of the reference -/
theorem half_pow (c j : Nat) : c / 2 ^ j / 2 = c / 2 ^ (j + 1) := by rw [Nat.pow_succ, Nat.div_div_eq_div_mul]
end Go.Proofs.Ytdjmfjmijpfijaa
