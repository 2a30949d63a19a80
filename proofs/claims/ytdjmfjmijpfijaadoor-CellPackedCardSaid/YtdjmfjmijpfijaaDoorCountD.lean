/-
  Cells: Count; Equal, SameRaster of the reference at equal arguments; Few; by contract.
-/
import Derived.Test.YtdjmfjmijpfijaaDoorCountC
namespace Go.Proofs.YtdjmfjmijpfijaaDoor
open Go.RowKit
set_option linter.unusedVariables false
set_option linter.unusedSimpArgs false
set_option maxHeartbeats 1000000 in
set_option maxRecDepth 100000 in
theorem count_any (A : Option Addr) (n c : Nat) (ls : List (List UInt8)) (w : World) (hp : Pg w w.heap.size A n ls) (hn : n ≤ 1048576) (hll : ∀ l ∈ ls, l.length ≤ 1048576) :
    Calls Tryd.prog 7 #[.slice A n c] w fun e w' => e = .returned (.tuple #[.int .i64 (Ce.nzs ls : Int), .int .i64 (Ce.nds ls : Int)]) ∧ w = w' := by
  have HP := hide hp
  have HLL := hide hll
  have hnl : n = ls.length := by obtain ⟨_, _, h, _⟩ := hp; exact h.symm
  have HNL := hide hnl
  have hn0 : (n : Int) ≤ 1048576 := by omega
  have CN := hide number_any
  clear hp hll hnl
  go_enter Tryd.func7, Tryd.ntmps7
  go_wp2
  go_loopw [12, 4, 5] (fun s12 s4 s5 wr => ∃ k : Nat, k ≤ n ∧ s12 = .int .i64 (k : Int) ∧ s4 = .int .i64 ((Ce.nzs (ls.take k) : Nat) : Int) ∧ s5 = .int .i64 ((Ce.nds (ls.take k) : Nat) : Int) ∧ w = wr) (fun s12 _ _ _ => n - (intOf s12).toNat)
  case atStart => exact ⟨0, by omega, rfl, rfl, rfl, by first | rfl | trivial⟩
  case round =>
    obtain ⟨k, hk, rfl, rfl, rfl, rfl⟩ := hrel
    by_cases hlt : k < n
    · obtain ⟨ad, rfl, hkl, A', c', hc, hc', hr⟩ := HP.out.row k hlt
      have hk0 : (0 : Int) ≤ (k : Int) := by omega
      have hk1 : (k : Int) < (n : Int) := by omega
      have HT := hide (List.take_succ_eq_append_getElem hkl)
      have hlen := HLL.out _ (List.getElem_mem hkl)
      have hzb := Ce.nzs_le 1048576 (ls.take k) (fun l h => HLL.out l (List.mem_of_mem_take h))
      have hdb := Ce.nds_le 1048576 (ls.take k) (fun l h => HLL.out l (List.mem_of_mem_take h))
      have htl : (ls.take k).length ≤ 1048576 := by rw [List.length_take]; omega
      have HR := hide hr
      have HLT := hide hlt
      obtain ⟨l, hl⟩ : ∃ l, l = ls[k] := ⟨_, rfl⟩
      rw [← hl] at hc HT hlen HR
      obtain ⟨len, hln⟩ : ∃ len, len = l.length := ⟨_, rfl⟩
      rw [← hln] at hc hlen HR
      have HLN := hide hln
      have hZ := hide (show Ce.nzs (ls.take (k + 1)) = Ce.nzs (ls.take k) + Ce.nz l by rw [HT.out, Ce.nzs_snoc])
      have hD := hide (show Ce.nds (ls.take (k + 1)) = Ce.nds (ls.take k) + Ce.nd l by rw [HT.out, Ce.nds_snoc])
      have hzl : Ce.nzs (ls.take k) ≤ 1099511627776 := Nat.le_trans hzb (Nat.le_trans (Nat.mul_le_mul_left _ htl) (by decide))
      have hdl : Ce.nds (ls.take k) ≤ 6597069766656 := Nat.le_trans hdb (Nat.le_trans (Nat.mul_le_mul_left _ htl) (by decide))
      generalize Ce.nzs (ls.take k) = z0 at *
      generalize Ce.nds (ls.take k) = d0 at *
      clear hl hr hc' hlt hln hzb hdb htl HT
      clear hkl
      go_wp2
      go_loopw [18, 4, 5] (fun s18 s4 s5 wr => ∃ j : Nat, j ≤ len ∧ s18 = .int .i64 (j : Int) ∧ s4 = .int .i64 ((z0 + Ce.nz (l.take j) : Nat) : Int) ∧ s5 = .int .i64 ((d0 + Ce.nd (l.take j) : Nat) : Int) ∧ w = wr) (fun s18 _ _ _ => len - (intOf s18).toNat)
      case atStart => exact ⟨0, by omega, rfl, rfl, rfl, by first | rfl | trivial⟩
      case round =>
        clear hc
        obtain ⟨j, hj, rfl, rfl, rfl, rfl⟩ := hrel
        by_cases hlt : j < len
        · obtain ⟨bd, rfl, hjl, hc⟩ := reads_byte HR.out j hlt
          have hj0 : (0 : Int) ≤ (j : Int) := by omega
          have hj1 : (j : Int) < (len : Int) := by omega
          have HT := hide (List.take_succ_eq_append_getElem hjl)
          have C1 := hide (CN.out l[j])
          have h6 := Ce.num_le l[j].toNat
          have hzb := Ce.nz_le (l.take j)
          have hdb := Ce.nd_le (l.take j)
          have htl : (l.take j).length ≤ 1048576 := by rw [List.length_take]; omega
          have hZ2 := hide (show Ce.nz (l.take (j + 1)) = Ce.nz (l.take j) + (if l[j].toNat = 0 then 0 else 1) by rw [HT.out, Ce.nz_snoc])
          have hD2 := hide (show Ce.nd (l.take (j + 1)) = Ce.nd (l.take j) + Ce.num l[j].toNat by rw [HT.out, Ce.nd_snoc])
          have HLT2 := hide hlt
          generalize Ce.nz (l.take j) = z1 at *
          generalize Ce.nd (l.take j) = d1 at *
          generalize Ce.num l[j].toNat = q at *
          generalize l[j].toNat = x at *
          have hz0 : (0 : Int) ≤ ((z0 + z1 : Nat) : Int) := by omega
          have hz1 : ((z0 + z1 : Nat) : Int) ≤ 2199023255552 := by omega
          have hd0 : (0 : Int) ≤ ((d0 + d1 : Nat) : Int) := by omega
          have hd1 : ((d0 + d1 : Nat) : Int) ≤ 13194139533312 := by omega
          have hq0 : (0 : Int) ≤ (q : Int) := by omega
          have hq1 : (q : Int) ≤ 6 := by omega
          have HZ3 := hide (show ((z0 + (z1 + 1) : Nat) : Int) = ((z0 + z1 : Nat) : Int) + 1 by omega)
          have HD3 := hide (show ((d0 + (d1 + q) : Nat) : Int) = ((d0 + d1 : Nat) : Int) + (q : Int) by omega)
          clear hlt hjl hzb hdb htl HT h6
          by_cases hx : x = 0
          · rw [if_pos hx] at hZ2
            subst hx
            have hne : (((0 : Nat) : Int) != 0) = false := by simp
            rw [show ((0 : Nat) : Int) = 0 from rfl] at hc
            have C2 := hide (show Calls Tryd.prog 19 #[.int .u8 0] w _ from unhide C1 w)
            generalize hzz : ((z0 + z1 : Nat) : Int) = zz at *
            have HZZ := hide hzz
            clear hzz
            generalize ((d0 + d1 : Nat) : Int) = dd at *
            go_wp2_with (go_at_call 19; refine (unhide C2).mono ?_; rintro e w1 ⟨rfl, rfl⟩)
            exact ⟨⟨j + 1, HLT2.out, by go_num, by rw [hZ2.out, Nat.add_zero, HZZ.out], by rw [hD2.out, HD3.out], by first | rfl | trivial⟩, by have := HLT2.out; simp [intOf]; omega⟩
          · rw [if_neg hx] at hZ2
            have hx1 : ¬ ((x : Int) = 0) := by omega
            have hne : ((x : Int) != 0) = true := by rw [bne_iff_ne]; omega
            generalize ((z0 + z1 : Nat) : Int) = zz at *
            generalize ((d0 + d1 : Nat) : Int) = dd at *
            go_wp2_with (go_at_call 19; refine (unhide C1 w).mono ?_; rintro e w1 ⟨rfl, rfl⟩)
            exact ⟨⟨j + 1, HLT2.out, by go_num, by rw [hZ2.out, HZ3.out], by rw [hD2.out, HD3.out], by first | rfl | trivial⟩, by have := HLT2.out; simp [intOf]; omega⟩
        · obtain rfl : j = len := by omega
          have htk : l.take j = l := List.take_of_length_le (by have := HLN.out; omega)
          rw [htk, ← hZ.out, ← hD.out]
          clear hlt htk
          go_wp2
          exact ⟨⟨k + 1, HLT.out, by go_num, rfl, rfl, by first | rfl | trivial⟩, by have := HLT.out; simp [intOf]; omega⟩
    · obtain rfl : k = n := by omega
      have htk : ls.take k = ls := List.take_of_length_le (by have := HNL.out; omega)
      rw [htk]
      go_wp2
      go_ret2
      exact ⟨rfl, by first | rfl | trivial⟩

set_option maxHeartbeats 1000000 in
set_option maxRecDepth 100000 in
/-- Equal at equal pages -/
theorem equal_eq (A B : Option Addr) (n c d : Nat) (ls : List (List UInt8)) (w : World) (ha : Pg w w.heap.size A n ls) (hb : Pg w w.heap.size B n ls) (hn : n ≤ 1048576) (hll : ∀ l ∈ ls, l.length ≤ 1048576) :
    Calls Tryd.prog 32 #[.slice A n c, .slice B n d] w fun e w' => e = .returned (.bool true) ∧ Below w.heap.size w w' := by
  have hn0 : ((n : Int) != n) = false := by simp
  have HA := hide ha
  have HB := hide hb
  have HLL := hide hll
  have HRF := hide (Below.refl w.heap.size w)
  have hni : (n : Int) ≤ 1048576 := by omega
  clear ha hb hll
  go_enter Tryd.func32, Tryd.ntmps32
  go_wp2
  go_loopw [5] (fun s wr => ∃ k m : Nat, k ≤ n ∧ s = .int .i64 (k : Int) ∧ wr = w.drewN m) (fun s _ => n - (intOf s).toNat)
  case atStart => exact ⟨0, 0, Nat.zero_le _, rfl, rfl⟩
  case round =>
    obtain ⟨k, m, hk, rfl, hwr⟩ := hrel
    subst hwr
    by_cases hlt : k < n
    · obtain ⟨ad, rfl, hkl, A', c1, hca, _, hra⟩ := HA.out.row k hlt
      obtain ⟨bd, rfl, _, B', c2, hcb, _, hrb⟩ := HB.out.row k hlt
      have hlen := HLL.out _ (List.getElem_mem hkl)
      have C := hide (fun m' => same_eq A' B' ls[k].length c1 c2 ls[k] (w.drewN m') hra hrb (by unfold maxLen; omega))
      have hk0 : (0 : Int) ≤ (k : Int) := by omega
      have hk1 : (k : Int) < (n : Int) := by omega
      have HLT := hide hlt
      generalize ls[k].length = len at *
      clear hra hrb hlt hlen
      clear hkl
      go_wp2
      go_quiet ((go_at_call 40; exact quiet_add (unhide C _)))
      go_wp2
      exact ⟨⟨k + 1, _, HLT.out, by go_num, rfl⟩, by have := HLT.out; simp [intOf]; omega⟩
    · obtain rfl : k = n := by omega
      go_wp2
      go_ret
      exact ⟨rfl, below_drewN HRF.out _⟩
set_option maxHeartbeats 1000000 in
set_option maxRecDepth 100000 in
/-- SameRaster at equal rasters -/
theorem sameRaster_eq (va vb : Value) (r : Ce.Rast) (w : World) (ha : RastAt w va r) (hb : RastAt w vb r) (hn : r.bits.length ≤ 1048576) :
    Calls Tryd.prog 33 #[va, vb] w fun e w' => e = .returned (.bool true) ∧ Below w.heap.size w w' := by
  obtain ⟨A, n, c, rfl, _, hra⟩ := ha
  obtain ⟨B, n', d, rfl, _, hrb⟩ := hb
  have e1 : n = r.bits.length := by have := hra.1; simpa using this.symm
  have e2 : n' = r.bits.length := by have := hrb.1; simpa using this.symm
  obtain rfl : n = n' := by omega
  have hnn : ((n : Int) != n) = false := by simp
  have hWW : (((r.W : Nat) : Int) != ((r.W : Nat) : Int)) = false := by simp
  have hHH : (((r.H : Nat) : Int) != ((r.H : Nat) : Int)) = false := by simp
  have hni : (n : Int) ≤ 1048576 := by omega
  generalize ((r.W : Nat) : Int) = W at *
  generalize ((r.H : Nat) : Int) = H at *
  have HA := hide hra
  have HB := hide hrb
  clear hra hrb hn e1 e2
  go_enter Tryd.func33, Tryd.ntmps33
  go_upto_region 1 with fail
  refine name_world fun V hV => ?_
  have HA1 := hide (show Blk V w.heap.size 37 #[.int .i64 W, .int .i64 H, .slice A n c] by rw [← hV.out]; exact (Blk.new w _ _).alloc _)
  have HB1 := hide (show Blk V (w.heap.size + 1) 37 #[.int .i64 W, .int .i64 H, .slice B n d] by
    rw [← hV.out]
    have := Blk.new (w.alloc (.cells #[.int .i64 W, .int .i64 H, .slice A n c] 37)) 37 #[.int .i64 W, .int .i64 H, .slice B n d]
    rwa [show (w.alloc (.cells #[.int .i64 W, .int .i64 H, .slice A n c] 37)).heap.size = w.heap.size + 1 by simp] at this)
  have HV := hide (show Below w.heap.size w V by rw [← hV.out]; exact (below_alloc w _).alloc (by simp) _)
  clear hV
  have ha0 : V.cell? ⟨w.heap.size, 0, none⟩ = some (.int .i64 W) := HA1.out.cell 0
  have ha1 : V.cell? ⟨w.heap.size, 1, none⟩ = some (.int .i64 H) := HA1.out.cell 1
  have ha2 : V.cell? ⟨w.heap.size, 2, none⟩ = some (.slice A n c) := HA1.out.cell 2
  have hb0 : V.cell? ⟨w.heap.size + 1, 0, none⟩ = some (.int .i64 W) := HB1.out.cell 0
  have hb1 : V.cell? ⟨w.heap.size + 1, 1, none⟩ = some (.int .i64 H) := HB1.out.cell 1
  have hb2 : V.cell? ⟨w.heap.size + 1, 2, none⟩ = some (.slice B n d) := HB1.out.cell 2
  go_wp2
  go_loopw [5] (fun s wr => ∃ k m : Nat, k ≤ n ∧ s = .int .i64 (k : Int) ∧ wr = V.drewN m) (fun s _ => n - (intOf s).toNat)
  case atStart => exact ⟨0, 0, Nat.zero_le _, rfl, rfl⟩
  case round =>
    obtain ⟨k, m, hk, rfl, hwr⟩ := hrel
    subst hwr
    by_cases hlt : k < n
    · obtain ⟨ad, rfl, hkl, hca0⟩ := reads_item HA.out k hlt
      obtain ⟨bd, rfl, _, hcb0⟩ := reads_item HB.out k hlt
      have hca : V.cell? (ad.add k) = some (.bool (r.bits[k]'(by simpa using hkl))) := by rw [HV.out.cell (block_lt_of_cell hca0), hca0]; simp
      have hcb : V.cell? (bd.add k) = some (.bool (r.bits[k]'(by simpa using hkl))) := by rw [HV.out.cell (block_lt_of_cell hcb0), hcb0]; simp
      generalize r.bits[k]'(by simpa using hkl) = x at *
      have hx : (x != x) = false := by simp
      have hk0 : (0 : Int) ≤ (k : Int) := by omega
      have hk1 : (k : Int) < (n : Int) := by omega
      have HLT := hide hlt
      clear hlt hca0 hcb0
      go_wp2
      go_quiet (fail)
      go_wp2
      exact ⟨⟨k + 1, _, HLT.out, by go_num, rfl⟩, by have := HLT.out; simp [intOf]; omega⟩
    · obtain rfl : k = n := by omega
      go_wp2
      go_ret
      exact ⟨rfl, below_drewN HV.out _⟩
end Go.Proofs.YtdjmfjmijpfijaaDoor
