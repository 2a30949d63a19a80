/-
  Cells: Count, Same of the reference; by contract.
-/
import Derived.Test.YtdjmfjmijpfijaaDoorFitsC
namespace Go.Proofs.YtdjmfjmijpfijaaDoor
open Go.RowKit
set_option linter.unusedVariables false
set_option linter.unusedSimpArgs false
set_option maxHeartbeats 1000000 in
set_option maxRecDepth 100000 in
theorem refCount_any (A : Option Addr) (n c : Nat) (ls : List (List UInt8)) (w : World) (hp : Pg w w.heap.size A n ls) (hn : n ≤ 1048576) (hll : ∀ l ∈ ls, l.length ≤ 1048576) :
    Calls Tryd.prog 8 #[.slice A n c] w fun e w' => e = .returned (.tuple #[.int .i64 (Ce.nzs ls : Int), .int .i64 (Ce.nds ls : Int)]) ∧ Below w.heap.size w w' := by
  have HP := hide hp
  have HLL := hide hll
  have hnl : n = ls.length := by obtain ⟨_, _, h, _⟩ := hp; exact h.symm
  have HNL := hide hnl
  have hn0 : (n : Int) ≤ 1048576 := by omega
  have CN := hide (fun (b : UInt8) (W : World) => refDots_any b W)
  have HREF := hide (Below.refl w.heap.size w)
  clear hp hll hnl
  go_enter Tryd.func8, Tryd.ntmps8
  go_wp2
  go_loopw [6, 4, 5] (fun s6 s4 s5 wr => ∃ k : Nat, k ≤ n ∧ s6 = .int .i64 (k : Int) ∧ s4 = .int .i64 ((Ce.nzs (ls.take k) : Nat) : Int) ∧ s5 = .int .i64 ((Ce.nds (ls.take k) : Nat) : Int) ∧ Below w.heap.size w wr) (fun s6 _ _ _ => n - (intOf s6).toNat)
  case atStart => exact ⟨0, by omega, rfl, rfl, rfl, HREF.out⟩
  case round =>
    obtain ⟨k, hk, rfl, rfl, rfl, hbel⟩ := hrel
    obtain ⟨wd, rfl⟩ : ∃ wd, wd = wr := ⟨wr, rfl⟩
    have HB := hide hbel
    by_cases hlt : k < n
    · obtain ⟨ad, rfl, hkl, A', c', hc0, hc', hr⟩ := HP.out.row k hlt
      have hk0 : (0 : Int) ≤ (k : Int) := by omega
      have hk1 : (k : Int) < (n : Int) := by omega
      have HT := hide (List.take_succ_eq_append_getElem hkl)
      have hlen := HLL.out _ (List.getElem_mem hkl)
      have hzb := Ce.nzs_le 1048576 (ls.take k) (fun l h => HLL.out l (List.mem_of_mem_take h))
      have hdb := Ce.nds_le 1048576 (ls.take k) (fun l h => HLL.out l (List.mem_of_mem_take h))
      have htl : (ls.take k).length ≤ 1048576 := by rw [List.length_take]; omega
      have HR := hide hr
      have HLT := hide hlt
      obtain ⟨l, hl⟩ : ∃ l, l = ls[k] := ⟨_, rfl⟩
      rw [← hl] at hc0 HT hlen HR
      obtain ⟨len, hln⟩ : ∃ len, len = l.length := ⟨_, rfl⟩
      rw [← hln] at hc0 hlen HR
      have HLN := hide hln
      have HC0 := hide hc0
      have hZ := hide (show Ce.nzs (ls.take (k + 1)) = Ce.nzs (ls.take k) + Ce.nz l by rw [HT.out, Ce.nzs_snoc])
      have hD := hide (show Ce.nds (ls.take (k + 1)) = Ce.nds (ls.take k) + Ce.nd l by rw [HT.out, Ce.nds_snoc])
      have hzl : Ce.nzs (ls.take k) ≤ 1099511627776 := Nat.le_trans hzb (Nat.le_trans (Nat.mul_le_mul_left _ htl) (by decide))
      have hdl : Ce.nds (ls.take k) ≤ 6597069766656 := Nat.le_trans hdb (Nat.le_trans (Nat.mul_le_mul_left _ htl) (by decide))
      generalize Ce.nzs (ls.take k) = z0 at *
      generalize Ce.nds (ls.take k) = d0 at *
      clear hl hr hc' hlt hln hzb hdb htl HT hbel
      clear hkl
      go_wp2
      go_loopw [7, 4, 5] (fun s7 s4 s5 wr => ∃ j : Nat, j ≤ len ∧ s7 = .int .i64 (j : Int) ∧ s4 = .int .i64 ((z0 + Ce.nz (l.take j) : Nat) : Int) ∧ s5 = .int .i64 ((d0 + Ce.nd (l.take j) : Nat) : Int) ∧ Below w.heap.size w wr) (fun s7 _ _ _ => len - (intOf s7).toNat)
      case atStart => exact ⟨0, by omega, rfl, rfl, rfl, HB.out⟩
      case round =>
        obtain ⟨j, hj, rfl, rfl, rfl, hbel⟩ := hrel
        obtain ⟨we, rfl⟩ : ∃ we, we = wr := ⟨wr, rfl⟩
        have HE := hide hbel
        have hc : we.cell? (ad.add k) = some (.slice A' len c') := by rw [hbel.cell (block_lt_of_cell hc0)]; exact hc0
        clear hc0
        by_cases hlt : j < len
        · obtain ⟨bd, rfl, hjl, hcb0⟩ := reads_byte HR.out j hlt
          have hcb : we.cell? (bd.add j) = some (.int .u8 ((l[j].toNat : Nat) : Int)) := by rw [hbel.cell (block_lt_of_cell hcb0)]; exact hcb0
          have hj0 : (0 : Int) ≤ (j : Int) := by omega
          have hj1 : (j : Int) < (len : Int) := by omega
          have HT := hide (List.take_succ_eq_append_getElem hjl)
          have C1 := hide (CN.out l[j] we)
          have h6 := Ce.num_le l[j].toNat
          rw [Ce.dots_num] at C1
          have hzb := Ce.nz_le (l.take j)
          have hdb := Ce.nd_le (l.take j)
          have htl : (l.take j).length ≤ 1048576 := by rw [List.length_take]; omega
          have hZ2 := hide (show Ce.nz (l.take (j + 1)) = Ce.nz (l.take j) + (if l[j].toNat = 0 then 0 else 1) by rw [HT.out, Ce.nz_snoc])
          have hD2 := hide (show Ce.nd (l.take (j + 1)) = Ce.nd (l.take j) + Ce.num l[j].toNat by rw [HT.out, Ce.nd_snoc])
          have HLT2 := hide hlt
          generalize Ce.nz (l.take j) = z1 at *
          generalize Ce.nd (l.take j) = d1 at *
          generalize Ce.num l[j].toNat = q at *
          generalize Ce.dots l[j].toNat = ds at *
          generalize l[j].toNat = x at *
          have hz0 : (0 : Int) ≤ ((z0 + z1 : Nat) : Int) := by omega
          have hz1 : ((z0 + z1 : Nat) : Int) ≤ 2199023255552 := by omega
          have hd0 : (0 : Int) ≤ ((d0 + d1 : Nat) : Int) := by omega
          have hd1 : ((d0 + d1 : Nat) : Int) ≤ 13194139533312 := by omega
          have hq0 : (0 : Int) ≤ (q : Int) := by omega
          have hq1 : (q : Int) ≤ 6 := by omega
          have HZ3 := hide (show ((z0 + (z1 + 1) : Nat) : Int) = ((z0 + z1 : Nat) : Int) + 1 by omega)
          have HD3 := hide (show ((d0 + (d1 + q) : Nat) : Int) = ((d0 + d1 : Nat) : Int) + (q : Int) by omega)
          clear hlt hzb hdb htl HT h6 hbel hcb0
          clear hjl
          by_cases hx : x = 0
          · rw [if_pos hx] at hZ2
            subst hx
            have hne : (((0 : Nat) : Int) != 0) = false := by simp
            rw [show ((0 : Nat) : Int) = 0 from rfl] at hcb C1
            generalize hzz : ((z0 + z1 : Nat) : Int) = zz at *
            have HZZ := hide hzz
            clear hzz
            generalize ((d0 + d1 : Nat) : Int) = dd at *
            go_wp2_with (go_at_call 20; refine (unhide C1).mono ?_; rintro e w1 ⟨v, rfl, hown, hb⟩; obtain ⟨A9, c9, rfl, _, _⟩ := own_slice hown; have HE1 := hide (HE.out.trans (hb.mono HE.out.size)); clear hown hb)
            exact ⟨⟨j + 1, HLT2.out, by go_num, by rw [hZ2.out, Nat.add_zero, HZZ.out], by rw [hD2.out, HD3.out], HE1.out⟩, by have := HLT2.out; simp [intOf]; omega⟩
          · rw [if_neg hx] at hZ2
            have hx1 : ¬ ((x : Int) = 0) := by omega
            have hne : ((x : Int) != 0) = true := by rw [bne_iff_ne]; omega
            generalize ((z0 + z1 : Nat) : Int) = zz at *
            generalize ((d0 + d1 : Nat) : Int) = dd at *
            go_wp2_with (go_at_call 20; refine (unhide C1).mono ?_; rintro e w1 ⟨v, rfl, hown, hb⟩; obtain ⟨A9, c9, rfl, _, _⟩ := own_slice hown; have HE1 := hide (HE.out.trans (hb.mono HE.out.size)); clear hown hb)
            exact ⟨⟨j + 1, HLT2.out, by go_num, by rw [hZ2.out, HZ3.out], by rw [hD2.out, HD3.out], HE1.out⟩, by have := HLT2.out; simp [intOf]; omega⟩
        · obtain rfl : j = len := by omega
          have htk : l.take j = l := List.take_of_length_le (by have := HLN.out; omega)
          have hnt : ¬ ((j : Int) < (j : Int)) := by omega
          rw [htk, ← hZ.out, ← hD.out]
          clear hlt htk hbel
          go_wp2
          exact ⟨⟨k + 1, HLT.out, by go_num, rfl, rfl, HE.out⟩, by have := HLT.out; simp [intOf]; omega⟩
    · obtain rfl : k = n := by omega
      have htk : ls.take k = ls := List.take_of_length_le (by have := HNL.out; omega)
      have hnt : ¬ ((k : Int) < (k : Int)) := by omega
      rw [htk]
      clear hbel
      go_wp2
      go_ret2
      exact ⟨rfl, HB.out⟩
end Go.Proofs.YtdjmfjmijpfijaaDoor
