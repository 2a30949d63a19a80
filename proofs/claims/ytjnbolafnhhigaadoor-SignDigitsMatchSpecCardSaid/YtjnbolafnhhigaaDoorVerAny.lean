/-
  Verify answers Sg.ver; seed, by contract.
-/
import Derived.Test.YtjnbolafnhhigaaDoorVerRoot
namespace Go.Proofs.YtjnbolafnhhigaaDoor
open Go.RowKit
set_option linter.unusedVariables false
set_option linter.unusedSimpArgs false

theorem verify_any (p m s : List UInt8) (h : Int) (w : World) (hp : p.length = 16) (hs : s.length ≤ 1099511627776) (hK : KLaid w) :
    Calls Tryd.prog 18 #[.agg (BV p).toArray, .int .i64 h, .string (S m), .string (S s)] w fun e w' => e = .returned (.tuple #[.int .i64 (Sg.ver p h m s).1, .int .i64 (Sg.ver p h m s).2]) ∧ Below w.heap.size w w' := by
  by_cases c1 : 0 ≤ h ∧ h ≤ 6
  · obtain ⟨n, rfl⟩ : ∃ n : Nat, h = n := ⟨h.toNat, by omega⟩
    by_cases c2 : 1048576 < m.length
    · have e : Sg.ver p n m s = (0, 4) := by unfold Sg.ver; rw [if_neg (by omega), if_pos c2]
      rw [e]
      exact verify_long p m s n w c1 c2
    · by_cases c3 : (Wr.decI s).2.2 = 0
      · obtain ⟨z, u, e0, hd⟩ : ∃ z u e0, Wr.decI s = (z, u, e0) := ⟨_, _, _, rfl⟩
        rw [hd] at c3
        simp only [] at c3
        subst c3
        obtain ⟨_, hu, _⟩ := Wr.enc_dec hd
        by_cases c4 : ¬ (0 ≤ z ∧ z < ((2 ^ n : Nat) : Int)) ∨ (s.drop u).length ≠ (68 + n) * 16
        · have e : Sg.ver p n m s = (0, 2) := by
            unfold Sg.ver
            rw [if_neg (by omega), if_neg c2, hd]
            simp only []
            rw [if_neg (by simp), if_pos]
            rw [Int.toNat_natCast]
            have : ((2 ^ n : Nat) : Int) = (2 : Int) ^ n := by rw [Int.natCast_pow]; rfl
            rw [← this]
            exact c4
          rw [e]
          exact verify_form p m s n u z w (by omega) (by omega) hs hd hu c4
        · have c5 : 0 ≤ z ∧ z < ((2 ^ n : Nat) : Int) := Classical.byContradiction fun h => c4 (.inl h)
          have c6 : (s.drop u).length = (68 + n) * 16 := Classical.byContradiction fun h => c4 (.inr h)
          obtain ⟨i, rfl⟩ : ∃ i : Nat, z = i := ⟨z.toNat, by omega⟩
          have hV := verify_root p m s n i u w hp (by omega) (by omega) (by omega) hs hd hu c6 hK
          have e : Sg.ver p n m s = (if Sg.verRoot p n i m (s.drop u) = p then (i : Int) else 0, if Sg.verRoot p n i m (s.drop u) = p then 0 else 10) := by
            unfold Sg.ver
            rw [if_neg (by omega), if_neg c2, hd]
            simp only []
            rw [if_neg (by simp), if_neg]
            · rw [Int.toNat_natCast, Int.toNat_natCast]
              split <;> rfl
            · rw [Int.toNat_natCast]
              have : ((2 ^ n : Nat) : Int) = (2 : Int) ^ n := by rw [Int.natCast_pow]; rfl
              rw [← this]
              exact c4
          rw [e]
          exact hV
      · have e : Sg.ver p n m s = (0, (Wr.decI s).2.2) := by unfold Sg.ver; rw [if_neg (by omega), if_neg c2, if_pos c3]
        rw [e]
        exact verify_enc p m s n w c1 (by omega) hs c3
  · have e : Sg.ver p h m s = (0, 1) := by unfold Sg.ver; rw [if_pos c1]
    rw [e]
    exact verify_arg p m s h w c1
theorem made32 : (madeCells (Value.int .u8 0).cells (32 * 1)).toList = BV (List.replicate 32 0) := by kernel_rfl
theorem seed_set (c : UInt8) (i : Nat) (h : i < 32) : (List.replicate i c ++ List.replicate (32 - i) (0 : UInt8)).set i c = List.replicate (i + 1) c ++ List.replicate (32 - (i + 1)) 0 := by
  rw [List.set_append_right _ _ (by simp), List.length_replicate, Nat.sub_self, show 32 - i = (32 - (i + 1)) + 1 by omega, List.replicate_succ, List.set_cons_zero, List.replicate_succ' (n := i), List.append_assoc]
  rfl

set_option maxHeartbeats 1000000 in
set_option maxRecDepth 100000 in
theorem seed_any (c : UInt8) (w : World) :
    Calls Tryd.prog 20 #[.int .u8 ((c.toNat : Nat) : Int)] w fun e w' => e = .returned (.string (S (List.replicate 32 c))) ∧ Below w.heap.size w w' := by
  obtain ⟨i0, hi, hz0, hz1, hz2⟩ := info_parts byteInfo
  have HI := hide hi
  have HZ0 := hide hz0
  have HZ1 := hide hz1
  have HZ2 := hide hz2
  have hby := c.toNat_lt
  clear hi hz0 hz1 hz2
  go_enter Tryd.func20, Tryd.ntmps20
  go_upto_region 2 with (at_make; refine wpList_make_full _ rfl _ _ 51 rfl w.heap.size 5 i0 (.int .u8 0) 1 Tryd.underlying51 HI.out HZ0.out HZ1.out _ _ _ _ 32 rfl rfl rfl rfl (by rw [HZ2.out]; omega) (by unfold maxLen; omega) (Nat.le_refl _) ?_; intro w1 hown1 hgrow1)
  have C1 := hide (show Blk w1 w.heap.size 5 (BV (List.replicate 0 c ++ List.replicate (32 - 0) 0)).toArray by
    have h1 := Blk.of_make hown1
    rw [made32] at h1
    exact h1)
  have HB1 := hide (show Below w.heap.size w w1 from (Below.refl _ _).grown hgrow1 (Nat.le_refl _) (by simp))
  clear hown1 hgrow1
  go_upto_region 3 with fail
  go_loopw [4] (fun s4 wr => ∃ i : Nat, i ≤ 32 ∧ s4 = .int .i64 (i : Int) ∧ Blk wr w.heap.size 5 (BV (List.replicate i c ++ List.replicate (32 - i) 0)).toArray ∧ Below w.heap.size w wr) (fun s4 _ => 32 - (intOf s4).toNat)
  case atStart => exact ⟨0, by omega, rfl, C1.out, HB1.out⟩
  case round =>
    obtain ⟨i, hi, rfl, hC, hbel⟩ := hrel
    by_cases hlt : i < 32
    · have hcell : wr.cell? ⟨w.heap.size, i, none⟩ = some (.int .u8 (((0 : UInt8).toNat : Nat) : Int)) := bytes_cell hC i 0 (by rw [List.getElem?_append_right (by simp), List.length_replicate, Nat.sub_self, List.getElem?_replicate, if_pos (by omega)])
      have hfr := hC.frozen i
      have hset := bytes_put hC i c
      rw [seed_set c i hlt] at hset
      have HSET := hide hset
      have HB := hide hbel
      have i0' : (0 : Int) ≤ (i : Int) := by omega
      have i1' : (i : Int) < 32 := by omega
      clear hC hset hbel
      go_wp2
      exact ⟨⟨i + 1, by omega, by go_num, HSET.out, HB.out.setCell (p := ⟨w.heap.size, i, none⟩) (Nat.le_refl _) _⟩, by simp [intOf]; omega⟩
    · obtain rfl : i = 32 := by omega
      rw [Nat.sub_self, List.replicate_zero, List.append_nil] at hC
      have hcv := run_conv_reads (P := Tryd.prog) (reads_blk (n := 32) hC (by simp)) 51 9 5 32 Tryd.underlying51 Tryd.underlying5 Tryd.underlying9
      generalize hsd : List.replicate 32 c = sd at *
      have HSD := hide hsd
      have HB := hide hbel
      clear hC hbel hsd
      go_wp2
      go_ret
      exact ⟨by rw [HSD.out]; rfl, HB.out⟩
end Go.Proofs.YtjnbolafnhhigaaDoor
