/-
  Cells: Same of the reference; by contract.
-/
import Derived.Test.YtdjmfjmijpfijaaDoorFitsD
namespace Go.Proofs.YtdjmfjmijpfijaaDoor
open Go.RowKit
set_option linter.unusedVariables false
set_option linter.unusedSimpArgs false
theorem cell_far (ls : List (List UInt8)) (i k : Nat) (h : (ls.getD i []).length ≤ k) : Ce.cellAt ls i k = 0 := by
  unfold Ce.cellAt
  rw [List.getD_eq_getElem?_getD (l := ls.getD i []), List.getElem?_eq_none h]
  rfl
set_option maxHeartbeats 4000000 in
set_option maxRecDepth 100000 in
theorem refSame_any (A B : Option Addr) (n m c d : Nat) (xs ys : List (List UInt8)) (w : World) (ha : Pg w w.heap.size A n xs) (hb : Pg w w.heap.size B m ys) (hn : n ≤ 1048576) (hm : m ≤ 1048576)
    (hx : ∀ l ∈ xs, l.length ≤ 1048576) (hy : ∀ l ∈ ys, l.length ≤ 1048576) :
    Calls Tryd.prog 12 #[.slice A n c, .slice B m d] w fun e w' => e = .returned (.bool (sameB xs ys)) ∧ w = w' := by
  have hnx : n = xs.length := by obtain ⟨_, _, h, _⟩ := ha; exact h.symm
  have hmy : m = ys.length := by obtain ⟨_, _, h, _⟩ := hb; exact h.symm
  have HNX := hide hnx
  have HMY := hide hmy
  have HA := hide ha
  have HB := hide hb
  have HXX := hide hx
  have HYY := hide hy
  have CA := hide (fun i j : Nat => refCell_any A n c xs w ha i j)
  have CB := hide (fun i j : Nat => refCell_any B m d ys w hb i j)
  have hni : (n : Int) ≤ 1048576 := by omega
  have hmi : (m : Int) ≤ 1048576 := by omega
  clear ha hb hnx hmy hx hy
  go_enter Tryd.func12, Tryd.ntmps12
  go_wp2
  go_loopw [5] (fun s5 wr => ∃ i : Nat, i ≤ max n m ∧ s5 = .int .i64 (i : Int) ∧ Hid (∀ i', i' < i → ∀ k', Ce.cellAt xs i' k' = Ce.cellAt ys i' k') ∧ w = wr) (fun s5 _ => max n m - (intOf s5).toNat)
  case atStart => exact ⟨0, by omega, rfl, fun i' h => absurd h (by omega), by first | rfl | trivial⟩
  case round =>
    obtain ⟨i, hi, rfl, HI, rfl⟩ := hrel
    have hi0 : (0 : Int) ≤ (i : Int) := by omega
    by_cases hin : i < n
    · obtain ⟨ad, rfl, hkx, A', c', hca, -, -⟩ := HA.out.row i hin
      have hi1 : (i : Int) < (n : Int) := by omega
      have hla := HXX.out _ (List.getElem_mem hkx)
      have hga : xs.getD i [] = xs[i] := by simp [List.getD, hkx]
      have HGA := hide (show (xs.getD i []).length = xs[i].length by rw [hga])
      have HIM := hide (show i < max n m by omega)
      clear hga
      by_cases him : i < m
      · obtain ⟨bd, rfl, hky, B', d', hcb, -, -⟩ := HB.out.row i him
        have hi2 : (i : Int) < (m : Int) := by omega
        have hlb := HYY.out _ (List.getElem_mem hky)
        have HGB := hide (show (ys.getD i []).length = ys[i].length by rw [show ys.getD i [] = ys[i] by simp [List.getD, hky]])
        generalize xs[i].length = la at *
        generalize ys[i].length = lb at *
        obtain ⟨W, hW⟩ : ∃ W, W = max la lb := ⟨_, rfl⟩
        have HWA := hide (show (xs.getD i []).length ≤ W by rw [HGA.out]; omega)
        have HWB := hide (show (ys.getD i []).length ≤ W by rw [HGB.out]; omega)
        have hWb : W ≤ 1048576 := by omega
        have HW := hide hW
        have hla0 : (0 : Int) ≤ (la : Int) := by omega
        have hlb0 : (0 : Int) ≤ (lb : Int) := by omega
        have hla1 : (la : Int) ≤ 1048576 := by omega
        have hlb1 : (lb : Int) ≤ 1048576 := by omega
        clear hW hin him
        clear hkx hky
        go_upto_region 8 with fail
        go_cut [6] (fun s6 wx => s6 = .int .i64 (W : Int) ∧ w = wx)
        case first =>
          go_wp2
          all_goals
            go_meet
            have hWe := HW.out
            exact ⟨by first | rfl | (congr 1; omega) | (congr 1; split <;> omega) | (congr 1; split <;> split <;> omega), by first | rfl | trivial⟩
        case rest =>
          obtain ⟨rfl, rfl⟩ := hcut
          clear hla hlb hla0 hlb0 hla1 hlb1
          have hWi : (W : Int) ≤ 1048576 := by omega
          go_wp2
          go_loopw [7] (fun s7 wr => ∃ k : Nat, k ≤ W ∧ s7 = .int .i64 (k : Int) ∧ Hid (∀ k', k' < k → Ce.cellAt xs i k' = Ce.cellAt ys i k') ∧ w = wr) (fun s7 _ => W - (intOf s7).toNat)
          case atStart => exact ⟨0, by omega, rfl, fun k' h => absurd h (by omega), by first | rfl | trivial⟩
          case round =>
            obtain ⟨k, hk, rfl, HK, rfl⟩ := hrel
            by_cases hlt : k < W
            · have hk0 : (0 : Int) ≤ (k : Int) := by omega
              have hk1 : (k : Int) < (W : Int) := by omega
              have HLT := hide hlt
              have C1 := hide (unhide CA i k)
              have C2 := hide (unhide CB i k)
              by_cases he : Ce.cellAt xs i k = Ce.cellAt ys i k
              · have HK2 := hide (show ∀ k', k' < k + 1 → Ce.cellAt xs i k' = Ce.cellAt ys i k' by
                  intro k' h
                  by_cases hkk : k' = k
                  · subst hkk; exact he
                  · exact HK.out k' (by omega))
                rw [← he] at C2
                have hne : (((Ce.cellAt xs i k : Nat) : Int) != ((Ce.cellAt xs i k : Nat) : Int)) = false := by simp
                generalize ((Ce.cellAt xs i k : Nat) : Int) = q at *
                clear hlt he
                go_wp2_with (go_at_call 26; first
                  | ((with_reducible refine (unhide C1).mono ?_); rintro e w1 ⟨rfl, rfl⟩)
                  | ((with_reducible refine (unhide C2).mono ?_); rintro e w1 ⟨rfl, rfl⟩))
                exact ⟨⟨k + 1, HLT.out, by go_num, HK2, by first | rfl | trivial⟩, by have := HLT.out; simp [intOf]; omega⟩
              · have hne : (((Ce.cellAt xs i k : Nat) : Int) != ((Ce.cellAt ys i k : Nat) : Int)) = true := by rw [bne_iff_ne]; omega
                have hne2 : ¬ (((Ce.cellAt xs i k : Nat) : Int) = ((Ce.cellAt ys i k : Nat) : Int)) := by omega
                have HE := hide (show sameB xs ys = false by
                  unfold sameB
                  rw [decide_eq_false_iff_not, Ce.canon_iff]
                  exact fun h => he (h i k))
                generalize ((Ce.cellAt xs i k : Nat) : Int) = q at *
                generalize ((Ce.cellAt ys i k : Nat) : Int) = q2 at *
                clear hlt he
                go_wp2_with (go_at_call 26; first
                  | ((with_reducible refine (unhide C1).mono ?_); rintro e w1 ⟨rfl, rfl⟩)
                  | ((with_reducible refine (unhide C2).mono ?_); rintro e w1 ⟨rfl, rfl⟩))
                go_ret
                exact ⟨by rw [HE.out]; rfl, by first | rfl | trivial⟩
            · obtain rfl : k = W := by omega
              have HI2 := hide (show ∀ i', i' < i + 1 → ∀ k', Ce.cellAt xs i' k' = Ce.cellAt ys i' k' by
                intro i' h k'
                by_cases hii : i' = i
                · subst hii
                  by_cases hkk : k' < k
                  · exact HK.out k' hkk
                  · rw [cell_far xs i' k' (by have := HWA.out; omega), cell_far ys i' k' (by have := HWB.out; omega)]
                · exact HI.out i' (by omega) k')
              have hnt : ¬ ((k : Int) < (k : Int)) := by omega
              clear hlt
              go_wp2
              exact ⟨⟨i + 1, HIM.out, by go_num, HI2, by first | rfl | trivial⟩, by have := HIM.out; simp [intOf]; omega⟩
      · have hi2 : ¬ ((i : Int) < (m : Int)) := by omega
        have HGB := hide (show (ys.getD i []).length = 0 by rw [show ys.getD i [] = [] by simp [List.getD, show ys.length ≤ i by have := HMY.out; omega]]; rfl)
        generalize xs[i].length = W at *
        have HWA := hide (show (xs.getD i []).length ≤ W by rw [HGA.out]; omega)
        have HWB := hide (show (ys.getD i []).length ≤ W by rw [HGB.out]; omega)
        have hWb : W ≤ 1048576 := hla
        clear hin him
        clear hkx
        have hWi : (W : Int) ≤ 1048576 := by omega
        go_wp2
        go_loopw [7] (fun s7 wr => ∃ k : Nat, k ≤ W ∧ s7 = .int .i64 (k : Int) ∧ Hid (∀ k', k' < k → Ce.cellAt xs i k' = Ce.cellAt ys i k') ∧ w = wr) (fun s7 _ => W - (intOf s7).toNat)
        case atStart => exact ⟨0, by omega, rfl, fun k' h => absurd h (by omega), by first | rfl | trivial⟩
        case round =>
          obtain ⟨k, hk, rfl, HK, rfl⟩ := hrel
          by_cases hlt : k < W
          · have hk0 : (0 : Int) ≤ (k : Int) := by omega
            have hk1 : (k : Int) < (W : Int) := by omega
            have HLT := hide hlt
            have C1 := hide (unhide CA i k)
            have C2 := hide (unhide CB i k)
            by_cases he : Ce.cellAt xs i k = Ce.cellAt ys i k
            · have HK2 := hide (show ∀ k', k' < k + 1 → Ce.cellAt xs i k' = Ce.cellAt ys i k' by
                intro k' h
                by_cases hkk : k' = k
                · subst hkk; exact he
                · exact HK.out k' (by omega))
              rw [← he] at C2
              have hne : (((Ce.cellAt xs i k : Nat) : Int) != ((Ce.cellAt xs i k : Nat) : Int)) = false := by simp
              generalize ((Ce.cellAt xs i k : Nat) : Int) = q at *
              clear hlt he
              go_wp2_with (go_at_call 26; first
                | ((with_reducible refine (unhide C1).mono ?_); rintro e w1 ⟨rfl, rfl⟩)
                | ((with_reducible refine (unhide C2).mono ?_); rintro e w1 ⟨rfl, rfl⟩))
              exact ⟨⟨k + 1, HLT.out, by go_num, HK2, by first | rfl | trivial⟩, by have := HLT.out; simp [intOf]; omega⟩
            · have hne : (((Ce.cellAt xs i k : Nat) : Int) != ((Ce.cellAt ys i k : Nat) : Int)) = true := by rw [bne_iff_ne]; omega
              have hne2 : ¬ (((Ce.cellAt xs i k : Nat) : Int) = ((Ce.cellAt ys i k : Nat) : Int)) := by omega
              have HE := hide (show sameB xs ys = false by
                unfold sameB
                rw [decide_eq_false_iff_not, Ce.canon_iff]
                exact fun h => he (h i k))
              generalize ((Ce.cellAt xs i k : Nat) : Int) = q at *
              generalize ((Ce.cellAt ys i k : Nat) : Int) = q2 at *
              clear hlt he
              go_wp2_with (go_at_call 26; first
                | ((with_reducible refine (unhide C1).mono ?_); rintro e w1 ⟨rfl, rfl⟩)
                | ((with_reducible refine (unhide C2).mono ?_); rintro e w1 ⟨rfl, rfl⟩))
              go_ret
              exact ⟨by rw [HE.out]; rfl, by first | rfl | trivial⟩
          · obtain rfl : k = W := by omega
            have HI2 := hide (show ∀ i', i' < i + 1 → ∀ k', Ce.cellAt xs i' k' = Ce.cellAt ys i' k' by
              intro i' h k'
              by_cases hii : i' = i
              · subst hii
                by_cases hkk : k' < k
                · exact HK.out k' hkk
                · rw [cell_far xs i' k' (by have := HWA.out; omega), cell_far ys i' k' (by have := HWB.out; omega)]
              · exact HI.out i' (by omega) k')
            have hnt : ¬ ((k : Int) < (k : Int)) := by omega
            clear hlt
            go_wp2
            exact ⟨⟨i + 1, HIM.out, by go_num, HI2, by first | rfl | trivial⟩, by have := HIM.out; simp [intOf]; omega⟩
    · by_cases him : i < m
      · obtain ⟨bd, rfl, hky, B', d', hcb, -, -⟩ := HB.out.row i him
        have hi1 : ¬ ((i : Int) < (n : Int)) := by omega
        have hi2 : (i : Int) < (m : Int) := by omega
        have hlb := HYY.out _ (List.getElem_mem hky)
        have HIM := hide (show i < max n m by omega)
        have HGA := hide (show (xs.getD i []).length = 0 by rw [show xs.getD i [] = [] by simp [List.getD, show xs.length ≤ i by have := HNX.out; omega]]; rfl)
        have HGB := hide (show (ys.getD i []).length = ys[i].length by rw [show ys.getD i [] = ys[i] by simp [List.getD, hky]])
        generalize ys[i].length = W at *
        have HWA := hide (show (xs.getD i []).length ≤ W by rw [HGA.out]; omega)
        have HWB := hide (show (ys.getD i []).length ≤ W by rw [HGB.out]; omega)
        have hWb : W ≤ 1048576 := hlb
        have hW0 : (0 : Int) ≤ (W : Int) := by omega
        have hW1 : (W : Int) ≤ 1048576 := by omega
        clear hin him
        clear hky
        go_upto_region 8 with fail
        go_cut [6] (fun s6 wx => s6 = .int .i64 (W : Int) ∧ w = wx)
        case first =>
          go_wp2
          all_goals
            go_meet
            exact ⟨by first | rfl | (congr 1; omega) | (congr 1; split <;> omega), by first | rfl | trivial⟩
        case rest =>
          obtain ⟨rfl, rfl⟩ := hcut
          have hWi : (W : Int) ≤ 1048576 := by omega
          go_wp2
          go_loopw [7] (fun s7 wr => ∃ k : Nat, k ≤ W ∧ s7 = .int .i64 (k : Int) ∧ Hid (∀ k', k' < k → Ce.cellAt xs i k' = Ce.cellAt ys i k') ∧ w = wr) (fun s7 _ => W - (intOf s7).toNat)
          case atStart => exact ⟨0, by omega, rfl, fun k' h => absurd h (by omega), by first | rfl | trivial⟩
          case round =>
            obtain ⟨k, hk, rfl, HK, rfl⟩ := hrel
            by_cases hlt : k < W
            · have hk0 : (0 : Int) ≤ (k : Int) := by omega
              have hk1 : (k : Int) < (W : Int) := by omega
              have HLT := hide hlt
              have C1 := hide (unhide CA i k)
              have C2 := hide (unhide CB i k)
              by_cases he : Ce.cellAt xs i k = Ce.cellAt ys i k
              · have HK2 := hide (show ∀ k', k' < k + 1 → Ce.cellAt xs i k' = Ce.cellAt ys i k' by
                  intro k' h
                  by_cases hkk : k' = k
                  · subst hkk; exact he
                  · exact HK.out k' (by omega))
                rw [← he] at C2
                have hne : (((Ce.cellAt xs i k : Nat) : Int) != ((Ce.cellAt xs i k : Nat) : Int)) = false := by simp
                generalize ((Ce.cellAt xs i k : Nat) : Int) = q at *
                clear hlt he
                go_wp2_with (go_at_call 26; first
                  | ((with_reducible refine (unhide C1).mono ?_); rintro e w1 ⟨rfl, rfl⟩)
                  | ((with_reducible refine (unhide C2).mono ?_); rintro e w1 ⟨rfl, rfl⟩))
                exact ⟨⟨k + 1, HLT.out, by go_num, HK2, by first | rfl | trivial⟩, by have := HLT.out; simp [intOf]; omega⟩
              · have hne : (((Ce.cellAt xs i k : Nat) : Int) != ((Ce.cellAt ys i k : Nat) : Int)) = true := by rw [bne_iff_ne]; omega
                have hne2 : ¬ (((Ce.cellAt xs i k : Nat) : Int) = ((Ce.cellAt ys i k : Nat) : Int)) := by omega
                have HE := hide (show sameB xs ys = false by
                  unfold sameB
                  rw [decide_eq_false_iff_not, Ce.canon_iff]
                  exact fun h => he (h i k))
                generalize ((Ce.cellAt xs i k : Nat) : Int) = q at *
                generalize ((Ce.cellAt ys i k : Nat) : Int) = q2 at *
                clear hlt he
                go_wp2_with (go_at_call 26; first
                  | ((with_reducible refine (unhide C1).mono ?_); rintro e w1 ⟨rfl, rfl⟩)
                  | ((with_reducible refine (unhide C2).mono ?_); rintro e w1 ⟨rfl, rfl⟩))
                go_ret
                exact ⟨by rw [HE.out]; rfl, by first | rfl | trivial⟩
            · obtain rfl : k = W := by omega
              have HI2 := hide (show ∀ i', i' < i + 1 → ∀ k', Ce.cellAt xs i' k' = Ce.cellAt ys i' k' by
                intro i' h k'
                by_cases hii : i' = i
                · subst hii
                  by_cases hkk : k' < k
                  · exact HK.out k' hkk
                  · rw [cell_far xs i' k' (by have := HWA.out; omega), cell_far ys i' k' (by have := HWB.out; omega)]
                · exact HI.out i' (by omega) k')
              have hnt : ¬ ((k : Int) < (k : Int)) := by omega
              clear hlt
              go_wp2
              exact ⟨⟨i + 1, HIM.out, by go_num, HI2, by first | rfl | trivial⟩, by have := HIM.out; simp [intOf]; omega⟩
      · have hi1 : ¬ ((i : Int) < (n : Int)) := by omega
        have hi2 : ¬ ((i : Int) < (m : Int)) := by omega
        have HE := hide (show sameB xs ys = true by
          unfold sameB
          rw [decide_eq_true_iff, Ce.canon_iff]
          intro i' k'
          by_cases h : i' < i
          · exact HI.out i' h k'
          · rw [cell_far xs i' k' (by rw [show xs.getD i' [] = [] by simp [List.getD, show xs.length ≤ i' by have := HNX.out; omega]]; simp), cell_far ys i' k' (by rw [show ys.getD i' [] = [] by simp [List.getD, show ys.length ≤ i' by have := HMY.out; omega]]; simp)])
        clear hin him HI
        go_wp2
        go_ret
        exact ⟨by rw [HE.out]; rfl, by first | rfl | trivial⟩
end Go.Proofs.YtdjmfjmijpfijaaDoor
