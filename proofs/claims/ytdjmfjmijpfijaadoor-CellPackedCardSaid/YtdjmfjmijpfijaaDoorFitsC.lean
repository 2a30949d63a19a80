/-
  Cells: Fits; Fits, Count, Same of the reference; by contract.
-/
import Derived.Test.YtdjmfjmijpfijaaDoorSameC
namespace Go.Proofs.YtdjmfjmijpfijaaDoor
open Go.RowKit
set_option linter.unusedVariables false
set_option linter.unusedSimpArgs false
namespace Ce
def okLine (l : List UInt8) : Bool := decide (l.length ≤ 40) && valid l
def fits (ls : List (List UInt8)) : Bool := decide (ls.length ≤ 25) && ls.all okLine
theorem fits_bad {ls : List (List UInt8)} {l : List UInt8} (h : l ∈ ls) (hb : okLine l = false) : fits ls = false := by
  unfold fits
  rw [List.all_eq_false.2 ⟨l, h, by rw [hb]; decide⟩]
  simp
theorem cntTo_dots (c : Nat) (i : Nat) : (dotsTo c i).length = cntTo c i := by unfold dotsTo cntTo; rw [List.length_map]
theorem dots_num (c : Nat) : (dots c).length = num c := cntTo_dots c 6
end Ce
set_option maxHeartbeats 1000000 in
set_option maxRecDepth 100000 in
theorem fits_any (A : Option Addr) (n c : Nat) (ls : List (List UInt8)) (w : World) (hp : Pg w w.heap.size A n ls) (hn : n ≤ 1048576) (hll : ∀ l ∈ ls, l.length ≤ 1048576) :
    Calls Tryd.prog 9 #[.slice A n c] w fun e w' => e = .returned (.bool (Ce.fits ls)) ∧ Below w.heap.size w w' := by
  have HP := hide hp
  have HLL := hide hll
  have hnl : n = ls.length := by obtain ⟨_, _, h, _⟩ := hp; exact h.symm
  have HNL := hide hnl
  have hni : (n : Int) ≤ 1048576 := by omega
  have HREF := hide (Below.refl w.heap.size w)
  clear hp hll hnl
  go_enter Tryd.func9, Tryd.ntmps9
  go_wp2
  go_loopw [7] (fun s wr => ∃ k : Nat, k ≤ n ∧ s = .int .i64 (k : Int) ∧ Hid (∀ l ∈ ls.take k, Ce.okLine l = true) ∧ Below w.heap.size w wr) (fun s _ => n - (intOf s).toNat)
  case atStart => exact ⟨0, by omega, rfl, by simp [Hid], HREF.out⟩
  case round =>
    obtain ⟨k, hk, rfl, HG, hbel⟩ := hrel
    obtain ⟨wd, rfl⟩ : ∃ wd, wd = wr := ⟨wr, rfl⟩
    have HB := hide hbel
    by_cases hlt : k < n
    · obtain ⟨ad, rfl, hkl, A', c', hc0, hc', hr⟩ := HP.out.row k hlt
      have hc : wd.cell? (ad.add k) = some (.slice A' ls[k].length c') := by rw [hbel.cell (block_lt_of_cell hc0)]; exact hc0
      have hk0 : (0 : Int) ≤ (k : Int) := by omega
      have hk1 : (k : Int) < (n : Int) := by omega
      have HLT := hide hlt
      have hlen := HLL.out _ (List.getElem_mem hkl)
      have C := hide (valid_any A' ls[k].length c' ls[k] wd ((hr.below hbel).more hbel.size) (by omega))
      have HMEM := hide (List.getElem_mem hkl)
      have HT := hide (List.take_succ_eq_append_getElem hkl)
      have hll0 : (ls[k].length : Int) ≤ 1048576 := by omega
      by_cases h40 : ls[k].length ≤ 40
      · have h40i : ¬ (40 < (ls[k].length : Int)) := by omega
        cases hv : Ce.valid ls[k] with
        | true =>
          rw [hv] at C
          have HG2 := hide (show ∀ l ∈ ls.take (k + 1), Ce.okLine l = true by
            intro l hl
            rw [HT.out] at hl
            rcases List.mem_append.1 hl with h | h
            · exact HG.out l h
            · simp at h
              subst h
              unfold Ce.okLine
              rw [hv, decide_eq_true h40]
              rfl)
          generalize ls[k].length = len at *
          clear hr hc0 hlt hv HT HMEM HG h40 hbel
          clear hkl
          go_wp2_with (go_at_call 21; refine (unhide C).mono ?_; rintro e w1 ⟨rfl, hb1⟩; have B1 := hide (HB.out.trans (hb1.mono HB.out.size)); clear hb1)
          exact ⟨⟨k + 1, HLT.out, by go_num, HG2, B1.out⟩, by have := HLT.out; simp [intOf]; omega⟩
        | false =>
          rw [hv] at C
          have HE := hide (Ce.fits_bad HMEM.out (show Ce.okLine ls[k] = false by unfold Ce.okLine; rw [hv, Bool.and_false]))
          generalize ls[k].length = len at *
          clear hr hc0 hlt hv HT HMEM HG h40 hbel
          clear hkl
          go_wp2_with (go_at_call 21; refine (unhide C).mono ?_; rintro e w1 ⟨rfl, hb1⟩; have B1 := hide (HB.out.trans (hb1.mono HB.out.size)); clear hb1)
          go_ret
          exact ⟨by rw [HE.out]; rfl, B1.out⟩
      · have h40i : 40 < (ls[k].length : Int) := by omega
        have HE := hide (Ce.fits_bad HMEM.out (show Ce.okLine ls[k] = false by unfold Ce.okLine; rw [decide_eq_false h40]; rfl))
        generalize ls[k].length = len at *
        clear hr hc0 hlt HT HMEM HG h40 hbel C
        clear hkl
        go_wp2
        go_ret
        exact ⟨by rw [HE.out]; rfl, HB.out⟩
    · obtain rfl : k = n := by omega
      have hall : ls.all Ce.okLine = true := by
        have h := HG.out
        rw [List.take_of_length_le (by have := HNL.out; omega)] at h
        exact List.all_eq_true.2 h
      have HE := hide (show Ce.fits ls = decide ((k : Int) ≤ 25) by
        unfold Ce.fits
        rw [hall, Bool.and_true, ← HNL.out]
        exact Bool.eq_iff_iff.2 (by simp; omega))
      have hk0 : (0 : Int) ≤ (k : Int) := by omega
      clear hall HG hbel hlt
      go_wp2
      go_ret
      exact ⟨by rw [HE.out]; rfl, HB.out⟩
set_option maxHeartbeats 1000000 in
set_option maxRecDepth 100000 in
theorem refFits_any (A : Option Addr) (n c : Nat) (ls : List (List UInt8)) (w : World) (hp : Pg w w.heap.size A n ls) (hn : n ≤ 1048576) (hll : ∀ l ∈ ls, l.length ≤ 1048576) :
    Calls Tryd.prog 10 #[.slice A n c] w fun e w' => e = .returned (.bool (Ce.fits ls)) ∧ Below w.heap.size w w' := by
  have HP := hide hp
  have HLL := hide hll
  have hnl : n = ls.length := by obtain ⟨_, _, h, _⟩ := hp; exact h.symm
  have HNL := hide hnl
  have hni : (n : Int) ≤ 1048576 := by omega
  have HREF := hide (Below.refl w.heap.size w)
  by_cases h25 : n ≤ 25
  · have h25i : ¬ (25 < (n : Int)) := by omega
    clear hp hll hnl
    go_enter Tryd.func10, Tryd.ntmps10
    go_wp2
    go_loopw [3] (fun s wr => ∃ k : Nat, k ≤ n ∧ s = .int .i64 (k : Int) ∧ Hid (∀ l ∈ ls.take k, Ce.okLine l = true) ∧ Below w.heap.size w wr) (fun s _ => n - (intOf s).toNat)
    case atStart => exact ⟨0, by omega, rfl, by simp [Hid], HREF.out⟩
    case round =>
      obtain ⟨k, hk, rfl, HG, hbel⟩ := hrel
      obtain ⟨wd, rfl⟩ : ∃ wd, wd = wr := ⟨wr, rfl⟩
      have HB := hide hbel
      by_cases hlt : k < n
      · obtain ⟨ad, rfl, hkl, A', c', hc0, hc', hr⟩ := HP.out.row k hlt
        have hc : wd.cell? (ad.add k) = some (.slice A' ls[k].length c') := by rw [hbel.cell (block_lt_of_cell hc0)]; exact hc0
        have hk0 : (0 : Int) ≤ (k : Int) := by omega
        have hk1 : (k : Int) < (n : Int) := by omega
        have HLT := hide hlt
        have hlen := HLL.out _ (List.getElem_mem hkl)
        have C := hide (refValid_any A' ls[k].length c' ls[k] wd ((hr.below hbel).more hbel.size) (by omega))
        have HMEM := hide (List.getElem_mem hkl)
        have HT := hide (List.take_succ_eq_append_getElem hkl)
        have hll0 : (ls[k].length : Int) ≤ 1048576 := by omega
        by_cases h40 : ls[k].length ≤ 40
        · have h40i : ¬ (40 < (ls[k].length : Int)) := by omega
          cases hv : Ce.valid ls[k] with
          | true =>
            rw [hv] at C
            have HG2 := hide (show ∀ l ∈ ls.take (k + 1), Ce.okLine l = true by
              intro l hl
              rw [HT.out] at hl
              rcases List.mem_append.1 hl with h | h
              · exact HG.out l h
              · simp at h
                subst h
                unfold Ce.okLine
                rw [hv, decide_eq_true h40]
                rfl)
            generalize ls[k].length = len at *
            clear hr hc0 hlt hv HT HMEM HG h40 hbel
            clear hkl
            go_wp2_with (go_at_call 22; refine (unhide C).mono ?_; rintro e w1 ⟨rfl, hb1⟩; have B1 := hide (HB.out.trans (hb1.mono HB.out.size)); clear hb1)
            exact ⟨⟨k + 1, HLT.out, by go_num, HG2, B1.out⟩, by have := HLT.out; simp [intOf]; omega⟩
          | false =>
            rw [hv] at C
            have HE := hide (Ce.fits_bad HMEM.out (show Ce.okLine ls[k] = false by unfold Ce.okLine; rw [hv, Bool.and_false]))
            generalize ls[k].length = len at *
            clear hr hc0 hlt hv HT HMEM HG h40 hbel
            clear hkl
            go_wp2_with (go_at_call 22; refine (unhide C).mono ?_; rintro e w1 ⟨rfl, hb1⟩; have B1 := hide (HB.out.trans (hb1.mono HB.out.size)); clear hb1)
            go_ret
            exact ⟨by rw [HE.out]; rfl, B1.out⟩
        · have h40i : 40 < (ls[k].length : Int) := by omega
          have HE := hide (Ce.fits_bad HMEM.out (show Ce.okLine ls[k] = false by unfold Ce.okLine; rw [decide_eq_false h40]; rfl))
          generalize ls[k].length = len at *
          clear hr hc0 hlt HT HMEM HG h40 hbel C
          clear hkl
          go_wp2
          go_ret
          exact ⟨by rw [HE.out]; rfl, HB.out⟩
      · obtain rfl : k = n := by omega
        have HE := hide (show Ce.fits ls = true by
          have h := HG.out
          rw [List.take_of_length_le (by have := HNL.out; omega)] at h
          unfold Ce.fits
          rw [List.all_eq_true.2 h, ← HNL.out, decide_eq_true h25]
          rfl)
        have hnt : ¬ ((k : Int) < (k : Int)) := by omega
        clear HG hbel hlt
        go_wp2
        go_ret
        exact ⟨by rw [HE.out]; rfl, HB.out⟩
  · have h25i : 25 < (n : Int) := by omega
    have HE := hide (show Ce.fits ls = false by unfold Ce.fits; rw [← hnl, decide_eq_false h25]; rfl)
    clear hp hll hnl h25
    go_enter Tryd.func10, Tryd.ntmps10
    go_wp2
    go_ret
    exact ⟨by rw [HE.out]; rfl, HREF.out⟩
end Go.Proofs.YtdjmfjmijpfijaaDoor
