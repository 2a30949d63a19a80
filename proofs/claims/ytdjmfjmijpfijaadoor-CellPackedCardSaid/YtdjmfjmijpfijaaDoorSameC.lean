/-
  Cells: Same, with what it calls of packages bytes and slices, by contract.
-/
import Derived.Test.YtdjmfjmijpfijaaDoorStripC
import Derived.Test.YtdjmfjmijpfijaaDoorBlkC
namespace Go.Proofs.YtdjmfjmijpfijaaDoor
open Go.RowKit
set_option linter.unusedVariables false
set_option linter.unusedSimpArgs false
set_option maxHeartbeats 1000000 in
set_option maxRecDepth 100000 in
theorem trimRight_any (A : Option Addr) (n c : Nat) (l : List UInt8) (w : World) (hr : Reads w w.heap.size 1 A n (BV l)) (hm : n ≤ 1099511627776) (hnc : n ≤ c) :
    Calls Tryd.prog 39 #[.slice A n c, .string { data := #[0] }] w fun e w' => e = .returned (.slice A (Ce.strip 0 l).length c) ∧ w = w' := by
  have hn := reads_bytes_len hr
  have C := hide (trimByte_any A n c l w hr hm hnc)
  by_cases h0 : n = 0
  · subst h0
    have HE := hide (show (Ce.strip 0 l).length = 0 by rw [Ce.strip_len, ← hn]; rfl)
    clear hr hn C
    go_enter Tryd.func39, Tryd.ntmps39
    go_wp2
    go_ret
    exact ⟨by rw [HE.out]; rfl, by first | rfl | trivial⟩
  · have hne : ((n : Int) == 0) = false := by rw [beq_eq_false_iff_ne]; omega
    have hne2 : ¬ ((n : Int) = 0) := by omega
    have hn0 : (0 : Int) ≤ (n : Int) := by omega
    generalize (Ce.strip 0 l).length = m at *
    clear hr hn
    go_enter Tryd.func39, Tryd.ntmps39
    go_wp2_with (go_at_call 41; refine (unhide C).mono ?_; rintro e w1 ⟨rfl, rfl⟩)
    go_ret
    exact ⟨rfl, by first | rfl | trivial⟩
theorem bytesEq_any (A B : Option Addr) (n m c d : Nat) (l k : List UInt8) (w : World) (ha : Reads w w.heap.size 1 A n (BV l)) (hb : Reads w w.heap.size 1 B m (BV k)) :
    Calls Tryd.prog 25 #[.slice A n c, .slice B m d] w fun e w' => e = .returned (.bool (decide (l = k))) ∧ w = w' := by
  have h1 : (convert 27 9 (.slice A n c)).run Tryd.prog w = .ok (.string (S l)) w := run_conv_reads ha 27 9 5 c Tryd.underlying27 Tryd.underlying5 Tryd.underlying9
  have h2 : (convert 27 9 (.slice B m d)).run Tryd.prog w = .ok (.string (S k)) w := run_conv_reads hb 27 9 5 d Tryd.underlying27 Tryd.underlying5 Tryd.underlying9
  have hS : ∀ x : List UInt8, (S x).toList = x := fun x => by rw [ByteArray.toList_eq]; rfl
  have h4 : (l == k) = decide (l = k) := Bool.eq_iff_iff.2 (by simp)
  have H4 := hide h4
  have h3 : ((S l).toList == (S k).toList) = (l == k) := by rw [hS, hS]
  clear h4
  clear ha hb
  go_enter Tryd.func25, Tryd.ntmps25
  go_wp2
  go_ret
  exact ⟨by rw [← H4.out]; rfl, by first | rfl | trivial⟩
/-- lines that read as the struck lines of a page -/
def TrimAt (w : World) (B : Nat) (vs : List Value) (xs : List (List UInt8)) : Prop :=
  vs.length = xs.length ∧ ∀ k (h : k < xs.length), ∃ A c, vs[k]? = some (.slice A (Ce.strip 0 xs[k]).length c) ∧ (Ce.strip 0 xs[k]).length ≤ c ∧ Reads w B 1 A (Ce.strip 0 xs[k]).length (BV (Ce.strip 0 xs[k]))
theorem TrimAt.nil (w : World) (B : Nat) : TrimAt w B [] [] := ⟨rfl, fun k h => absurd h (by simp)⟩
theorem TrimAt.below {w w' : World} {B : Nat} {vs : List Value} {xs : List (List UInt8)} (h : TrimAt w B vs xs) (hb : Below B w w') : TrimAt w' B vs xs :=
  ⟨h.1, fun k hk => by
    obtain ⟨A, c, h1, h2, h3⟩ := h.2 k hk
    exact ⟨A, c, h1, h2, h3.below hb⟩⟩
theorem TrimAt.snoc {w : World} {B : Nat} {vs : List Value} {xs : List (List UInt8)} (h : TrimAt w B vs xs) (l : List UInt8) (A : Option Addr) (c : Nat) (hc : (Ce.strip 0 l).length ≤ c) (hr : Reads w B 1 A (Ce.strip 0 l).length (BV (Ce.strip 0 l))) :
    TrimAt w B (vs ++ [.slice A (Ce.strip 0 l).length c]) (xs ++ [l]) := by
  refine ⟨by simp [h.1], fun k hk => ?_⟩
  by_cases hkl : k < xs.length
  · obtain ⟨A', c', h1, h2⟩ := h.2 k hkl
    refine ⟨A', c', ?_, ?_⟩
    · rw [List.getElem?_append_left (by rw [h.1]; exact hkl), List.getElem_append_left hkl]; exact h1
    · rw [List.getElem_append_left hkl]; exact h2
  · have hk0 : k = xs.length := by rw [List.length_append] at hk; simp at hk; omega
    subst hk0
    have e : (xs ++ [l])[xs.length]'hk = l := by simp
    refine ⟨A, c, ?_, ?_⟩
    · rw [List.getElem?_append_right (by rw [h.1]; omega), h.1, Nat.sub_self, e]; rfl
    · rw [e]; exact ⟨hc, hr⟩
theorem reads_strip {w : World} {B n : Nat} {A : Option Addr} {l : List UInt8} (hr : Reads w B 1 A n (BV l)) : Reads w B 1 A (Ce.strip 0 l).length (BV (Ce.strip 0 l)) := by
  have hn := reads_bytes_len hr
  have hle : (Ce.strip 0 l).length ≤ n := by rw [Ce.strip_len, hn]; exact Ce.st_le _ _ _
  have h := reads_take hr _ hle
  have e : (BV l).take (Ce.strip 0 l).length = BV (Ce.strip 0 l) := by
    rw [Ce.strip_len]
    show (l.map _).take _ = (l.take _).map _
    exact List.map_take.symm
  rwa [e] at h
theorem TrimAt.pg {w : World} {B B' : Nat} {vs : List Value} {xs : List (List UInt8)} (h : TrimAt w B vs xs) (hB : B ≤ B') {A : Option Addr} (hr : Reads w B' 1 A xs.length vs) : Pg w B' A (Ce.canon xs).length (Ce.canon xs) := by
  have hcl : (Ce.canon xs).length ≤ xs.length := by rw [Ce.canon_len]; exact Ce.cl_le _ _
  refine ⟨vs.take (Ce.canon xs).length, reads_take hr _ hcl, rfl, fun k hk => ?_⟩
  have hkx : k < xs.length := by omega
  obtain ⟨A', c, h1, h2, h3⟩ := h.2 k hkx
  have e : (Ce.canon xs)[k] = Ce.strip 0 xs[k] := by
    have h4 := Ce.canon_row xs k
    have h5 : (Ce.canon xs).getD k [] = (Ce.canon xs)[k] := by simp [List.getD, hk]
    have h6 : xs.getD k [] = xs[k] := by simp [List.getD, hkx]
    rw [h5, h6] at h4
    exact h4
  refine ⟨A', _, c, by rw [List.getElem?_take, if_pos hk]; exact h1, h2, ?_⟩
  rw [e]
  exact h3.more hB
set_option maxHeartbeats 2000000 in
set_option maxRecDepth 100000 in
theorem canonical_any (A : Option Addr) (n c : Nat) (ls : List (List UInt8)) (w : World) (hp : Pg w w.heap.size A n ls) (hn : n ≤ 1048576) (hll : ∀ l ∈ ls, l.length ≤ 1048576) :
    Calls Tryd.prog 24 #[.slice A n c] w fun e w' => ∃ g, e = .returned (.slice (some ⟨g, 0, none⟩) (Ce.canon ls).length n) ∧ Pg w' w'.heap.size (some ⟨g, 0, none⟩) (Ce.canon ls).length (Ce.canon ls) ∧ Below w.heap.size w w' := by
  have HP := hide hp
  have HLL := hide hll
  have hnl : n = ls.length := by obtain ⟨_, _, h, _⟩ := hp; exact h.symm
  have HNL := hide hnl
  have hmk : ∀ W', (Instr.makeSlice 24 (.int .i64 (n : Int)) (.int .i64 (n : Int))).run Tryd.prog W' = .ok (.slice (some ⟨W'.heap.size, 0, none⟩) n n) (W'.alloc (.cells (madeCells #[Value.slice none 0 0] n) 27)) := fun W' =>
    run_make_row' 24 27 (.slice none 0 0) 24 Tryd.underlying24 lineInfo rfl .i64 .i64 n (by omega) (by omega) W'
  rw [madeLine] at hmk
  have hni : (n : Int) ≤ 1048576 := by omega
  clear hp hnl hll
  go_enter Tryd.func24, Tryd.ntmps24
  go_upto_region 2 with fail
  refine name_world fun V hV => ?_
  have HGP := hide (show Blk V w.heap.size 27 (filled n 0 [] (.slice none 0 0)).toArray by rw [← hV.out]; exact Blk.new w _ _)
  have HV := hide (show Below w.heap.size w V by rw [← hV.out]; exact below_alloc w _)
  clear hV hmk
  have hT0 := hide (TrimAt.nil V w.heap.size)
  go_wp2
  go_loopw [12, 4] (fun s12 s4 wr => ∃ (i : Nat) (vs : List Value), i ≤ n ∧ s12 = .int .i64 (i : Int) ∧ s4 = .int .i64 ((Ce.cl ls i : Nat) : Int) ∧ Blk wr w.heap.size 27 (filled n i vs (.slice none 0 0)).toArray ∧ TrimAt wr w.heap.size vs (ls.take i) ∧ Below w.heap.size w wr) (fun s12 _ _ => n - (intOf s12).toNat)
  case atStart => exact ⟨0, [], by omega, rfl, rfl, HGP.out, by rw [List.take_zero]; exact hT0.out, HV.out⟩
  case round =>
    obtain ⟨i, vs, hi, rfl, rfl, hblk, htr, hbel⟩ := hrel
    obtain ⟨wd, rfl⟩ : ∃ wd, wd = wr := ⟨wr, rfl⟩
    have HB := hide hbel
    have HBK := hide hblk
    have HTR := hide htr
    have hclb := Ce.cl_le ls i
    by_cases hlt : i < n
    · obtain ⟨ad, rfl, hkl, A', c', hc0, hc', hr⟩ := HP.out.row i hlt
      have hc : wd.cell? (ad.add i) = some (.slice A' ls[i].length c') := by rw [hbel.cell (block_lt_of_cell hc0)]; exact hc0
      have hi0 : (0 : Int) ≤ (i : Int) := by omega
      have hi1 : (i : Int) < (n : Int) := by omega
      have HLT := hide hlt
      have hlen := HLL.out _ (List.getElem_mem hkl)
      have hrd := (hr.below hbel)
      have C := hide (trimRight_any A' ls[i].length c' ls[i] wd (hrd.more hbel.size) (by omega) hc')
      have hvl : vs.length = i := by have := htr.1; rw [List.length_take] at this; omega
      have hsl : (Ce.strip 0 ls[i]).length ≤ c' := by
        rw [Ce.strip_len]
        have := Ce.st_le 0 ls[i] ls[i].length
        omega
      have hsw := htr.snoc ls[i] A' c' hsl (reads_strip hrd)
      rw [← List.take_succ_eq_append_getElem hkl] at hsw
      have HSW := hide (show TrimAt (wd.setCell ⟨w.heap.size, i, none⟩ (.slice A' (Ce.strip 0 ls[i]).length c')) w.heap.size (vs ++ [.slice A' (Ce.strip 0 ls[i]).length c']) (ls.take (i + 1)) from hsw.below ((Below.refl _ _).setCell (p := ⟨w.heap.size, i, none⟩) (Nat.le_refl _) _))
      have hbn := HBK.out.set_ i (.slice A' (Ce.strip 0 ls[i]).length c')
      rw [filled_next n i vs _ _ hvl hlt] at hbn
      have HBN := hide hbn
      have HB2 := hide (HB.out.setCell (p := ⟨w.heap.size, i, none⟩) (Nat.le_refl _) (.slice A' (Ce.strip 0 ls[i]).length c'))
      have hcp : wd.cell? ⟨w.heap.size, i, none⟩ = some (.slice none 0 0) := by rw [hblk.cell, List.getElem?_toArray]; exact filled_get n i _ _ hvl hlt
      have hfz := hblk.frozen i
      have hcn : (wd.setCell ⟨w.heap.size, i, none⟩ (.slice A' (Ce.strip 0 ls[i]).length c')).cell? ⟨w.heap.size, i, none⟩ = some (.slice A' (Ce.strip 0 ls[i]).length c') := by
        rw [hbn.cell, List.getElem?_toArray]
        unfold filled
        rw [List.getElem?_append_left (by rw [List.length_append]; simp; omega), List.getElem?_append_right (by omega), hvl, Nat.sub_self]
        rfl
      have HCL := hide (Ce.cl_next ls i hkl)
      generalize hm : (Ce.strip 0 ls[i]).length = m at *
      generalize ls[i].length = len at *
      clear hr hc0 hrd hblk htr hbel hlt hvl hsw hbn hc' hsl hm
      clear hkl
      by_cases hm0 : m = 0
      · subst hm0
        have HE := hide (show Ce.cl ls (i + 1) = Ce.cl ls i by have h := HCL.out; rwa [if_pos rfl] at h)
        have hz : ¬ ((0 : Int) < 0) := by omega
        clear HCL
        go_wp2_with (go_at_call 39; refine (unhide C).mono ?_; rintro e w1 ⟨rfl, rfl⟩)
        exact ⟨⟨i + 1, _, HLT.out, by go_num, by rw [HE.out], HBN.out, HSW.out, HB2.out⟩, by have := HLT.out; simp [intOf]; omega⟩
      · have HE := hide (show Ce.cl ls (i + 1) = i + 1 by have h := HCL.out; rwa [if_neg hm0] at h)
        have hz : (0 : Int) < (m : Int) := by omega
        clear HCL hm0
        go_wp2_with (go_at_call 39; refine (unhide C).mono ?_; rintro e w1 ⟨rfl, rfl⟩)
        exact ⟨⟨i + 1, _, HLT.out, by go_num, by rw [HE.out]; go_num, HBN.out, HSW.out, HB2.out⟩, by have := HLT.out; simp [intOf]; omega⟩
    · obtain rfl : i = n := by omega
      have hte : ls.take i = ls := List.take_of_length_le (by have := HNL.out; omega)
      rw [hte] at htr
      rw [filled_full] at hblk
      have hvl : vs.length = i := by rw [htr.1]; exact HNL.out.symm
      have hE : Ce.cl ls i = (Ce.canon ls).length := by rw [Ce.canon_len, ← HNL.out]
      have HPG := hide (htr.pg hbel.size (by rw [← HNL.out]; exact reads_blk hblk hvl))
      have hnt : ¬ ((i : Int) < (i : Int)) := by omega
      rw [hE]
      rw [hE] at hclb
      have hk0 : (0 : Int) ≤ (((Ce.canon ls).length : Nat) : Int) := by omega
      have hk1 : (((Ce.canon ls).length : Nat) : Int) ≤ (i : Int) := by omega
      have hk2 : ¬ ((i : Int) < (((Ce.canon ls).length : Nat) : Int)) := by omega
      generalize hq : (Ce.canon ls).length = q at *
      have HQ := hide hq
      clear hblk htr hbel hlt hte hvl hE HBK HTR hq
      go_wp2
      go_ret
      exact ⟨w.heap.size, by rw [HQ.out]; rfl, by rw [HQ.out]; exact HPG.out, HB.out⟩
set_option maxHeartbeats 2000000 in
set_option maxRecDepth 100000 in
theorem equalFunc_any (A B : Option Addr) (n m c d : Nat) (xs ys : List (List UInt8)) (w : World) (ha : Pg w w.heap.size A n xs) (hb : Pg w w.heap.size B m ys) (hn : n ≤ 1048576) (hm : m ≤ 1048576) :
    Calls Tryd.prog 23 #[.slice A n c, .slice B m d, .func (.func 25) #[] #[]] w fun e w' => e = .returned (.bool (decide (xs = ys))) ∧ w = w' := by
  have hnx : n = xs.length := by obtain ⟨_, _, h, _⟩ := ha; exact h.symm
  have hmy : m = ys.length := by obtain ⟨_, _, h, _⟩ := hb; exact h.symm
  have HNX := hide hnx
  have HMY := hide hmy
  have HA := hide ha
  have HB := hide hb
  by_cases hnm : n = m
  · subst hnm
    have hnn : ((n : Int) != n) = false := by simp
    have hni : (n : Int) ≤ 1048576 := by omega
    clear ha hb hnx hmy hm
    go_enter Tryd.func23, Tryd.ntmps23
    go_wp2
    go_loopw [17] (fun s wr => ∃ k : Nat, k ≤ n ∧ s = .int .i64 (k : Int) ∧ Hid (xs.take k = ys.take k) ∧ w = wr) (fun s _ => n - (intOf s).toNat)
    case atStart => exact ⟨0, by omega, rfl, rfl, by first | rfl | trivial⟩
    case round =>
      obtain ⟨k, hk, rfl, HT, rfl⟩ := hrel
      by_cases hlt : k < n
      · obtain ⟨ad, rfl, hkx, A', c', hca, _, hra⟩ := HA.out.row k hlt
        obtain ⟨bd, rfl, hky, B', d', hcb, _, hrb⟩ := HB.out.row k hlt
        have hk0 : (0 : Int) ≤ (k : Int) := by omega
        have hk1 : (k : Int) < (n : Int) := by omega
        have HLT := hide hlt
        have C := hide (bytesEq_any A' B' xs[k].length ys[k].length c' d' xs[k] ys[k] w hra hrb)
        have HX := hide (List.take_succ_eq_append_getElem hkx)
        have HY := hide (List.take_succ_eq_append_getElem hky)
        by_cases he : xs[k] = ys[k]
        · rw [decide_eq_true he] at C
          have HT2 := hide (show xs.take (k + 1) = ys.take (k + 1) by rw [HX.out, HY.out, HT.out, he])
          generalize xs[k].length = la at *
          generalize ys[k].length = lb at *
          clear hra hrb hlt he HX HY
          clear hkx hky
          go_wp2_with (go_at_call 25; refine (unhide C).mono ?_; rintro e w1 ⟨rfl, rfl⟩)
          exact ⟨⟨k + 1, HLT.out, by go_num, HT2, by first | rfl | trivial⟩, by have := HLT.out; simp [intOf]; omega⟩
        · rw [decide_eq_false he] at C
          have HE := hide (show decide (xs = ys) = false by
            rw [decide_eq_false_iff_not]
            intro h
            subst h
            exact he rfl)
          generalize xs[k].length = la at *
          generalize ys[k].length = lb at *
          clear hra hrb hlt he HX HY
          clear hkx hky
          go_wp2_with (go_at_call 25; refine (unhide C).mono ?_; rintro e w1 ⟨rfl, rfl⟩)
          go_ret
          exact ⟨by rw [HE.out]; rfl, by first | rfl | trivial⟩
      · obtain rfl : k = n := by omega
        have HE := hide (show decide (xs = ys) = true by
          rw [decide_eq_true_iff]
          have h := HT.out
          rwa [List.take_of_length_le (by have := HNX.out; omega), List.take_of_length_le (by have := HMY.out; omega)] at h)
        go_wp2
        go_ret
        exact ⟨by rw [HE.out]; rfl, by first | rfl | trivial⟩
  · have hne : ((n : Int) != m) = true := by rw [bne_iff_ne]; omega
    have hne2 : ¬ ((n : Int) = m) := by omega
    have HE := hide (show decide (xs = ys) = false by
      rw [decide_eq_false_iff_not]
      intro h
      subst h
      omega)
    clear ha hb hnx hmy hnm
    go_enter Tryd.func23, Tryd.ntmps23
    go_wp2
    go_ret
    exact ⟨by rw [HE.out]; rfl, by first | rfl | trivial⟩
/-- whether two pages feel the same -/
def sameB (xs ys : List (List UInt8)) : Bool := decide (Ce.canon xs = Ce.canon ys)
set_option maxHeartbeats 1000000 in
set_option maxRecDepth 100000 in
theorem same_any (A B : Option Addr) (n m c d : Nat) (xs ys : List (List UInt8)) (w : World) (ha : Pg w w.heap.size A n xs) (hb : Pg w w.heap.size B m ys) (hn : n ≤ 1048576) (hm : m ≤ 1048576)
    (hx : ∀ l ∈ xs, l.length ≤ 1048576) (hy : ∀ l ∈ ys, l.length ≤ 1048576) :
    Calls Tryd.prog 11 #[.slice A n c, .slice B m d] w fun e w' => e = .returned (.bool (sameB xs ys)) ∧ Below w.heap.size w w' := by
  have hnx : n = xs.length := by obtain ⟨_, _, h, _⟩ := ha; exact h.symm
  have hmy : m = ys.length := by obtain ⟨_, _, h, _⟩ := hb; exact h.symm
  have hcx : (Ce.canon xs).length ≤ 1048576 := by rw [Ce.canon_len]; have := Ce.cl_le xs xs.length; omega
  have hcy : (Ce.canon ys).length ≤ 1048576 := by rw [Ce.canon_len]; have := Ce.cl_le ys ys.length; omega
  have C1 := hide (canonical_any A n c xs w ha hn hx)
  have C2 := hide (fun (W : World) (hb' : Below w.heap.size w W) => canonical_any B m d ys W (hb.same hb') hm hy)
  unfold sameB
  generalize Ce.canon xs = cx at *
  generalize Ce.canon ys = cy at *
  clear ha hb hnx hmy hx hy
  go_enter Tryd.func11, Tryd.ntmps11
  go_wp2_with (first
    | (go_at_call 24; (with_reducible refine (unhide C1).mono ?_); rintro e w1 ⟨g1, rfl, hp1, hb1⟩; have P1 := hide hp1; have H1 := hide hb1; clear hp1 hb1)
    | (go_at_call 24; (with_reducible refine (unhide C2 w1 H1.out).mono ?_); rintro e w2 ⟨g2, rfl, hp2, hb2⟩; have P2 := hide hp2; have P12 := hide (P1.out.same hb2); have H2 := hide (H1.out.trans (hb2.mono H1.out.size)); clear hp2 hb2)
    | (go_at_call 23; refine (equalFunc_any (some ⟨g1, 0, none⟩) (some ⟨g2, 0, none⟩) cx.length cy.length n m cx cy w2 P12.out P2.out hcx hcy).mono ?_; rintro e w3 ⟨rfl, rfl⟩))
  go_ret
  exact ⟨rfl, H2.out⟩
end Go.Proofs.YtdjmfjmijpfijaaDoor
