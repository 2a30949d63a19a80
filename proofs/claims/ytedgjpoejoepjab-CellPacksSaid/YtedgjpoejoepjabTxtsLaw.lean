/-
  Cells: Parse of the code and of the reference, Short, by contract; CellTexts, walked.
-/
import Derived.Test.YtedgjpoejoepjabDotsLaw
namespace Go.Proofs.Ytedgjpoejoepjab
open Go.RowKit
set_option linter.unusedVariables false
set_option linter.unusedSimpArgs false

namespace Ce
def chr (s : List UInt8) : Bool := s.all fun b => decide (32 ≤ b.toNat) && decide (b.toNat < 96)
theorem chr_bad {l : List UInt8} {b : UInt8} (h : b ∈ l) (hb : ¬ (32 ≤ b.toNat ∧ b.toNat < 96)) : chr l = false := by
  unfold chr
  rw [List.all_eq_false]
  exact ⟨b, h, by simpa using fun h1 => by omega⟩
theorem chr_ok {l : List UInt8} (h : ∀ b ∈ l, 32 ≤ b.toNat ∧ b.toNat < 96) : chr l = true := by
  unfold chr
  rw [List.all_eq_true]
  exact fun b hb => by simpa using h b hb
theorem chr_at {l : List UInt8} (h : chr l = true) : ∀ b ∈ l, 32 ≤ b.toNat ∧ b.toNat < 96 := by
  unfold chr at h
  rw [List.all_eq_true] at h
  exact fun b hb => by simpa using h b hb
def parse (s : List UInt8) : List UInt8 × Int := if chr s then (s.map (· - 32), 0) else ([], 2)
theorem sub32 (x : UInt8) (h : 32 ≤ x.toNat) : (x - 32).toNat = x.toNat - 32 := by
  rw [UInt8.toNat_sub]
  have : (32 : UInt8).toNat = 32 := rfl
  have := x.toNat_lt
  omega
theorem text_parse (s : List UInt8) (h : chr s = true) : text (parse s).1 = s := by
  unfold parse
  rw [h, if_pos rfl]
  have hv : valid (s.map (· - 32)) = true := valid_ok fun b hb => by
    obtain ⟨x, hx, rfl⟩ := List.mem_map.1 hb
    have := chr_at h x hx
    rw [sub32 x this.1]
    omega
  unfold text
  rw [hv, if_pos rfl, List.map_map]
  conv => rhs; rw [← List.map_id s]
  apply List.map_congr_left
  intro x hx
  have := chr_at h x hx
  apply UInt8.toNat_inj.1
  show (32 + (x - 32)).toNat = x.toNat
  rw [UInt8.toNat_add, sub32 x this.1]
  have : (32 : UInt8).toNat = 32 := rfl
  have := x.toNat_lt
  omega
theorem parse_text (l : List UInt8) (h : valid l = true) : parse (text l) = (l, 0) := by
  have ht : text l = l.map (32 + ·) := by unfold text; rw [h]; rfl
  have hx : ∀ x ∈ l, (32 + x).toNat = 32 + x.toNat := fun x hx => by
    have := valid_at h x hx
    rw [UInt8.toNat_add]
    have : (32 : UInt8).toNat = 32 := rfl
    omega
  have hc : chr (text l) = true := chr_ok fun b hb => by
    rw [ht] at hb
    obtain ⟨x, hm, rfl⟩ := List.mem_map.1 hb
    have := valid_at h x hm
    rw [hx x hm]
    omega
  unfold parse
  rw [hc, if_pos rfl, ht, List.map_map]
  congr 1
  conv => rhs; rw [← List.map_id l]
  apply List.map_congr_left
  intro x hm
  apply UInt8.toNat_inj.1
  show (32 + x - 32).toNat = x.toNat
  rw [sub32 _ (by rw [hx x hm]; omega), hx x hm]
  omega
theorem parse_empty_ok (l : List UInt8) (h : valid l = false) : text l = [] := by unfold text; rw [h]; rfl
end Ce
set_option maxHeartbeats 1000000 in
set_option maxRecDepth 100000 in
theorem parse_any (s : List UInt8) (w : World) (hm : s.length ≤ 1099511627776) :
    Calls Try.prog 19 #[.string (S s)] w fun e w' => ∃ A c, e = .returned (.tuple #[.slice A (Ce.parse s).1.length c, .int .i64 (Ce.parse s).2]) ∧ Reads w' w'.heap.size 1 A (Ce.parse s).1.length (BV (Ce.parse s).1) ∧ Below w.heap.size w w' := by
  obtain ⟨n, hn⟩ : ∃ n, n = s.length := ⟨_, rfl⟩
  have hsz : (S s).size = n := by rw [hn]; rfl
  have hmk : ∀ W', (Instr.makeSlice 23 (.int .i64 (n : Int)) (.int .i64 (n : Int))).run Try.prog W' = .ok (.slice (some ⟨W'.heap.size, 0, none⟩) n n) (W'.alloc (.cells (madeCells #[Value.int .u8 0] n) 5)) := fun W' =>
    run_make_row' 23 5 (.int .u8 0) 1 Try.underlying23 byteInfo rfl .i64 .i64 n (by omega) (by omega) W'
  rw [madeU8] at hmk
  have HN := hide hn
  have hn0 : (0 : Int) ≤ (n : Int) := by omega
  have hn1 : (n : Int) ≤ 1099511627776 := by omega
  clear hn hm
  go_enter Try.func19, Try.ntmps19
  go_upto_region 2 with fail
  clear hmk
  refine name_world fun V hV => ?_
  have HB0 := hide (show Blk V w.heap.size 5 (filled n 0 (BV ((s.take 0).map (· - 32))) (.int .u8 0)).toArray by
    rw [← hV.out]
    have h := Blk.new w 5 (BV (List.replicate n 0)).toArray
    have e : filled n 0 (BV ((s.take 0).map (· - 32))) (.int .u8 0) = BV (List.replicate n 0) := by simp [filled, BV]
    rw [e]
    exact h)
  have HV := hide (show Below w.heap.size w V by rw [← hV.out]; exact below_alloc w _)
  clear hV
  go_wp2
  go_loopw [12] (fun s12 wr => ∃ k : Nat, k ≤ n ∧ s12 = .int .i64 (k : Int) ∧ Hid (∀ x ∈ s.take k, 32 ≤ x.toNat ∧ x.toNat < 96) ∧ Blk wr w.heap.size 5 (filled n k (BV ((s.take k).map (· - 32))) (.int .u8 0)).toArray ∧ Below w.heap.size w wr) (fun s12 _ => n - (intOf s12).toNat)
  case atStart => exact ⟨0, by omega, rfl, by simp [Hid], HB0.out, HV.out⟩
  case round =>
    obtain ⟨k, hk, rfl, HG, hblk, hbel⟩ := hrel
    obtain ⟨wd, rfl⟩ : ∃ wd, wd = wr := ⟨wr, rfl⟩
    have HB := hide hbel
    by_cases hlt : k < n
    · have hkl : k < s.length := by have := HN.out; omega
      have hk0 : (0 : Int) ≤ (k : Int) := by omega
      have hk1 : (k : Int) < (n : Int) := by omega
      have hk2 : (k : Int) < (((S s).size : Nat) : Int) := by rw [hsz]; omega
      have HMEM := hide (List.getElem_mem hkl)
      have HT := hide (List.take_succ_eq_append_getElem hkl)
      have HLT := hide hlt
      have hlen : (BV ((s.take k).map (· - 32))).length = k := by rw [BV_len, List.length_map, List.length_take]; omega
      have hcell : wd.cell? ⟨w.heap.size, k, none⟩ = some (.int .u8 0) := by rw [hblk.cell, List.getElem?_toArray]; exact filled_get n k _ _ hlen hlt
      have hfz := hblk.frozen k
      have hbx := s[k].toNat_lt
      have hgx : (S s)[k]'(by rw [hsz]; exact hlt) = s[k] := rfl
      by_cases h1 : 32 ≤ s[k].toNat
      · by_cases h2 : s[k].toNat < 96
        · have HNX := hide (show Blk (wd.setCell ⟨w.heap.size, k, none⟩ (.int .u8 (((s[k].toNat : Nat) : Int) - 32))) w.heap.size 5 (filled n (k + 1) (BV ((s.take (k + 1)).map (· - 32))) (.int .u8 0)).toArray by
            have h := hblk.set_ k (.int .u8 (((s[k].toNat : Nat) : Int) - 32))
            rw [List.setIfInBounds_toArray, filled_set n k _ _ _ hlen hlt] at h
            have e : BV ((s.take k).map (· - 32)) ++ [Value.int .u8 (((s[k].toNat : Nat) : Int) - 32)] = BV ((s.take (k + 1)).map (· - 32)) := by
              rw [HT.out, List.map_append, BV_append]
              congr 1
              simp only [BV, List.map_cons, List.map_nil]
              congr 2
              rw [Ce.sub32 _ h1]
              omega
            rwa [e] at h)
          have HG2 := hide (show ∀ y ∈ s.take (k + 1), 32 ≤ y.toNat ∧ y.toNat < 96 by
            intro y hy
            rw [HT.out] at hy
            rcases List.mem_append.1 hy with hy | hy
            · exact HG.out y hy
            · simp at hy; subst hy; exact ⟨h1, h2⟩)
          have g1 : ¬ (((s[k].toNat : Nat) : Int) < 32) := by omega
          have g2 : ¬ ((96 : Int) ≤ ((s[k].toNat : Nat) : Int)) := by omega
          have g3 : (0 : Int) ≤ ((s[k].toNat : Nat) : Int) := by omega
          have g4 : ((s[k].toNat : Nat) : Int) < 256 := by omega
          clear hblk hbel hlen h1 h2
          go_wp2
          exact ⟨⟨k + 1, HLT.out, by go_num, HG2, HNX.out, HB.out.setCell (p := ⟨w.heap.size, k, none⟩) (Nat.le_refl _) _⟩, by have := HLT.out; simp [intOf]; omega⟩
        · have HF := hide (show Ce.parse s = ([], 2) by unfold Ce.parse; rw [Ce.chr_bad HMEM.out (fun h => h2 h.2)]; rfl)
          have g1 : ¬ (((s[k].toNat : Nat) : Int) < 32) := by omega
          have g2 : ((96 : Int) ≤ ((s[k].toNat : Nat) : Int)) := by omega
          clear hblk hbel hlen h1 h2
          go_wp2
          go_ret2
          first | exact ⟨none, 0, by rw [HF.out]; rfl, by rw [HF.out]; exact reads_zero _ _ _, HB.out⟩ | exact ⟨none, ⟨0, by rw [HF.out]; rfl⟩, by rw [HF.out]; exact reads_zero _ _ _, HB.out⟩
      · have HF := hide (show Ce.parse s = ([], 2) by unfold Ce.parse; rw [Ce.chr_bad HMEM.out (fun h => h1 h.1)]; rfl)
        have g1 : (((s[k].toNat : Nat) : Int) < 32) := by omega
        clear hblk hbel hlen h1
        go_wp2
        go_ret2
        first | exact ⟨none, 0, by rw [HF.out]; rfl, by rw [HF.out]; exact reads_zero _ _ _, HB.out⟩ | exact ⟨none, ⟨0, by rw [HF.out]; rfl⟩, by rw [HF.out]; exact reads_zero _ _ _, HB.out⟩
    · obtain rfl : k = n := by omega
      have hta : s.take k = s := List.take_of_length_le (by have := HN.out; omega)
      have HF := hide (show Ce.parse s = (s.map (· - 32), 0) by unfold Ce.parse; rw [Ce.chr_ok (by have := HG.out; rwa [hta] at this)]; rfl)
      have HEND := hide (show Reads wd wd.heap.size 1 (some ⟨w.heap.size, 0, none⟩) k (BV (s.map (· - 32))) by
        rw [filled_full, hta] at hblk
        refine ⟨by rw [BV_len, List.length_map]; have := HN.out; omega, fun _ => ⟨_, rfl, hblk.lt, fun j u hj => ?_⟩⟩
        rw [show ((⟨w.heap.size, 0, none⟩ : Addr).add j) = ⟨w.heap.size, j, none⟩ by simp [Addr.add]; intro h; omega, hblk.cell, List.getElem?_toArray]
        exact hj)
      clear hblk hbel hlt hta
      go_wp2
      go_ret2
      first | exact ⟨some ⟨w.heap.size, 0, none⟩, k, by rw [HF.out]; simp only [List.length_map, ← HN.out]; rfl, by rw [HF.out]; simp only [List.length_map, ← HN.out]; exact HEND.out, HB.out⟩ | exact ⟨some ⟨w.heap.size, 0, none⟩, ⟨k, by rw [HF.out]; simp only [List.length_map, ← HN.out]; rfl⟩, by rw [HF.out]; simp only [List.length_map, ← HN.out]; exact HEND.out, HB.out⟩
set_option maxHeartbeats 1000000 in
set_option maxRecDepth 100000 in
theorem refParse_any (s : List UInt8) (w : World) (hm : s.length ≤ 1099511627776) :
    Calls Try.prog 20 #[.string (S s)] w fun e w' => ∃ A c, e = .returned (.tuple #[.slice A (Ce.parse s).1.length c, .int .i64 (Ce.parse s).2]) ∧ Reads w' w'.heap.size 1 A (Ce.parse s).1.length (BV (Ce.parse s).1) ∧ Below w.heap.size w w' := by
  obtain ⟨i0, hi, hz0, hz1, hz2⟩ := info_parts byteInfo
  have HI := hide hi
  have HZ0 := hide hz0
  have HZ1 := hide hz1
  have HZ2 := hide hz2
  obtain ⟨n, hn⟩ : ∃ n, n = s.length := ⟨_, rfl⟩
  have hsz : (S s).size = n := by rw [hn]; rfl
  have HN := hide hn
  have hn0 : (0 : Int) ≤ (n : Int) := by omega
  have hn1 : (n : Int) ≤ 1099511627776 := by omega
  have HB0 := hide (Below.refl w.heap.size w)
  clear hn hm hi hz0 hz1 hz2
  go_enter Try.func20, Try.ntmps20
  go_wp2
  go_loopw [5, 4] (fun s5 s4 wr => ∃ k : Nat, k ≤ n ∧ s5 = .int .i64 (k : Int) ∧ Hid (∀ x ∈ s.take k, 32 ≤ x.toNat ∧ x.toNat < 96) ∧ wr.ownsRow w.heap.size 5 1 s4 k (BV ((s.take k).map (· - 32))) ∧ Below w.heap.size w wr) (fun s5 _ _ => n - (intOf s5).toNat)
  case atStart => exact ⟨0, by omega, rfl, by simp [Hid], World.ownsRow_nil _ _ _ _, HB0.out⟩
  case round =>
    obtain ⟨k, hk, rfl, HG, hown, hbel⟩ := hrel
    obtain ⟨wd, rfl⟩ : ∃ wd, wd = wr := ⟨wr, rfl⟩
    have HB := hide hbel
    have HO := hide hown
    by_cases hlt : k < n
    · have hkl : k < s.length := by have := HN.out; omega
      have hk0 : (0 : Int) ≤ (k : Int) := by omega
      have hk1 : (k : Int) < (n : Int) := by omega
      have hk2 : (k : Int) < (((S s).size : Nat) : Int) := by rw [hsz]; omega
      have HMEM := hide (List.getElem_mem hkl)
      have HT := hide (List.take_succ_eq_append_getElem hkl)
      have HLT := hide hlt
      have hbx := s[k].toNat_lt
      have hgx : (S s)[k]'(by rw [hsz]; exact hlt) = s[k] := rfl
      have hws := HB.out.size
      by_cases h1 : 32 ≤ s[k].toNat
      · by_cases h2 : s[k].toNat < 96
        · have HNX := hide (show BV ((s.take (k + 1)).map (· - 32)) = BV ((s.take k).map (· - 32)) ++ [Value.int .u8 (((s[k].toNat : Nat) : Int) - 32)] by
            rw [HT.out, List.map_append, BV_append]
            congr 1
            simp only [BV, List.map_cons, List.map_nil]
            congr 2
            rw [Ce.sub32 _ h1]
            omega)
          have HG2 := hide (show ∀ y ∈ s.take (k + 1), 32 ≤ y.toNat ∧ y.toNat < 96 by
            intro y hy
            rw [HT.out] at hy
            rcases List.mem_append.1 hy with hy | hy
            · exact HG.out y hy
            · simp at hy; subst hy; exact ⟨h1, h2⟩)
          have g1 : ¬ (((s[k].toNat : Nat) : Int) < 32) := by omega
          have g2 : ¬ ((95 : Int) < ((s[k].toNat : Nat) : Int)) := by omega
          have g3 : (0 : Int) ≤ ((s[k].toNat : Nat) : Int) := by omega
          have g4 : ((s[k].toNat : Nat) : Int) < 256 := by omega
          clear hown hbel h1 h2
          go_wp2_with (at_builtin; refine wpList_append_any _ rfl (.tmp 22) (.tmp 27) 23 rfl w.heap.size 5 i0 (.int .u8 0) 1 1 Try.underlying23 HI.out HZ0.out HZ1.out HZ2.out rfl (by omega) _ k _ rfl (HO.out.alloc _) _ (some ⟨wd.heap.size, 0, none⟩) 1 1 [.int .u8 (((s[k].toNat : Nat) : Int) - 32)] rfl (reads_new wd _ _) (by simp [Value.oneCell']) (by unfold maxLen; omega) (by omega) (by simp; omega) ?_; intro v2 w2 hown2 hgrow2 hat2; have HO2 := hide hown2; have HB2 := hide (HB.out.trans ((below_alloc' wd _ hws).trans (below_grown hgrow2 (HO.out.alloc _) (by simp; omega)))); clear hown2 hgrow2 hat2)
          exact ⟨⟨k + 1, HLT.out, by go_num, HG2, by rw [HNX.out]; exact HO2.out, HB2.out⟩, by have := HLT.out; simp [intOf]; omega⟩
        · have HF := hide (show Ce.parse s = ([], 2) by unfold Ce.parse; rw [Ce.chr_bad HMEM.out (fun h => h2 h.2)]; rfl)
          have g1 : ¬ (((s[k].toNat : Nat) : Int) < 32) := by omega
          have g2 : ((95 : Int) < ((s[k].toNat : Nat) : Int)) := by omega
          clear hown hbel h1 h2
          go_wp2
          go_ret2
          first | exact ⟨none, 0, by rw [HF.out]; rfl, by rw [HF.out]; exact reads_zero _ _ _, HB.out⟩ | exact ⟨none, ⟨0, by rw [HF.out]; rfl⟩, by rw [HF.out]; exact reads_zero _ _ _, HB.out⟩
      · have HF := hide (show Ce.parse s = ([], 2) by unfold Ce.parse; rw [Ce.chr_bad HMEM.out (fun h => h1 h.1)]; rfl)
        have g1 : (((s[k].toNat : Nat) : Int) < 32) := by omega
        clear hown hbel h1
        go_wp2
        go_ret2
        first | exact ⟨none, 0, by rw [HF.out]; rfl, by rw [HF.out]; exact reads_zero _ _ _, HB.out⟩ | exact ⟨none, ⟨0, by rw [HF.out]; rfl⟩, by rw [HF.out]; exact reads_zero _ _ _, HB.out⟩
    · obtain rfl : k = n := by omega
      have hta : s.take k = s := List.take_of_length_le (by have := HN.out; omega)
      have HF := hide (show Ce.parse s = (s.map (· - 32), 0) by unfold Ce.parse; rw [Ce.chr_ok (by have := HG.out; rwa [hta] at this)]; rfl)
      rw [hta] at hown
      obtain ⟨A, c, rfl, _, _⟩ := own_slice hown
      have HEND := hide (Reads.of_own hown)
      clear hown hbel hlt hta HO
      go_wp2
      go_ret2
      first | exact ⟨A, c, by rw [HF.out]; simp only [List.length_map, ← HN.out]; rfl, by rw [HF.out]; simp only [List.length_map, ← HN.out]; exact HEND.out, HB.out⟩ | exact ⟨A, ⟨c, by rw [HF.out]; simp only [List.length_map, ← HN.out]; rfl⟩, by rw [HF.out]; simp only [List.length_map, ← HN.out]; exact HEND.out, HB.out⟩
theorem S_take (l : List UInt8) (k : Nat) : (S l).extract 0 k = S (l.take k) := by
  apply ByteArray.ext
  unfold S
  simp
set_option maxHeartbeats 400000 in
set_option maxRecDepth 100000 in
theorem short_any (s : List UInt8) (w : World) (hm : s.length ≤ 140737488355328) :
    Calls Try.prog 18 #[.string (S s), .int .i64 60] w fun e w' => e = .returned (.string (S (s.take 60))) ∧ w = w' := by
  have hsz : (S s).size = s.length := rfl
  by_cases h : 60 < s.length
  · have h1 : (60 : Int) < (((S s).size : Nat) : Int) := by rw [hsz]; omega
    have ht := S_take s 60
    have h2 : (((S s).size : Nat) : Int) ≤ 140737488355328 := by rw [hsz]; omega
    clear h hm
    go_enter Try.func18, Try.ntmps18
    go_wp2
    go_ret
    exact ⟨rfl, rfl⟩
  · have h1 : ¬ (60 : Int) < (((S s).size : Nat) : Int) := by rw [hsz]; omega
    have HT := hide (show s.take 60 = s from List.take_of_length_le (by omega))
    have h2 : (((S s).size : Nat) : Int) ≤ 140737488355328 := by rw [hsz]; omega
    clear h hm
    go_enter Try.func18, Try.ntmps18
    go_wp2
    go_ret
    exact ⟨by rw [HT.out]; rfl, rfl⟩

set_option maxHeartbeats 2000000 in
set_option maxRecDepth 100000 in
theorem texts_walk (A : Option Addr) (n k : Nat) (l s : List UInt8) (w : World) (hr : Reads w w.heap.size 1 A n (BV l)) (hnk : n ≤ k) (hkA : A = none → k = 0) (hk : k ≤ maxLen) (hs : s.length ≤ 140737488351232) :
    Calls Try.prog 4 #[.slice A n k, .string (S s)] w fun e w' => e = .returned (.bool true) ∧ Below w.heap.size w w' := by
  have HLV := hide lives_any
  have HB0 := hide (Below.refl w.heap.size w)
  have hnl := reads_bytes_len hr
  have CF0 := few_any A n k 60 l w hr hnk hkA hk (by omega)
  obtain ⟨sm, hsm⟩ : ∃ sm, sm = l.take (min n 60) := ⟨_, rfl⟩
  have hsl : min n 60 = sm.length := by rw [hsm, List.length_take]; omega
  rw [← hsm, hsl] at CF0
  have CF := hide (show Calls Try.prog 15 #[.slice A n k, .int .i64 60] w fun e w' => ∃ B d, e = .returned (.slice B sm.length d) ∧ Reads w' w'.heap.size 1 B sm.length (BV sm) ∧ sm.length ≤ d ∧ Below w.heap.size w w' from CF0)
  have hsm60 : sm.length ≤ 60 := by omega
  have hsmm : sm.length ≤ maxLen := by unfold maxLen; omega
  obtain ⟨t, ht⟩ : ∃ t, t = s.take 60 := ⟨_, rfl⟩
  have ht60 : t.length ≤ 60 := by rw [ht, List.length_take]; omega
  have CSH := hide (fun W => short_any s W (by omega))
  rw [← ht] at CSH
  have CP := hide (fun W => parse_any t W (by omega))
  have CRP := hide (fun W => refParse_any t W (by omega))
  have CT := hide (fun (W : World) (B : Option Addr) (d : Nat) (h : Reads W W.heap.size 1 B sm.length (BV sm)) => text_any B sm.length d sm W h (by omega))
  have CRT := hide (fun (W : World) (B : Option Addr) (d : Nat) (h : Reads W W.heap.size 1 B sm.length (BV sm)) => refText_any B sm.length d sm W h (by omega))
  have CV := hide (fun (W : World) (B : Option Addr) (d : Nat) (h : Reads W W.heap.size 1 B sm.length (BV sm)) => refValid_any B sm.length d sm W h (by omega))
  have hpl : (Ce.parse t).1.length ≤ 60 := by unfold Ce.parse; split <;> simp; omega
  have CTB := hide (fun (W : World) (B : Option Addr) (d : Nat) (h : Reads W W.heap.size 1 B (Ce.parse t).1.length (BV (Ce.parse t).1)) => text_any B (Ce.parse t).1.length d (Ce.parse t).1 W h (by omega))
  have htl : (Ce.text sm).length ≤ 60 := by unfold Ce.text; split <;> simp; omega
  have CPB := hide (fun W => parse_any (Ce.text sm) W (by omega))
  have hplm : (Ce.parse t).1.length ≤ maxLen := by unfold maxLen; omega
  have hok : Ce.parse t = ((Ce.parse t).1, (Ce.parse t).2) := rfl
  clear hr hnk hkA hk hs CF0 hsm hsl ht hnl hpl
  cases hc : Ce.chr t with
  | true =>
    have h2 : (Ce.parse t).2 = 0 := by unfold Ce.parse; rw [hc]; rfl
    rw [Ce.text_parse t hc] at CTB
    rw [h2] at CP CRP
    generalize (Ce.parse t).1 = pl at *
    cases hv : Ce.valid sm with
    | true =>
      rw [hv] at CV
      rw [Ce.parse_text sm hv] at CPB
      generalize Ce.text sm = u at *
      clear hc hv h2 hok
      go_enter Try.func4, Try.ntmps4
      go_wp2_with (first
        | (go_at_call 15; (with_reducible refine (unhide CF).mono ?_); rintro e w1 ⟨B1, d1, rfl, hr1, _, hb⟩; have H1 := hide (HB0.out.trans (hb.mono HB0.out.size)); have R1 := hide hr1; clear hr1; clear hb)
        | (go_at_call 18; (with_reducible refine (CSH.out _).mono ?_); rintro e w' ⟨rfl, rfl⟩)
        | (go_at_call 19; (with_reducible refine (CP.out w1).mono ?_); rintro e w2 ⟨A2, d2, rfl, hr2, hb⟩; have H2 := hide (H1.out.trans (hb.mono H1.out.size)); have R2 := hide hr2; have R1b := hide ((R1.out.below hb).more hb.size); clear hr2; clear hb)
        | (go_at_call 20; (with_reducible refine (CRP.out w2).mono ?_); rintro e w3 ⟨A3, d3, rfl, hr3, hb⟩; have H3 := hide (H2.out.trans (hb.mono H2.out.size)); have R3 := hide hr3; have R2b := hide ((R2.out.below hb).more hb.size); have R1c := hide ((R1b.out.below hb).more hb.size); clear hr3; clear hb)
        | (go_at_call 21; (with_reducible refine (unhide CT w3 B1 d1 R1c.out).mono ?_); rintro e w4 ⟨rfl, hb⟩; have H4 := hide (H3.out.trans (hb.mono H3.out.size)); have R3b := hide ((R3.out.below hb).more hb.size); have R2c := hide ((R2b.out.below hb).more hb.size); have R1d := hide ((R1c.out.below hb).more hb.size); clear hb)
        | (go_at_call 22; (with_reducible refine (same_eq A2 A3 pl.length d2 d3 pl w4 R2c.out R3b.out hplm).mono ?_); rintro e w5 ⟨rfl, kq, rfl⟩; have H5 := hide (below_drewN H4.out kq); have R1e := hide (show Reads (w4.drewN kq) (w4.drewN kq).heap.size 1 B1 sm.length (BV sm) from R1d.out.drewN kq); have R2d := hide (show Reads (w4.drewN kq) (w4.drewN kq).heap.size 1 A2 pl.length (BV pl) from R2c.out.drewN kq))
        | (go_at_call 23; (with_reducible refine (unhide CRT (w4.drewN kq) B1 d1 R1e.out).mono ?_); rintro e w6 ⟨rfl, hb⟩; have H6 := hide (H5.out.trans (hb.mono H5.out.size)); have R2e := hide ((R2d.out.below hb).more hb.size); have R1f := hide ((R1e.out.below hb).more hb.size); clear hb)
        | (go_at_call 21; (with_reducible refine (unhide CTB w6 A2 d2 R2e.out).mono ?_); rintro e w7 ⟨rfl, hb⟩; have H7 := hide (H6.out.trans (hb.mono H6.out.size)); have R1g := hide ((R1f.out.below hb).more hb.size); clear hb)
        | (go_at_call 19; (with_reducible refine (CPB.out w7).mono ?_); rintro e w8 ⟨A8, d8, rfl, hr8, hb⟩; have H8 := hide (H7.out.trans (hb.mono H7.out.size)); have R8 := hide hr8; have R1h := hide ((R1g.out.below hb).more hb.size); clear hr8; clear hb)
        | (go_at_call 16; (with_reducible refine (unhide CV w8 B1 d1 R1h.out).mono ?_); rintro e w9 ⟨rfl, hb⟩; have H9 := hide (H8.out.trans (hb.mono H8.out.size)); have R8b := hide ((R8.out.below hb).more hb.size); have R1i := hide ((R1h.out.below hb).more hb.size); clear hb)
        | (go_at_call 22; (with_reducible refine (same_eq A8 B1 sm.length d8 d1 sm w9 R8b.out R1i.out hsmm).mono ?_); rintro e w10 ⟨rfl, kr, rfl⟩; have H10 := hide (below_drewN H9.out kr))
        | (go_at_call 17; (with_reducible refine (unhide HLV (w9.drewN kr)).mono ?_); rintro e w11 ⟨rfl, hb⟩; have H11 := hide (H10.out.trans (hb.mono H10.out.size)); clear hb))
      go_ret
      exact ⟨rfl, H11.out⟩
    | false =>
      rw [hv] at CV
      have h3 : Ce.parse (Ce.text sm) = ([], 0) := by rw [Ce.parse_empty_ok sm hv]; rfl
      rw [h3] at CPB
      generalize Ce.text sm = u at *
      clear hc hv h2 hok h3
      go_enter Try.func4, Try.ntmps4
      go_wp2_with (first
        | (go_at_call 15; (with_reducible refine (unhide CF).mono ?_); rintro e w1 ⟨B1, d1, rfl, hr1, _, hb⟩; have H1 := hide (HB0.out.trans (hb.mono HB0.out.size)); have R1 := hide hr1; clear hr1; clear hb)
        | (go_at_call 18; (with_reducible refine (CSH.out _).mono ?_); rintro e w' ⟨rfl, rfl⟩)
        | (go_at_call 19; (with_reducible refine (CP.out w1).mono ?_); rintro e w2 ⟨A2, d2, rfl, hr2, hb⟩; have H2 := hide (H1.out.trans (hb.mono H1.out.size)); have R2 := hide hr2; have R1b := hide ((R1.out.below hb).more hb.size); clear hr2; clear hb)
        | (go_at_call 20; (with_reducible refine (CRP.out w2).mono ?_); rintro e w3 ⟨A3, d3, rfl, hr3, hb⟩; have H3 := hide (H2.out.trans (hb.mono H2.out.size)); have R3 := hide hr3; have R2b := hide ((R2.out.below hb).more hb.size); have R1c := hide ((R1b.out.below hb).more hb.size); clear hr3; clear hb)
        | (go_at_call 21; (with_reducible refine (unhide CT w3 B1 d1 R1c.out).mono ?_); rintro e w4 ⟨rfl, hb⟩; have H4 := hide (H3.out.trans (hb.mono H3.out.size)); have R3b := hide ((R3.out.below hb).more hb.size); have R2c := hide ((R2b.out.below hb).more hb.size); have R1d := hide ((R1c.out.below hb).more hb.size); clear hb)
        | (go_at_call 22; (with_reducible refine (same_eq A2 A3 pl.length d2 d3 pl w4 R2c.out R3b.out hplm).mono ?_); rintro e w5 ⟨rfl, kq, rfl⟩; have H5 := hide (below_drewN H4.out kq); have R1e := hide (show Reads (w4.drewN kq) (w4.drewN kq).heap.size 1 B1 sm.length (BV sm) from R1d.out.drewN kq); have R2d := hide (show Reads (w4.drewN kq) (w4.drewN kq).heap.size 1 A2 pl.length (BV pl) from R2c.out.drewN kq))
        | (go_at_call 23; (with_reducible refine (unhide CRT (w4.drewN kq) B1 d1 R1e.out).mono ?_); rintro e w6 ⟨rfl, hb⟩; have H6 := hide (H5.out.trans (hb.mono H5.out.size)); have R2e := hide ((R2d.out.below hb).more hb.size); have R1f := hide ((R1e.out.below hb).more hb.size); clear hb)
        | (go_at_call 21; (with_reducible refine (unhide CTB w6 A2 d2 R2e.out).mono ?_); rintro e w7 ⟨rfl, hb⟩; have H7 := hide (H6.out.trans (hb.mono H6.out.size)); have R1g := hide ((R1f.out.below hb).more hb.size); clear hb)
        | (go_at_call 19; (with_reducible refine (CPB.out w7).mono ?_); rintro e w8 ⟨A8, d8, rfl, hr8, hb⟩; have H8 := hide (H7.out.trans (hb.mono H7.out.size)); have R8 := hide hr8; have R1h := hide ((R1g.out.below hb).more hb.size); clear hr8; clear hb)
        | (go_at_call 16; (with_reducible refine (unhide CV w8 B1 d1 R1h.out).mono ?_); rintro e w9 ⟨rfl, hb⟩; have H9 := hide (H8.out.trans (hb.mono H8.out.size)); have R8b := hide ((R8.out.below hb).more hb.size); have R1i := hide ((R1h.out.below hb).more hb.size); clear hb)
        | (go_at_call 17; (with_reducible refine (unhide HLV w9).mono ?_); rintro e w11 ⟨rfl, hb⟩; have H11 := hide (H9.out.trans (hb.mono H9.out.size)); clear hb))
      go_ret
      exact ⟨rfl, H11.out⟩
  | false =>
    have h2 : (Ce.parse t).2 = 2 := by unfold Ce.parse; rw [hc]; rfl
    rw [h2] at CP CRP
    generalize (Ce.parse t).1 = pl at *
    cases hv : Ce.valid sm with
    | true =>
      rw [hv] at CV
      rw [Ce.parse_text sm hv] at CPB
      generalize Ce.text sm = u at *
      clear hc hv h2 hok CTB
      go_enter Try.func4, Try.ntmps4
      go_wp2_with (first
        | (go_at_call 15; (with_reducible refine (unhide CF).mono ?_); rintro e w1 ⟨B1, d1, rfl, hr1, _, hb⟩; have H1 := hide (HB0.out.trans (hb.mono HB0.out.size)); have R1 := hide hr1; clear hr1; clear hb)
        | (go_at_call 18; (with_reducible refine (CSH.out _).mono ?_); rintro e w' ⟨rfl, rfl⟩)
        | (go_at_call 19; (with_reducible refine (CP.out w1).mono ?_); rintro e w2 ⟨A2, d2, rfl, hr2, hb⟩; have H2 := hide (H1.out.trans (hb.mono H1.out.size)); have R2 := hide hr2; have R1b := hide ((R1.out.below hb).more hb.size); clear hr2; clear hb)
        | (go_at_call 20; (with_reducible refine (CRP.out w2).mono ?_); rintro e w3 ⟨A3, d3, rfl, hr3, hb⟩; have H3 := hide (H2.out.trans (hb.mono H2.out.size)); have R3 := hide hr3; have R2b := hide ((R2.out.below hb).more hb.size); have R1c := hide ((R1b.out.below hb).more hb.size); clear hr3; clear hb)
        | (go_at_call 21; (with_reducible refine (unhide CT w3 B1 d1 R1c.out).mono ?_); rintro e w4 ⟨rfl, hb⟩; have H4 := hide (H3.out.trans (hb.mono H3.out.size)); have R3b := hide ((R3.out.below hb).more hb.size); have R2c := hide ((R2b.out.below hb).more hb.size); have R1d := hide ((R1c.out.below hb).more hb.size); clear hb)
        | (go_at_call 22; (with_reducible refine (same_eq A2 A3 pl.length d2 d3 pl w4 R2c.out R3b.out hplm).mono ?_); rintro e w5 ⟨rfl, kq, rfl⟩; have H5 := hide (below_drewN H4.out kq); have R1e := hide (show Reads (w4.drewN kq) (w4.drewN kq).heap.size 1 B1 sm.length (BV sm) from R1d.out.drewN kq); have R2d := hide (show Reads (w4.drewN kq) (w4.drewN kq).heap.size 1 A2 pl.length (BV pl) from R2c.out.drewN kq))
        | (go_at_call 23; (with_reducible refine (unhide CRT (w4.drewN kq) B1 d1 R1e.out).mono ?_); rintro e w6 ⟨rfl, hb⟩; have H6 := hide (H5.out.trans (hb.mono H5.out.size)); have R2e := hide ((R2d.out.below hb).more hb.size); have R1f := hide ((R1e.out.below hb).more hb.size); clear hb)
        | (go_at_call 19; (with_reducible refine (CPB.out w6).mono ?_); rintro e w8 ⟨A8, d8, rfl, hr8, hb⟩; have H8 := hide (H6.out.trans (hb.mono H6.out.size)); have R8 := hide hr8; have R1h := hide ((R1f.out.below hb).more hb.size); clear hr8; clear hb)
        | (go_at_call 16; (with_reducible refine (unhide CV w8 B1 d1 R1h.out).mono ?_); rintro e w9 ⟨rfl, hb⟩; have H9 := hide (H8.out.trans (hb.mono H8.out.size)); have R8b := hide ((R8.out.below hb).more hb.size); have R1i := hide ((R1h.out.below hb).more hb.size); clear hb)
        | (go_at_call 22; (with_reducible refine (same_eq A8 B1 sm.length d8 d1 sm w9 R8b.out R1i.out hsmm).mono ?_); rintro e w10 ⟨rfl, kr, rfl⟩; have H10 := hide (below_drewN H9.out kr))
        | (go_at_call 17; (with_reducible refine (unhide HLV (w9.drewN kr)).mono ?_); rintro e w11 ⟨rfl, hb⟩; have H11 := hide (H10.out.trans (hb.mono H10.out.size)); clear hb))
      go_ret
      exact ⟨rfl, H11.out⟩
    | false =>
      rw [hv] at CV
      have h3 : Ce.parse (Ce.text sm) = ([], 0) := by rw [Ce.parse_empty_ok sm hv]; rfl
      rw [h3] at CPB
      generalize Ce.text sm = u at *
      clear hc hv h2 hok h3 CTB
      go_enter Try.func4, Try.ntmps4
      go_wp2_with (first
        | (go_at_call 15; (with_reducible refine (unhide CF).mono ?_); rintro e w1 ⟨B1, d1, rfl, hr1, _, hb⟩; have H1 := hide (HB0.out.trans (hb.mono HB0.out.size)); have R1 := hide hr1; clear hr1; clear hb)
        | (go_at_call 18; (with_reducible refine (CSH.out _).mono ?_); rintro e w' ⟨rfl, rfl⟩)
        | (go_at_call 19; (with_reducible refine (CP.out w1).mono ?_); rintro e w2 ⟨A2, d2, rfl, hr2, hb⟩; have H2 := hide (H1.out.trans (hb.mono H1.out.size)); have R2 := hide hr2; have R1b := hide ((R1.out.below hb).more hb.size); clear hr2; clear hb)
        | (go_at_call 20; (with_reducible refine (CRP.out w2).mono ?_); rintro e w3 ⟨A3, d3, rfl, hr3, hb⟩; have H3 := hide (H2.out.trans (hb.mono H2.out.size)); have R3 := hide hr3; have R2b := hide ((R2.out.below hb).more hb.size); have R1c := hide ((R1b.out.below hb).more hb.size); clear hr3; clear hb)
        | (go_at_call 21; (with_reducible refine (unhide CT w3 B1 d1 R1c.out).mono ?_); rintro e w4 ⟨rfl, hb⟩; have H4 := hide (H3.out.trans (hb.mono H3.out.size)); have R3b := hide ((R3.out.below hb).more hb.size); have R2c := hide ((R2b.out.below hb).more hb.size); have R1d := hide ((R1c.out.below hb).more hb.size); clear hb)
        | (go_at_call 22; (with_reducible refine (same_eq A2 A3 pl.length d2 d3 pl w4 R2c.out R3b.out hplm).mono ?_); rintro e w5 ⟨rfl, kq, rfl⟩; have H5 := hide (below_drewN H4.out kq); have R1e := hide (show Reads (w4.drewN kq) (w4.drewN kq).heap.size 1 B1 sm.length (BV sm) from R1d.out.drewN kq); have R2d := hide (show Reads (w4.drewN kq) (w4.drewN kq).heap.size 1 A2 pl.length (BV pl) from R2c.out.drewN kq))
        | (go_at_call 23; (with_reducible refine (unhide CRT (w4.drewN kq) B1 d1 R1e.out).mono ?_); rintro e w6 ⟨rfl, hb⟩; have H6 := hide (H5.out.trans (hb.mono H5.out.size)); have R2e := hide ((R2d.out.below hb).more hb.size); have R1f := hide ((R1e.out.below hb).more hb.size); clear hb)
        | (go_at_call 19; (with_reducible refine (CPB.out w6).mono ?_); rintro e w8 ⟨A8, d8, rfl, hr8, hb⟩; have H8 := hide (H6.out.trans (hb.mono H6.out.size)); have R8 := hide hr8; have R1h := hide ((R1f.out.below hb).more hb.size); clear hr8; clear hb)
        | (go_at_call 16; (with_reducible refine (unhide CV w8 B1 d1 R1h.out).mono ?_); rintro e w9 ⟨rfl, hb⟩; have H9 := hide (H8.out.trans (hb.mono H8.out.size)); have R8b := hide ((R8.out.below hb).more hb.size); have R1i := hide ((R1h.out.below hb).more hb.size); clear hb)
        | (go_at_call 17; (with_reducible refine (unhide HLV w9).mono ?_); rintro e w11 ⟨rfl, hb⟩; have H11 := hide (H9.out.trans (hb.mono H9.out.size)); clear hb))
      go_ret
      exact ⟨rfl, H11.out⟩
end Go.Proofs.Ytedgjpoejoepjab
