/-
  Cells: Encode, Decode; Decode of the reference; by contract.
-/
import Derived.Test.YtdjmfjmijpfijaaLinesC
namespace Go.Proofs.Ytdjmfjmijpfijaa
open Go.RowKit
set_option linter.unusedVariables false
set_option linter.unusedSimpArgs false
theorem madeText (n : Nat) : madeCells #[Value.string ByteArray.empty] n = (filled n 0 [] (Value.string ByteArray.empty)).toArray := by
  apply Array.toList_inj.1
  rw [toList_madeCells_one]
  simp [filled]
/-- the bytes of a page -/
def encP (ls : List (List UInt8)) : List UInt8 := Wr.enc ls.length ++ Wr.encL Wr.encB ls
theorem filled_next (n i : Nat) (xs : List Value) (z v : Value) (h : xs.length = i) (hi : i < n) : ((filled n i xs z).toArray).setIfInBounds i v = (filled n (i + 1) (xs ++ [v]) z).toArray := by
  apply Array.toList_inj.1
  rw [Array.toList_setIfInBounds]
  exact filled_set n i xs z v h hi
theorem reads_blk {w : World} {g n : Nat} {t : TypeId} {xs : List Value} (h : Blk w g t xs.toArray) (hn : xs.length = n) : Reads w w.heap.size 1 (some ⟨g, 0, none⟩) n xs :=
  ⟨by rw [hn, Nat.mul_one], fun _ => ⟨_, rfl, h.lt, fun j u hj => by
    have : ((⟨g, 0, none⟩ : Addr).add j) = ⟨g, j, none⟩ := by simp [Addr.add]; intro h; omega
    rw [this, h.cell, List.getElem?_toArray]
    exact hj⟩⟩
set_option maxHeartbeats 1000000 in
set_option maxRecDepth 100000 in
theorem encode_any (A : Option Addr) (n c : Nat) (ls : List (List UInt8)) (w : World) (hp : Pg w w.heap.size A n ls) (hn : n ≤ 1048576) (hbig : (Wr.encL Wr.encB ls).length ≤ 8796093022208) :
    Calls Try.prog 5 #[.slice A n c] w fun e w' => ∃ v, e = .returned v ∧ w'.ownsRow w.heap.size 5 1 v (encP ls).length (BV (encP ls)) ∧ Below w.heap.size w w' := by
  have HP := hide hp
  have hnl : n = ls.length := by obtain ⟨_, _, h, _⟩ := hp; exact h.symm
  have HNL := hide hnl
  have hmk : ∀ W', (Instr.makeSlice 30 (.int .i64 (n : Int)) (.int .i64 (n : Int))).run Try.prog W' = .ok (.slice (some ⟨W'.heap.size, 0, none⟩) n n) (W'.alloc (.cells (madeCells #[Value.string ByteArray.empty] n) 9)) := fun W' =>
    run_make_row' 30 9 (.string ByteArray.empty) 16 Try.underlying30 textInfo rfl .i64 .i64 n (by omega) (by omega) W'
  rw [madeText] at hmk
  have CS := hide (fun (W : World) (hr : Reads W W.heap.size 1 (some ⟨w.heap.size, 0, none⟩) n (ls.map VS)) => strings_any (some ⟨w.heap.size, 0, none⟩) n n ls W hr (Nat.le_refl _) (by omega) hbig)
  have hni : (n : Int) ≤ 1048576 := by omega
  clear hp hnl hbig
  go_enter Try.func5, Try.ntmps5
  go_upto_region 2 with fail
  refine name_world fun V hV => ?_
  have HGP := hide (show Blk V w.heap.size 9 (filled n 0 ((ls.take 0).map VS) (.string ByteArray.empty)).toArray by
    rw [← hV.out]
    exact Blk.new w _ _)
  have HV := hide (show Below w.heap.size w V by rw [← hV.out]; exact below_alloc w _)
  clear hV hmk
  have HVS := hide HGP.out.lt
  go_wp2
  go_loopw [11] (fun s11 wr => ∃ i : Nat, i ≤ n ∧ s11 = .int .i64 (i : Int) ∧ Blk wr w.heap.size 9 (filled n i ((ls.take i).map VS) (.string ByteArray.empty)).toArray ∧ Below w.heap.size w wr) (fun s11 _ => n - (intOf s11).toNat)
  case atStart => exact ⟨0, by omega, rfl, HGP.out, HV.out⟩
  case round =>
    obtain ⟨i, hi, rfl, hblk, hbel⟩ := hrel
    obtain ⟨wd, rfl⟩ : ∃ wd, wd = wr := ⟨wr, rfl⟩
    have HB := hide hbel
    have HBK := hide hblk
    by_cases hlt : i < n
    · obtain ⟨ad, rfl, hkl, A', c', hc0, hc', hr⟩ := HP.out.row i hlt
      have hc : wd.cell? (ad.add i) = some (.slice A' ls[i].length c') := by rw [hbel.cell (block_lt_of_cell hc0)]; exact hc0
      have hi0 : (0 : Int) ≤ (i : Int) := by omega
      have hi1 : (i : Int) < (n : Int) := by omega
      have HLT := hide hlt
      have hti : ((ls.take i).map VS).length = i := by rw [List.length_map, List.length_take]; omega
      have hcv : (convert 23 9 (.slice A' ls[i].length c')).run Try.prog wd = .ok (.string (S ls[i])) wd := run_conv_reads ((hr.below hbel)) 23 9 5 c' Try.underlying23 Try.underlying5 Try.underlying9
      have HNX := hide (show (filled n (i + 1) ((ls.take (i + 1)).map VS) (.string ByteArray.empty)).toArray = ((filled n i ((ls.take i).map VS) (.string ByteArray.empty)).toArray).setIfInBounds i (.string (S ls[i])) by
        rw [filled_next n i _ _ _ hti hlt, List.take_succ_eq_append_getElem hkl, List.map_append]; rfl)
      have hcp : wd.cell? ⟨w.heap.size, i, none⟩ = some (.string ByteArray.empty) := by rw [hblk.cell, List.getElem?_toArray]; exact filled_get n i _ _ hti hlt
      have hfz := hblk.frozen i
      generalize ls[i] = l at *
      clear hr hc0 hblk hbel hlt hc' hti
      clear hkl
      go_wp2
      refine ⟨⟨i + 1, HLT.out, by go_num, ?_, ?_⟩, by have := HLT.out; simp [intOf]; omega⟩
      · rw [HNX.out]; exact HBK.out.set_ i _
      · exact HB.out.setCell (Nat.le_refl _) _
    · obtain rfl : i = n := by omega
      have hnt : ¬ ((i : Int) < (i : Int)) := by omega
      have hte : ls.take i = ls := List.take_of_length_le (by have := HNL.out; omega)
      rw [hte, filled_full] at hblk
      have HC := hide (unhide CS wd (reads_blk hblk (by rw [List.length_map]; exact HNL.out.symm)))
      clear hblk hbel hlt hte CS HBK
      go_wp2_with (go_at_call 7; refine (unhide HC).mono ?_; rintro e w1 ⟨v, rfl, hown, hb⟩; have HO := hide hown; have H1 := hide hb; clear hown hb)
      go_ret
      refine ⟨_, rfl, ?_, HB.out.trans (H1.out.mono HB.out.size)⟩
      have h := own_lower HO.out HB.out.size
      unfold encP
      rw [List.length_append]
      exact h
end Go.Proofs.Ytdjmfjmijpfijaa
