/-
  Int, addBytes and Bytes by their contracts.
-/
import Derived.Test.YtdjmfjmijpfijaaEnc1
import Derived.Test.YtdjmfjmijpfijaaDec2
import Derived.Lib.AppendStr
namespace Go.Proofs.Ytdjmfjmijpfijaa
open Go.RowKit
set_option linter.unusedVariables false
set_option linter.unusedSimpArgs false
/-- addInt: the encoding of an integer is appended -/
theorem addInt_any (base : Nat) (A : Option Addr) (n c : Nat) (z : Int) (l : List UInt8) (w : World) (hown : w.ownsRow base 5 1 (.slice A n c) n (BV l)) (hb : base ≤ w.heap.size) (hn : n ≤ 17592186044416) (hz : Wr.inI z) :
    Calls Try.prog 31 #[.slice A n c, .int .i64 z] w fun e w' => ∃ v, e = .returned v ∧ w'.ownsRow base 5 1 v (n + (Wr.enc z).length) (BV (l ++ Wr.enc z)) ∧ Below base w w' := by
  have hl := Wr.enc_len z
  have hm := Wr.mag_lt hz
  rw [hl]
  by_cases h : z < 0
  · have hmz : -1 - z = (Wr.mag z : Int) := by unfold Wr.mag; rw [if_pos h]; omega
    have hf : Wr.flip z = 255 := by unfold Wr.flip; rw [if_pos h]
    refine (addInt_neg base A n c (Wr.mag z) z l w hown hb hn hm h hmz).mono fun e w' ⟨v, he, ho⟩ => ⟨v, he, ?_, below_grown ho.grow hown hb⟩
    have := ho.own
    unfold Wr.enc
    rw [hf]
    exact this
  · have hmz : z = (Wr.mag z : Int) := by unfold Wr.mag; rw [if_neg h]; omega
    have hf : Wr.flip z = 0 := by unfold Wr.flip; rw [if_neg h]
    refine (addInt_pos base A n c (Wr.mag z) z l w hown hb hn hm hmz).mono fun e w' ⟨v, he, ho⟩ => ⟨v, he, ?_, below_grown ho.grow hown hb⟩
    have := ho.own
    unfold Wr.enc
    rw [hf]
    exact this

set_option maxHeartbeats 400000 in
set_option maxRecDepth 100000 in
/-- Int, for every integer -/
theorem int_any (z : Int) (w : World) (hz : Wr.inI z) :
    Calls Try.prog 30 #[.int .i64 z] w fun e w' => ∃ v, e = .returned v ∧ w'.ownsRow w.heap.size 5 1 v (Wr.enc z).length (BV (Wr.enc z)) ∧ Below w.heap.size w w' := by
  have HA := hide (fun c (w1 : World) (h : w1.ownsRow w.heap.size 5 1 (.slice (some ⟨w.heap.size, 0, none⟩) 0 c) 0 []) (hs : w.heap.size ≤ w1.heap.size) =>
    addInt_any w.heap.size (some ⟨w.heap.size, 0, none⟩) 0 c z [] w1 h hs (by omega) hz)
  have hz2 := hz
  unfold Wr.inI at hz2
  obtain ⟨i0, hi, hz0, hz1, hz3⟩ := info_parts byteInfo
  have HI := hide hi
  have HZ0 := hide hz0
  have HZ1 := hide hz1
  have HZ2 := hide hz3
  clear hi hz0 hz1 hz3 hz
  go_enter Try.func30, Try.ntmps30
  go_wp2_with (at_make; refine wpList_make_own _ rfl _ _ 23 rfl w.heap.size 5 i0 (.int .u8 0) 1 Try.underlying23 HI.out HZ0.out HZ1.out _ _ _ 9 rfl rfl (by omega) (by rw [HZ2.out]; omega) (by unfold maxLen; omega) (Nat.le_refl _) ?_; intro w1 hown1 hgrow1)
  refine (unhide HA _ w1 hown1 hgrow1.size).mono ?_
  rintro e w2 ⟨v2, rfl, hown2, hb2⟩
  have HO2 := hide hown2
  have HB := hide (((Below.refl w.heap.size w).grown hgrow1 (Nat.le_refl _) (by simp)).trans hb2)
  clear hown1 hgrow1 hown2 hb2
  go_wp2
  go_ret
  refine ⟨v2, rfl, ?_, HB.out⟩
  have := HO2.out
  rw [Nat.zero_add, List.nil_append] at this
  exact this

set_option maxHeartbeats 400000 in
set_option maxRecDepth 100000 in
/-- addBytes: the encoding of a string is appended -/
theorem addBytes_any (base : Nat) (A : Option Addr) (n c : Nat) (s l : List UInt8) (w : World) (hown : w.ownsRow base 5 1 (.slice A n c) n (BV l)) (hb : base ≤ w.heap.size) (hn : n + s.length ≤ 17592186044416) :
    Calls Try.prog 17 #[.slice A n c, .string (S s)] w fun e w' => ∃ v, e = .returned v ∧ w'.ownsRow base 5 1 v (n + (Wr.enc s.length).length + s.length) (BV (l ++ Wr.enc s.length ++ s)) ∧ Below base w w' := by
  have hsz : (S s).size = s.length := rfl
  have hcells : Lib.strCells (S s) = BV s := rfl
  have hfin : ∀ (v : Value) (w' : World), w'.ownsRow base 5 1 v (n + (Wr.enc ((S s).size : Int)).length + (S s).size) (BV (l ++ Wr.enc ((S s).size : Int)) ++ Lib.strCells (S s)) → w'.ownsRow base 5 1 v (n + (Wr.enc s.length).length + s.length) (BV (l ++ Wr.enc s.length ++ s)) := by
    intro v w' h
    rw [hcells, hsz, ← BV_append] at h
    exact h
  have HF := hide hfin
  have H := hide (addInt_any base A n c ((S s).size : Int) l w hown hb (by omega) (by unfold Wr.inI; omega))
  have hE := Wr.enc_le ((S s).size : Int)
  have hle : (S s).size ≤ 17592186044416 := by omega
  obtain ⟨i0, hi, hz0, hz1, hz2⟩ := info_parts byteInfo
  have HI := hide hi
  have HZ0 := hide hz0
  have HZ1 := hide hz1
  have HZ2 := hide hz2
  have hn2 : n ≤ 17592186044416 := by omega
  clear hi hz0 hz1 hz2 hown hsz hcells hfin hn
  generalize hSS : S s = str at *
  clear hSS
  go_enter Try.func17, Try.ntmps17
  go_wp2_with fail
  refine (unhide H).mono ?_
  rintro e w1 ⟨v1, rfl, hown1, hb1⟩
  have HO1 := hide hown1
  have hsz1 := hb1.size
  clear hown1
  go_wp2_with (at_builtin; refine Lib.wpList_append_own_string _ rfl (.tmp 8) (.tmp 9) 23 9 rfl base 5 i0 Try.underlying23 Try.underlying9 HI.out HZ0.out HZ1.out HZ2.out v1 (n + (Wr.enc (str.size : Int)).length) (BV (l ++ Wr.enc (str.size : Int))) rfl HO1.out str rfl (by unfold maxLen; omega) (by omega) (by omega) ?_; intro v2 w2 hown2 hgrow2 _)
  have HO2 := hide (HF.out v2 w2 hown2)
  have HB2 := hide (hb1.trans (below_grown hgrow2 HO1.out (by omega)))
  clear hown2 hgrow2
  go_wp2
  go_ret
  exact ⟨v2, rfl, HO2.out, HB2.out⟩

end Go.Proofs.Ytdjmfjmijpfijaa
