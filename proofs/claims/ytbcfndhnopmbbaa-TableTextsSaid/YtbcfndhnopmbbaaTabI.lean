/-
  Tables: texts in memory; valid and every over characters; inside; by contract.
-/
import Derived.Test.YtbcfndhnopmbbaaTabH
namespace Go.Proofs.Ytbcfndhnopmbbaa
open Go.RowKit
set_option linter.unusedVariables false
set_option linter.unusedSimpArgs false
/-- a character as cells -/
def syC (x : Int × UInt8) : List Value := [.int .i64 x.1, .int .u8 (x.2.toNat : Int)]
def SC (l : Tb.Text) : List Value := l.flatMap syC
theorem SC_len (es : Tb.Text) : (SC es).length = es.length * 2 := by
  induction es with
  | nil => rfl
  | cons e r ih =>
    unfold SC at ih ⊢
    rw [List.flatMap_cons, List.length_append, ih, List.length_cons]
    show 2 + _ = _
    omega
theorem SC_get (es : Tb.Text) (k j : Nat) (h : k < es.length) (hj : j < 2) : (SC es)[k * 2 + j]? = (syC es[k])[j]? := by
  induction es generalizing k with
  | nil => exact absurd h (by simp)
  | cons e r ih =>
    unfold SC at ih ⊢
    rw [List.flatMap_cons]
    cases k with
    | zero => rw [List.getElem?_append_left (by show 0 * 2 + j < 2; omega), Nat.zero_mul, Nat.zero_add]; rfl
    | succ k =>
      have h' : k < r.length := by simpa using h
      rw [List.getElem?_append_right (by show 2 ≤ _; omega)]
      show (r.flatMap syC)[(k + 1) * 2 + j - 2]? = _
      rw [show (k + 1) * 2 + j - 2 = k * 2 + j by omega, ih k h']
      rfl
theorem SC_append (a b : Tb.Text) : SC (a ++ b) = SC a ++ SC b := by unfold SC; rw [List.flatMap_append]
/-- a text in memory below B -/
def TextAt (w : World) (B : Nat) (A : Option Addr) (l : Tb.Text) : Prop := Reads w B 2 A l.length (SC l) ∧ l.length ≤ 1048576
theorem TextAt.below {w w' : World} {B : Nat} {A : Option Addr} {l : Tb.Text} (h : TextAt w B A l) (hb : Below B w w') : TextAt w' B A l := ⟨h.1.below hb, h.2⟩
theorem TextAt.more {w : World} {B B' : Nat} {A : Option Addr} {l : Tb.Text} (h : TextAt w B A l) (hB : B ≤ B') : TextAt w B' A l := ⟨h.1.more hB, h.2⟩
theorem TextAt.same {w w' : World} {A : Option Addr} {l : Tb.Text} (h : TextAt w w.heap.size A l) (hb : Below w.heap.size w w') : TextAt w' w'.heap.size A l := (h.below hb).more hb.size
theorem at_get (l : Tb.Text) (k : Nat) (hk : k < l.length) : Tb.at_ l k = l[k] := by unfold Tb.at_; simp [List.getD, hk]
/-- the cells of a character -/
theorem reads_sym {w : World} {B : Nat} {A : Option Addr} {l : Tb.Text} (h : TextAt w B A l) (k : Nat) (hk : k < l.length) :
    ∃ ad, A = some ad ∧ ad.block < B ∧ w.cell? (ad.add (k * 2)) = some (.int .i64 (Tb.at_ l k).1) ∧ w.cell? (ad.add (k * 2 + 1)) = some (.int .u8 ((Tb.at_ l k).2.toNat : Int)) := by
  obtain ⟨ad, hA, hb, hc⟩ := h.1.2 (by omega)
  rw [at_get l k hk]
  exact ⟨ad, hA, hb, hc _ _ (by rw [show k * 2 = k * 2 + 0 from rfl, SC_get l k 0 hk (by decide)]; rfl), hc _ _ (by rw [SC_get l k 1 hk (by decide)]; rfl)⟩
theorem reads_sym' {w : World} {B : Nat} {A : Option Addr} {l : Tb.Text} (h : TextAt w B A l) (k : Nat) (hk : k < l.length) :
    ∃ ad, A = some ad ∧ ad.block < B ∧ w.cell? (ad.add (k * 2)) = some (.int .i64 (Tb.at_ l k).1) ∧ w.cell? ⟨(ad.add (k * 2)).block, (ad.add (k * 2)).off + 1, none⟩ = some (.int .u8 ((Tb.at_ l k).2.toNat : Int)) := by
  obtain ⟨ad, h1, h2, h3, h4⟩ := reads_sym h k hk
  refine ⟨ad, h1, h2, h3, ?_⟩
  rw [← h4, ← add_of_add]
  rfl
theorem sym_cells (x : Int × UInt8) (w : World) (ad : Addr) (k : Nat) (h0 : w.cell? (ad.add (k * 2)) = some (.int .i64 x.1)) (h1 : w.cell? (ad.add (k * 2 + 1)) = some (.int .u8 (x.2.toNat : Int))) :
    ∀ (j : Nat) (v : Value), ([.int .i64 x.1, .int .u8 (x.2.toNat : Int)] : List Value)[j]? = some v → w.cell? ((ad.add (k * 2)).add j) = some v := by
  intro j v hv
  rw [add_of_add]
  match j, hv with
  | 0, hv => rw [Nat.add_zero, h0]; exact hv
  | 1, hv => rw [h1]; exact hv
  | j + 2, hv => exact absurd hv (by simp)
theorem symInfo : (Try.prog.info? 67).map (·.size) = some 2 := by kernel_rfl
set_option maxHeartbeats 1000000 in
theorem symvalid_any (x : Int × UInt8) (w : World) :
    Calls Try.prog 50 #[.agg #[.int .i64 x.1, .int .u8 (x.2.toNat : Int)]] w fun e w' => e = .returned (.bool (Tb.symOk x)) ∧ Below w.heap.size w w' := by
  have CL := hide (fun W => language_any W x.1)
  have CC := hide (fun W => character_any x.2 W)
  have HS := hide (show Tb.symOk x = (Tb.langOk x.1 && Tb.written x.2) from rfl)
  unfold VC at CC
  generalize Tb.symOk x = res at *
  generalize Tb.langOk x.1 = b1 at *
  generalize Tb.written x.2 = b2 at *
  generalize x.1 = l at *
  generalize x.2.toNat = n at *
  have HB := hide (below_alloc w (.cells #[.int .i64 l, .int .u8 (n : Int)] 67))
  cases b1 <;>
  · go_enter Try.func50, Try.ntmps50
    go_wp2_with (first
      | (go_at_call 45; refine (unhide CL _).mono ?_; rintro e w1 ⟨rfl, rfl⟩)
      | (go_at_call 47; refine (unhide CC _).mono ?_; rintro e w1 ⟨rfl, rfl⟩))
    go_ret
    exact ⟨by rw [HS.out]; rfl, HB.out⟩
set_option maxHeartbeats 2000000 in
set_option maxRecDepth 100000 in
theorem every_valid (A : Option Addr) (c : Nat) (rs : Tb.Text) (w : World) (hr : TextAt w w.heap.size A rs) :
    Calls Try.prog 49 #[.slice A rs.length c, .func (.func 50) #[] #[]] w fun e w' => e = .returned (.bool (rs.all Tb.symOk)) ∧ Below w.heap.size w w' := by
  have hbig := hr.2
  obtain ⟨n, hn⟩ : ∃ n, n = rs.length := ⟨_, rfl⟩
  have HN := hide hn
  rw [← hn] at hbig ⊢
  have hni : (n : Int) ≤ 1048576 := by omega
  have HR := hide hr
  clear hn hr
  generalize hres : rs.all Tb.symOk = res at *
  have HRES := hide hres
  have HW := hide (Below.refl w.heap.size w)
  clear hres
  go_enter Try.func49, Try.ntmps49
  go_wp2
  go_loopw [9] (fun s wr => ∃ i : Nat, i ≤ n ∧ s = .int .i64 (i : Int) ∧ Hid ((rs.take i).all Tb.symOk = true) ∧ Below w.heap.size w wr) (fun s _ => n - (intOf s).toNat)
  case atStart => exact ⟨0, by omega, rfl, by rw [List.take_zero]; exact rfl, HW.out⟩
  case round =>
    obtain ⟨i, hi, rfl, HT, hbel⟩ := hrel
    obtain ⟨wd, rfl⟩ : ∃ wd, wd = wr := ⟨wr, rfl⟩
    have HB := hide hbel
    by_cases hlt : i < n
    · have hil : i < rs.length := by rw [← HN.out]; exact hlt
      obtain ⟨ad, rfl, hadb, hc0, hc1⟩ := reads_sym HR.out i hil
      rw [at_get rs i hil] at hc0 hc1
      have HEC := hide (sym_cells rs[i] wd ad i (by rw [HB.out.cell (by rw [block_of_add]; exact hadb)]; exact hc0) (by rw [HB.out.cell (by rw [block_of_add]; exact hadb)]; exact hc1))
      have hi0 : (0 : Int) ≤ (i : Int) := by omega
      have hi1 : (i : Int) < (n : Int) := by omega
      have HLT := hide hlt
      have C := hide (fun (W : World) => symvalid_any rs[i] W)
      have HTS := hide (all_take_succ Tb.symOk rs i hil)
      have HBAD := hide (all_bad Tb.symOk rs i hil)
      generalize rs[i] = r at *
      clear hc0 hc1 hlt hil hbel
      generalize hok : Tb.symOk r = ok at *
      have HOK := hide hok
      clear hok
      generalize r.1 = rl at *
      generalize r.2.toNat = rc at *
      go_upto_region 4 with (with_reducible refine wpList_load_at rfl 67 (.tmp 11) rfl (ad.add (i * 2)) rfl [.int .i64 rl, .int .u8 (rc : Int)] _ HEC.out Try.underlying67 rfl ?c1 ?_)
      case c1 => exact symInfo
      refine name_world fun X hX => ?_
      have HX5 := hide (show Blk X wd.heap.size 67 #[.int .i64 rl, .int .u8 (rc : Int)] by rw [← hX.out]; exact Blk.new wd _ _)
      have HXB := hide (show Below wd.heap.size wd X by rw [← hX.out]; exact below_alloc wd _)
      have HXV := hide (show Below w.heap.size w X from HB.out.trans (HXB.out.mono HB.out.size))
      have f0 : X.cell? ⟨wd.heap.size, 0, none⟩ = some (.int .i64 rl) := HX5.out.cell 0
      have f1 : X.cell? ⟨wd.heap.size, 1, none⟩ = some (.int .u8 (rc : Int)) := HX5.out.cell 1
      have C1 := hide (C.out X)
      clear hX C
      cases ok with
      | true =>
        have HT2 := hide (show (rs.take (i + 1)).all Tb.symOk = true by rw [HTS.out, HT.out]; rfl)
        clear HTS HBAD HOK HRES
        go_wp2_with (go_at_call 50; refine (unhide C1).mono ?_; rintro e w1 ⟨rfl, hb1⟩; have B1 := hide (HXV.out.trans (hb1.mono HXV.out.size)); clear hb1)
        exact ⟨⟨i + 1, HLT.out, by go_num, HT2, B1.out⟩, by have := HLT.out; simp [intOf]; omega⟩
      | false =>
        have HF := hide (show res = false by rw [← HRES.out]; exact HBAD.out rfl)
        clear HTS HBAD HOK HRES HT
        go_wp2_with (go_at_call 50; refine (unhide C1).mono ?_; rintro e w1 ⟨rfl, hb1⟩; have B1 := hide (HXV.out.trans (hb1.mono HXV.out.size)); clear hb1)
        go_ret
        exact ⟨by rw [HF.out]; rfl, B1.out⟩
    · obtain rfl : i = n := by omega
      have HF := hide (show res = true by
        rw [← HRES.out]
        have h := HT.out
        rwa [List.take_of_length_le (by have := HN.out; omega)] at h)
      have hnt : ¬ ((i : Int) < (i : Int)) := by omega
      clear HRES HT hlt hbel
      go_wp2
      go_ret
      exact ⟨by rw [HF.out]; rfl, HB.out⟩
end Go.Proofs.Ytbcfndhnopmbbaa
