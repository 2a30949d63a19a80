/-
  Verify, by contract.
-/
import Derived.Test.YtjnbolafnhhigaaDoorSignBad
import Derived.Test.YtjnbolafnhhigaaDoorGet
import Derived.Stop.BytesEq
namespace Go.Proofs.YtjnbolafnhhigaaDoor
open Go.RowKit
set_option linter.unusedVariables false
set_option linter.unusedSimpArgs false

theorem guard16 : Tryd.prog.eqGuardType Tryd.prog.depth 23 = false := by kernel_rfl
theorem run_same16 (d e : List UInt8) (h : d.length = 16) (h' : e.length = 16) (w : World) : (Op.equalIn 10000 23 (.agg (BV d).toArray) (.agg (BV e).toArray)).run Tryd.prog w = .ok (d == e) w :=
  run_equalIn_bytes (P := Tryd.prog) w 9998 23 5 16 Tryd.underlying23 Tryd.underlying5 byteOne d e h h'
theorem conv_cap (s : List UInt8) (W : World) : ∃ A c w', (convert 9 51 (.string (S s))).run Tryd.prog W = .ok (.slice (some A) (S s).size c) w' ∧ (S s).size ≤ c ∧ Reads w' w'.heap.size 1 (some A) (S s).size (BV s) ∧ Below W.heap.size W w' := by
  obtain ⟨A, c, w', h1, h2, h3⟩ := conv_bytes s W
  refine ⟨A, c, w', h1, ?_, h2, h3⟩
  have h4 := run_bytes_of_string W 9 51 5 (S s) Tryd.underlying9 Tryd.underlying51 Tryd.underlying5
  rw [h1] at h4
  injection h4 with h4
  injection h4 with _ _ h4
  rw [h4]
  exact grownCap_ge _ _ _ _

set_option maxHeartbeats 1000000 in
set_option maxRecDepth 100000 in
theorem verify_arg (p m s : List UInt8) (h : Int) (w : World) (hb : ¬ (0 ≤ h ∧ h ≤ 6)) :
    Calls Tryd.prog 18 #[.agg (BV p).toArray, .int .i64 h, .string (S m), .string (S s)] w fun e w' => e = .returned (.tuple #[.int .i64 0, .int .i64 1]) ∧ Below w.heap.size w w' := by
  have CV := hide (fun (W : World) => possible_any h W)
  rw [decide_eq_false hb] at CV
  clear hb
  go_enter Tryd.func18, Tryd.ntmps18
  go_wp2_with (go_at_call 35; refine (CV.out _).mono ?_; rintro e w1 ⟨rfl, rfl⟩)
  go_ret2
  exact ⟨rfl, below_alloc w _⟩
set_option maxHeartbeats 1000000 in
set_option maxRecDepth 100000 in
theorem verify_long (p m s : List UInt8) (h : Int) (w : World) (hb : 0 ≤ h ∧ h ≤ 6) (hm : 1048576 < m.length) :
    Calls Tryd.prog 18 #[.agg (BV p).toArray, .int .i64 h, .string (S m), .string (S s)] w fun e w' => e = .returned (.tuple #[.int .i64 0, .int .i64 4]) ∧ Below w.heap.size w w' := by
  have CV := hide (fun (W : World) => possible_any h W)
  rw [decide_eq_true hb] at CV
  have hml : (1048576 : Int) < (((S m).size : Nat) : Int) := by rw [S_size]; omega
  clear hb hm
  go_enter Tryd.func18, Tryd.ntmps18
  go_wp2_with (go_at_call 35; refine (CV.out _).mono ?_; rintro e w1 ⟨rfl, rfl⟩)
  go_ret2
  exact ⟨rfl, below_alloc w _⟩
set_option maxHeartbeats 1000000 in
set_option maxRecDepth 100000 in
theorem verify_enc (p m s : List UInt8) (h : Int) (w : World) (hb : 0 ≤ h ∧ h ≤ 6) (hm : m.length ≤ 1048576) (hs : s.length ≤ 1099511627776) (he : (Wr.decI s).2.2 ≠ 0) :
    Calls Tryd.prog 18 #[.agg (BV p).toArray, .int .i64 h, .string (S m), .string (S s)] w fun e w' => e = .returned (.tuple #[.int .i64 0, .int .i64 (Wr.decI s).2.2]) ∧ Below w.heap.size w w' := by
  have CV := hide (fun (W : World) => possible_any h W)
  rw [decide_eq_true hb] at CV
  have hml : ¬ (1048576 : Int) < (((S m).size : Nat) : Int) := by rw [S_size]; omega
  have CG := hide (fun (A : Option Addr) c (W : World) hr hc => getInt_any A (S s).size c s W hr (by unfold maxLen; rw [S_size]; omega) hc)
  generalize (Wr.decI s).2.2 = er at *
  generalize (Wr.decI s).1 = z at *
  generalize (Wr.decI s).2.1 = u at *
  clear hb hm hs
  go_enter Tryd.func18, Tryd.ntmps18
  go_upto_region 5 with (go_at_call 35; refine (CV.out _).mono ?_; rintro e w1 ⟨rfl, rfl⟩)
  refine name_world fun V hV => ?_
  have HV := hide (show Below w.heap.size w V by rw [← hV.out]; exact below_alloc w _)
  clear hV
  obtain ⟨A, c, V1, hcv, hnc, hrd, hb1⟩ := conv_cap s V
  have HR := hide hrd
  have HB1 := hide (HV.out.trans (hb1.mono HV.out.size))
  have HNC := hide hnc
  clear hrd hb1 hnc
  go_wp2_with (go_at_call 36; refine (unhide CG (some A) c V1 HR.out HNC.out).mono ?_; rintro e w1 ⟨rfl, rfl⟩)
  go_ret2
  exact ⟨rfl, HB1.out.alloc HB1.out.size _⟩
set_option maxHeartbeats 1000000 in
set_option maxRecDepth 100000 in
theorem verify_form (p m s : List UInt8) (h u : Nat) (z : Int) (w : World) (hh : h ≤ 6) (hm : m.length ≤ 1048576) (hs : s.length ≤ 1099511627776) (hd : Wr.decI s = (z, u, 0)) (hu : u ≤ s.length) (hbad : ¬ (0 ≤ z ∧ z < ((2 ^ h : Nat) : Int)) ∨ (s.drop u).length ≠ (68 + h) * 16) :
    Calls Tryd.prog 18 #[.agg (BV p).toArray, .int .i64 (h : Int), .string (S m), .string (S s)] w fun e w' => e = .returned (.tuple #[.int .i64 0, .int .i64 2]) ∧ Below w.heap.size w w' := by
  have CV := hide (fun (W : World) => possible_any h W)
  rw [decide_eq_true (by omega)] at CV
  have hml : ¬ (1048576 : Int) < (((S m).size : Nat) : Int) := by rw [S_size]; omega
  have CG := hide (fun (A : Option Addr) c (W : World) hr hc => getInt_any A (S s).size c s W hr (by unfold maxLen; rw [S_size]; omega) hc)
  rw [hd] at CG
  have CW := hide (fun (W : World) => within_any z h W hh)
  have hext := S_drop s u
  have hus : (u : Int) ≤ (((S s).size : Nat) : Int) := by rw [S_size]; omega
  have hu0 : (0 : Int) ≤ (u : Int) := by omega
  have hh0 : (0 : Int) ≤ (h : Int) := by omega
  have hh6 : (h : Int) ≤ 6 := by omega
  have hrl : (S (s.drop u)).size = (s.drop u).length := rfl
  obtain ⟨ok, hok⟩ : ∃ ok, decide (0 ≤ z ∧ z < ((2 ^ h : Nat) : Int)) = ok := ⟨_, rfl⟩
  rw [hok] at CW
  have hne : ok = true → ¬ ((((S (s.drop u)).size : Nat) : Int) = (68 + (h : Int)) * 16) := by
    intro h1
    rw [h1] at hok
    rcases hbad with hb | hb
    · exact absurd (of_decide_eq_true hok) hb
    · rw [hrl]; omega
  generalize s.drop u = R at *
  clear hm hs hd hu hbad hrl hok
  go_enter Tryd.func18, Tryd.ntmps18
  go_upto_region 5 with (go_at_call 35; refine (CV.out _).mono ?_; rintro e w1 ⟨rfl, rfl⟩)
  refine name_world fun V hV => ?_
  have HV := hide (show Below w.heap.size w V by rw [← hV.out]; exact below_alloc w _)
  clear hV
  obtain ⟨A, c, V1, hcv, hnc, hrd, hb1⟩ := conv_cap s V
  have HR := hide hrd
  have HB1 := hide (HV.out.trans (hb1.mono HV.out.size))
  have HNC := hide hnc
  clear hrd hb1 hnc
  go_upto_region 9 with (go_at_call 36; refine (unhide CG (some A) c V1 HR.out HNC.out).mono ?_; rintro e w1 ⟨rfl, rfl⟩)
  refine name_world fun W hW => ?_
  have C10 := hide (show Blk W V1.heap.size 3 #[.int .i64 z] by rw [← hW.out]; exact (Blk.new V1 _ _).alloc _)
  have C13 := hide (show Blk W (V1.heap.size + 1) 9 #[.string (S R)] by
    rw [← hW.out]
    have := Blk.new (V1.alloc (.cells #[.int .i64 z] 3)) 9 #[.string (S R)]
    rwa [show (V1.alloc (.cells #[.int .i64 z] 3)).heap.size = V1.heap.size + 1 by simp] at this)
  have HW := hide (show Below w.heap.size w W by rw [← hW.out]; exact (HB1.out.alloc HB1.out.size _).alloc (by have := HB1.out.size; simp; omega) _)
  have hc10 : W.cell? ⟨V1.heap.size, 0, none⟩ = some (.int .i64 z) := C10.out.cell 0
  have hc13 : W.cell? ⟨V1.heap.size + 1, 0, none⟩ = some (.string (S R)) := C13.out.cell 0
  clear hW C10 C13 hcv hext
  cases ok with
  | false =>
    clear hne
    go_wp2_with (go_at_call 25; refine (CW.out _).mono ?_; rintro e w1 ⟨rfl, rfl⟩)
    go_ret2
    exact ⟨rfl, HW.out⟩
  | true =>
    have hne2 := hne rfl
    clear hne
    go_wp2_with (go_at_call 25; refine (CW.out _).mono ?_; rintro e w1 ⟨rfl, rfl⟩)
    go_ret2
    exact ⟨rfl, HW.out⟩
end Go.Proofs.YtjnbolafnhhigaaDoor
