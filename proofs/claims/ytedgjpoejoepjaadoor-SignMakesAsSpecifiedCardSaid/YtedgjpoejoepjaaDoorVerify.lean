/-
  Verify, by contract.
  Verify where the shape is right, by contract.
  Verify answers Sg.ver; seed, by contract.
-/
import Derived.Test.YtedgjpoejoepjaaDoorSign
import Derived.Test.YtedgjpoejoepjaaDoorGet
import Derived.Stop.BytesEq
namespace Go.Proofs.YtedgjpoejoepjaaDoor
open Go.RowKit
set_option linter.unusedVariables false
set_option linter.unusedSimpArgs false

theorem guard16 : Tryd.prog.eqGuardType Tryd.prog.depth 23 = false := by kernel_rfl
theorem run_same16 (d e : List UInt8) (h : d.length = 16) (h' : e.length = 16) (w : World) : (Op.equalIn 10000 23 (.agg (BV d).toArray) (.agg (BV e).toArray)).run Tryd.prog w = .ok (d == e) w :=
  run_equalIn_bytes (P := Tryd.prog) w 9998 23 5 16 Tryd.underlying23 Tryd.underlying5 byteOne d e h h'
theorem conv_cap (s : List UInt8) (W : World) : ∃ A c w', (convert 9 51 (.string (S s))).run Tryd.prog W = .ok (.slice (some A) (S s).size c) w' ∧ (S s).size ≤ c ∧ Reads w' w'.heap.size 1 (some A) (S s).size (BV s) ∧ Below W.heap.size W w' := by
  obtain ⟨A, c, w', h1, h2, h3⟩ := conv_bytes s W
  refine ⟨A, c, w', h1, ?_, h2, h3⟩
  have h4 := run_bytes_of_string W 9 51 5 (S s) Tryd.underlying9 Tryd.underlying51 Tryd.underlying5
  rw [h1] at h4
  injection h4 with h4
  injection h4 with _ _ h4
  rw [h4]
  exact grownCap_ge _ _ _ _

set_option maxHeartbeats 1000000 in
set_option maxRecDepth 100000 in
theorem verify_arg (p m s : List UInt8) (h : Int) (w : World) (hb : ¬ (0 ≤ h ∧ h ≤ 6)) :
    Calls Tryd.prog 18 #[.agg (BV p).toArray, .int .i64 h, .string (S m), .string (S s)] w fun e w' => e = .returned (.tuple #[.int .i64 0, .int .i64 1]) ∧ Below w.heap.size w w' := by
  have CV := hide (fun (W : World) => possible_any h W)
  rw [decide_eq_false hb] at CV
  clear hb
  go_enter Tryd.func18, Tryd.ntmps18
  go_wp2_with (go_at_call 35; refine (CV.out _).mono ?_; rintro e w1 ⟨rfl, rfl⟩)
  go_ret2
  exact ⟨rfl, below_alloc w _⟩
set_option maxHeartbeats 1000000 in
set_option maxRecDepth 100000 in
theorem verify_long (p m s : List UInt8) (h : Int) (w : World) (hb : 0 ≤ h ∧ h ≤ 6) (hm : 1048576 < m.length) :
    Calls Tryd.prog 18 #[.agg (BV p).toArray, .int .i64 h, .string (S m), .string (S s)] w fun e w' => e = .returned (.tuple #[.int .i64 0, .int .i64 4]) ∧ Below w.heap.size w w' := by
  have CV := hide (fun (W : World) => possible_any h W)
  rw [decide_eq_true hb] at CV
  have hml : (1048576 : Int) < (((S m).size : Nat) : Int) := by rw [S_size]; omega
  clear hb hm
  go_enter Tryd.func18, Tryd.ntmps18
  go_wp2_with (go_at_call 35; refine (CV.out _).mono ?_; rintro e w1 ⟨rfl, rfl⟩)
  go_ret2
  exact ⟨rfl, below_alloc w _⟩
set_option maxHeartbeats 1000000 in
set_option maxRecDepth 100000 in
theorem verify_enc (p m s : List UInt8) (h : Int) (w : World) (hb : 0 ≤ h ∧ h ≤ 6) (hm : m.length ≤ 1048576) (hs : s.length ≤ 1099511627776) (he : (Wr.decI s).2.2 ≠ 0) :
    Calls Tryd.prog 18 #[.agg (BV p).toArray, .int .i64 h, .string (S m), .string (S s)] w fun e w' => e = .returned (.tuple #[.int .i64 0, .int .i64 (Wr.decI s).2.2]) ∧ Below w.heap.size w w' := by
  have CV := hide (fun (W : World) => possible_any h W)
  rw [decide_eq_true hb] at CV
  have hml : ¬ (1048576 : Int) < (((S m).size : Nat) : Int) := by rw [S_size]; omega
  have CG := hide (fun (A : Option Addr) c (W : World) hr hc => getInt_any A (S s).size c s W hr (by unfold maxLen; rw [S_size]; omega) hc)
  generalize (Wr.decI s).2.2 = er at *
  generalize (Wr.decI s).1 = z at *
  generalize (Wr.decI s).2.1 = u at *
  clear hb hm hs
  go_enter Tryd.func18, Tryd.ntmps18
  go_upto_region 5 with (go_at_call 35; refine (CV.out _).mono ?_; rintro e w1 ⟨rfl, rfl⟩)
  refine name_world fun V hV => ?_
  have HV := hide (show Below w.heap.size w V by rw [← hV.out]; exact below_alloc w _)
  clear hV
  obtain ⟨A, c, V1, hcv, hnc, hrd, hb1⟩ := conv_cap s V
  have HR := hide hrd
  have HB1 := hide (HV.out.trans (hb1.mono HV.out.size))
  have HNC := hide hnc
  clear hrd hb1 hnc
  go_wp2_with (go_at_call 36; refine (unhide CG (some A) c V1 HR.out HNC.out).mono ?_; rintro e w1 ⟨rfl, rfl⟩)
  go_ret2
  exact ⟨rfl, HB1.out.alloc HB1.out.size _⟩
set_option maxHeartbeats 1000000 in
set_option maxRecDepth 100000 in
theorem verify_form (p m s : List UInt8) (h u : Nat) (z : Int) (w : World) (hh : h ≤ 6) (hm : m.length ≤ 1048576) (hs : s.length ≤ 1099511627776) (hd : Wr.decI s = (z, u, 0)) (hu : u ≤ s.length) (hbad : ¬ (0 ≤ z ∧ z < ((2 ^ h : Nat) : Int)) ∨ (s.drop u).length ≠ (68 + h) * 16) :
    Calls Tryd.prog 18 #[.agg (BV p).toArray, .int .i64 (h : Int), .string (S m), .string (S s)] w fun e w' => e = .returned (.tuple #[.int .i64 0, .int .i64 2]) ∧ Below w.heap.size w w' := by
  have CV := hide (fun (W : World) => possible_any h W)
  rw [decide_eq_true (by omega)] at CV
  have hml : ¬ (1048576 : Int) < (((S m).size : Nat) : Int) := by rw [S_size]; omega
  have CG := hide (fun (A : Option Addr) c (W : World) hr hc => getInt_any A (S s).size c s W hr (by unfold maxLen; rw [S_size]; omega) hc)
  rw [hd] at CG
  have CW := hide (fun (W : World) => within_any z h W hh)
  have hext := S_drop s u
  have hus : (u : Int) ≤ (((S s).size : Nat) : Int) := by rw [S_size]; omega
  have hu0 : (0 : Int) ≤ (u : Int) := by omega
  have hh0 : (0 : Int) ≤ (h : Int) := by omega
  have hh6 : (h : Int) ≤ 6 := by omega
  have hrl : (S (s.drop u)).size = (s.drop u).length := rfl
  obtain ⟨ok, hok⟩ : ∃ ok, decide (0 ≤ z ∧ z < ((2 ^ h : Nat) : Int)) = ok := ⟨_, rfl⟩
  rw [hok] at CW
  have hne : ok = true → ¬ ((((S (s.drop u)).size : Nat) : Int) = (68 + (h : Int)) * 16) := by
    intro h1
    rw [h1] at hok
    rcases hbad with hb | hb
    · exact absurd (of_decide_eq_true hok) hb
    · rw [hrl]; omega
  generalize s.drop u = R at *
  clear hm hs hd hu hbad hrl hok
  go_enter Tryd.func18, Tryd.ntmps18
  go_upto_region 5 with (go_at_call 35; refine (CV.out _).mono ?_; rintro e w1 ⟨rfl, rfl⟩)
  refine name_world fun V hV => ?_
  have HV := hide (show Below w.heap.size w V by rw [← hV.out]; exact below_alloc w _)
  clear hV
  obtain ⟨A, c, V1, hcv, hnc, hrd, hb1⟩ := conv_cap s V
  have HR := hide hrd
  have HB1 := hide (HV.out.trans (hb1.mono HV.out.size))
  have HNC := hide hnc
  clear hrd hb1 hnc
  go_upto_region 9 with (go_at_call 36; refine (unhide CG (some A) c V1 HR.out HNC.out).mono ?_; rintro e w1 ⟨rfl, rfl⟩)
  refine name_world fun W hW => ?_
  have C10 := hide (show Blk W V1.heap.size 3 #[.int .i64 z] by rw [← hW.out]; exact (Blk.new V1 _ _).alloc _)
  have C13 := hide (show Blk W (V1.heap.size + 1) 9 #[.string (S R)] by
    rw [← hW.out]
    have := Blk.new (V1.alloc (.cells #[.int .i64 z] 3)) 9 #[.string (S R)]
    rwa [show (V1.alloc (.cells #[.int .i64 z] 3)).heap.size = V1.heap.size + 1 by simp] at this)
  have HW := hide (show Below w.heap.size w W by rw [← hW.out]; exact (HB1.out.alloc HB1.out.size _).alloc (by have := HB1.out.size; simp; omega) _)
  have hc10 : W.cell? ⟨V1.heap.size, 0, none⟩ = some (.int .i64 z) := C10.out.cell 0
  have hc13 : W.cell? ⟨V1.heap.size + 1, 0, none⟩ = some (.string (S R)) := C13.out.cell 0
  clear hW C10 C13 hcv hext
  cases ok with
  | false =>
    clear hne
    go_wp2_with (go_at_call 25; refine (CW.out _).mono ?_; rintro e w1 ⟨rfl, rfl⟩)
    go_ret2
    exact ⟨rfl, HW.out⟩
  | true =>
    have hne2 := hne rfl
    clear hne
    go_wp2_with (go_at_call 25; refine (CW.out _).mono ?_; rintro e w1 ⟨rfl, rfl⟩)
    go_ret2
    exact ⟨rfl, HW.out⟩
end Go.Proofs.YtedgjpoejoepjaaDoor
namespace Go.Proofs.YtedgjpoejoepjaaDoor
open Go.RowKit
set_option linter.unusedVariables false
set_option linter.unusedSimpArgs false

set_option maxHeartbeats 4000000 in
set_option maxRecDepth 100000 in
theorem verify_root (p m s : List UInt8) (h i u : Nat) (w : World) (hp : p.length = 16) (hh : h ≤ 6) (hi : i < 2 ^ h) (hm : m.length ≤ 1048576) (hs : s.length ≤ 1099511627776) (hd : Wr.decI s = ((i : Int), u, 0)) (hu : u ≤ s.length) (hr : (s.drop u).length = (68 + h) * 16) (hK : KLaid w) :
    Calls Tryd.prog 18 #[.agg (BV p).toArray, .int .i64 (h : Int), .string (S m), .string (S s)] w fun e w' => e = .returned (.tuple #[.int .i64 (if Sg.verRoot p h i m (s.drop u) = p then (i : Int) else 0), .int .i64 (if Sg.verRoot p h i m (s.drop u) = p then 0 else 10)]) ∧ Below w.heap.size w w' := by
  have hi64 : i < 64 := Nat.lt_of_lt_of_le hi (Nat.pow_le_pow_right (by omega) hh)
  have hii : Wr.inI (i : Int) := by unfold Wr.inI; omega
  have CV := hide (fun (W : World) => possible_any h W)
  rw [decide_eq_true (by omega)] at CV
  have hml : ¬ (1048576 : Int) < (((S m).size : Nat) : Int) := by rw [S_size]; omega
  have CG := hide (fun (A : Option Addr) c (W : World) hr hc => getInt_any A (S s).size c s W hr (by unfold maxLen; rw [S_size]; omega) hc)
  rw [hd] at CG
  have CW := hide (fun (W : World) => within_any i h W hh)
  rw [decide_eq_true (by omega)] at CW
  have hext := S_drop s u
  have hus : (u : Int) ≤ (((S s).size : Nat) : Int) := by rw [S_size]; omega
  have hu0 : (0 : Int) ≤ (u : Int) := by omega
  have hh0 : (0 : Int) ≤ (h : Int) := by omega
  have hh6 : (h : Int) ≤ 6 := by omega
  have hlen : (((S (s.drop u)).size : Nat) : Int) = (68 + (h : Int)) * 16 := by rw [S_size]; omega
  have CD := hide (fun (W : World) hK => digest_any p m i W hp hii (by omega) hK)
  have hdl : (Sg.digestP p i m).length = 16 := Sg.ofB_len _ _
  have CGG := hide (fun (W : World) => digits_any (Sg.digestP p i m) W hdl)
  have hroot : Sg.verRoot p h i m (s.drop u) = Sg.climb i (s.drop u) (Sg.leafOf fun c => Sg.adv i c (Sg.part (s.drop u) c) (Sg.dig (Sg.digestP p i m) c) (3 - Sg.dig (Sg.digestP p i m) c)) h := rfl
  have HROOT := hide hroot
  generalize Sg.verRoot p h i m (s.drop u) = ROOT at *
  generalize Sg.digestP p i m = DP at *
  generalize s.drop u = R at *
  have HK := hide hK
  have HH := hide hh
  have HP := hide hp
  have HII := hide hii
  have HRL := hide hr
  have hzs := zero16
  have hmf : ∀ (fn : Fn) (first cap : Array Value) (w : World), (Instr.makeFunc fn first cap).run Tryd.prog w = .ok (.func fn first cap) w := fun _ _ _ _ => rfl
  clear hroot hK hp hm hs hd hu hr hii hi hdl
  go_enter Tryd.func18, Tryd.ntmps18
  go_upto_region 5 with (go_at_call 35; refine (CV.out _).mono ?_; rintro e w1 ⟨rfl, rfl⟩)
  refine name_world fun V hV => ?_
  have D4 := hide (show Dig V w.heap.size p by rw [← hV.out]; exact Dig.new w p HP.out)
  have HV := hide (show Below w.heap.size w V by rw [← hV.out]; exact below_alloc w _)
  clear hV
  obtain ⟨A, c, V1, hcv, hnc, hrd, hb1⟩ := conv_cap s V
  have HR := hide hrd
  have HB1 := hide (HV.out.trans (hb1.mono HV.out.size))
  have D4a := hide (D4.out.below hb1 D4.out.2.lt)
  have HNC := hide hnc
  have hv1 := D4a.out.2.lt
  clear hrd hb1 hnc D4
  go_upto_region 9 with (go_at_call 36; refine (unhide CG (some A) c V1 HR.out HNC.out).mono ?_; rintro e w1 ⟨rfl, rfl⟩)
  refine name_world fun W hW => ?_
  have C10 := hide (show Blk W V1.heap.size 3 #[.int .i64 (i : Int)] by rw [← hW.out]; exact (Blk.new V1 _ _).alloc _)
  have C13 := hide (show Blk W (V1.heap.size + 1) 9 #[.string (S R)] by
    rw [← hW.out]
    have := Blk.new (V1.alloc (.cells #[.int .i64 (i : Int)] 3)) 9 #[.string (S R)]
    rwa [show (V1.alloc (.cells #[.int .i64 (i : Int)] 3)).heap.size = V1.heap.size + 1 by simp] at this)
  have HVW := show Below V1.heap.size V1 W by rw [← hW.out]; exact ((Below.refl _ _).alloc (Nat.le_refl _) _).alloc (by simp) _
  have HW := hide (HB1.out.trans (HVW.mono HB1.out.size))
  have D4b := hide (D4a.out.below HVW hv1)
  have hc10 : W.cell? ⟨V1.heap.size, 0, none⟩ = some (.int .i64 (i : Int)) := C10.out.cell 0
  have hc13 : W.cell? ⟨V1.heap.size + 1, 0, none⟩ = some (.string (S R)) := C13.out.cell 0
  have h13 := C13.out.lt
  clear hW hcv hext HVW D4a CG HR HNC
  go_upto_region 12 with (first
    | (go_at_call 25; refine (CW.out _).mono ?_; rintro e w1 ⟨rfl, rfl⟩)
    | (with_reducible refine wpList_load_dig rfl (.tmp 4) rfl w.heap.size rfl p D4b.out ?_)
    | (go_at_call 16; refine (unhide CD W (HK.out.below HW.out (Nat.le_refl _))).mono ?_; rintro e x1 ⟨rfl, hb1⟩; have B1 := hide hb1; clear hb1)
    | (go_at_call 10; refine (unhide CGG x1).mono ?_; rintro e x2 ⟨rfl, hdg, hb2⟩; have B2 := hide hb2; have GD := hide hdg; clear hb2 hdg))
  refine name_world fun X hX => ?_
  have hs1 := B1.out.size
  have hs2 := B2.out.size
  have BX2 := hide (show Below x2.heap.size x2 X by rw [← hX.out]; exact below_alloc x2 _)
  have C14 := hide (show Blk X x2.heap.size 25 #[.slice (some ⟨x1.heap.size + 1, 0, none⟩) 68 68] by rw [← hX.out]; exact Blk.new x2 _ _)
  clear hX
  have BWX := hide (B1.out.trans ((B2.out.trans (BX2.out.mono hs2)).mono hs1))
  have GDX := hide (GD.out.below BX2.out GD.out.lt)
  have C10X := hide (C10.out.below BWX.out C10.out.lt)
  have C13X := hide (C13.out.below BWX.out h13)
  have D4X := hide (D4b.out.below BWX.out D4b.out.2.lt)
  have HX := hide (HW.out.trans (BWX.out.mono HW.out.size))
  have h14 := C14.out.lt
  have hgd := GD.out.lt
  have hxs := BX2.out.size
  have hrl := HRL.out
  have CL := hide (leaf_ver_any V1.heap.size (V1.heap.size + 1) x2.heap.size (fun c => Sg.adv i c (Sg.part R c) (Sg.dig DP c) (3 - Sg.dig DP c)) X (fun c hc => Sg.adv_len _ _ _ _ (Sg.part_len R c (by omega)) _) (HK.out.below HX.out (Nat.le_refl _))
    (fun c W' hc hb => keyver_any V1.heap.size (V1.heap.size + 1) x2.heap.size (x1.heap.size + 1) R i c (Sg.dig DP c) (IV (Sg.digits DP)).toArray _ W' (C10X.out.below hb C10X.out.lt) (C13X.out.below hb C13X.out.lt) (C14.out.below hb h14) (GDX.out.below hb GDX.out.lt) (IV_get _ _ _ (Sg.digits_get DP c hc)) hc (Sg.dig_le DP c) (by omega) (by omega) HII.out (HK.out.below (HX.out.trans (hb.mono HX.out.size)) (Nat.le_refl _))))
  have hleaf := Sg.leaf_len (fun c => Sg.adv i c (Sg.part R c) (Sg.dig DP c) (3 - Sg.dig DP c))
  generalize (Sg.leafOf fun c => Sg.adv i c (Sg.part R c) (Sg.dig DP c) (3 - Sg.dig DP c)) = LEAF at *
  clear hc10 hc13 C10 C13 D4b GD CD CGG CV CW
  go_upto_region 13 with (first
    | (go_at_call 37; refine (unhide CL).mono ?_; rintro e x3 ⟨rfl, hb3⟩; have B3 := hide hb3; clear hb3)
    | (with_reducible refine wpList_store_dig rfl (.tmp 15) (.tmp 57) rfl x3.heap.size Z16 LEAF rfl rfl (Dig.new x3 Z16 rfl) hleaf ?_; intro T hT))
  have B3T := hide (show Below X.heap.size X T from B3.out.trans ((below_row (below_alloc x3 _) (Nat.le_refl _) hT).mono B3.out.size))
  have D15 := hide ((Dig.new x3 Z16 rfl).put hleaf hT)
  have C10T := hide (C10X.out.below B3T.out C10X.out.lt)
  have C13T := hide (C13X.out.below B3T.out C13X.out.lt)
  have D4T := hide (D4X.out.below B3T.out D4X.out.2.lt)
  have HT := hide (HX.out.trans (B3T.out.mono HX.out.size))
  have hx3 := B3.out.size
  have h10X := C10X.out.lt
  have h13X := C13X.out.lt
  have h4X := D4X.out.2.lt
  clear hT C10X C13X D4X CL C14 GDX
  go_upto_region 14 with fail
  go_loopw [59] (fun s59 wr => ∃ n : Nat, n ≤ h ∧ s59 = .int .i64 (n : Int) ∧ Dig wr x3.heap.size (Sg.climb i R LEAF n) ∧ Dig wr w.heap.size p ∧ Blk wr V1.heap.size 3 #[.int .i64 (i : Int)] ∧ Blk wr (V1.heap.size + 1) 9 #[.string (S R)] ∧ Below w.heap.size w wr) (fun s59 _ => h - (intOf s59).toNat)
  case atStart => exact ⟨0, by omega, rfl, D15.out, D4T.out, C10T.out, C13T.out, HT.out⟩
  case round =>
    obtain ⟨n, hn, rfl, hD15, hD4, hC10, hC13, hbel⟩ := hrel
    obtain ⟨wd, rfl⟩ : ∃ wd, wd = wr := ⟨wr, rfl⟩
    have E15 := hide hD15
    have E4 := hide hD4
    have E10 := hide hC10
    have E13 := hide hC13
    have HB := hide hbel
    clear hD15 hD4 hC10 hC13 hbel D15 D4T C10T C13T HT
    by_cases hlt : n < h
    · have hcl := Sg.climb_len i R LEAF hleaf n
      have hpl := Sg.part_len R (68 + n) (by omega)
      have hstep : Sg.climb i R LEAF (n + 1) = if i / 2 ^ n % 2 = 0 then Sg.join (Sg.climb i R LEAF n) (Sg.part R (68 + n)) else Sg.join (Sg.part R (68 + n)) (Sg.climb i R LEAF n) := rfl
      have hw : IntKind.i64.wrap (68 + (n : Int)) = ((68 + n : Nat) : Int) := by rw [IntWalk.i64_in _ (by omega)]; omega
      have hq : (i : Int) / 2 ^ n = ((i / 2 ^ n : Nat) : Int) := by rw [Int.natCast_ediv, Int.natCast_pow]; rfl
      have hql : i / 2 ^ n < 64 := Nat.lt_of_le_of_lt (Nat.div_le_self _ _) hi64
      have CP := hide (fun (W : World) => part_any R (68 + n) W (by omega) (by omega))
      have CJ1 := hide (fun (W : World) hK => join_any (Sg.climb i R LEAF n) (Sg.part R (68 + n)) W hcl hpl hK)
      have CJ2 := hide (fun (W : World) hK => join_any (Sg.part R (68 + n)) (Sg.climb i R LEAF n) W hpl hcl hK)
      have hj1 := Sg.join_len (Sg.climb i R LEAF n) (Sg.part R (68 + n))
      have hj2 := Sg.join_len (Sg.part R (68 + n)) (Sg.climb i R LEAF n)
      have HST := hide hstep
      generalize hN1 : Sg.climb i R LEAF (n + 1) = NEXT at *
      have HN1 := hide hN1
      generalize Sg.join (Sg.climb i R LEAF n) (Sg.part R (68 + n)) = J1 at *
      generalize Sg.join (Sg.part R (68 + n)) (Sg.climb i R LEAF n) = J2 at *
      generalize Sg.climb i R LEAF n = cur at *
      generalize Sg.part R (68 + n) = oth at *
      generalize i / 2 ^ n = q at *
      have hc10 : wd.cell? ⟨V1.heap.size, 0, none⟩ = some (.int .i64 (i : Int)) := E10.out.cell 0
      have hc13 : wd.cell? ⟨V1.heap.size + 1, 0, none⟩ = some (.string (S R)) := E13.out.cell 0
      have htest : (n : Int) < (h : Int) := by omega
      have hn0 : (0 : Int) ≤ (n : Int) := by omega
      have hn6 : (n : Int) < 6 := by omega
      have hq0 : (0 : Int) ≤ (q : Int) := by omega
      have hq64 : (q : Int) < 64 := by omega
      generalize ((68 + n : Nat) : Int) = a68 at *
      clear hstep hN1 hlt
      go_upto_region 17 with (first
        | (go_at_call 39; refine (CP.out wd).mono ?_; rintro e y1 ⟨rfl, hb1⟩; have K1 := hide hb1; clear hb1)
        | (with_reducible refine wpList_store_dig rfl (.tmp 17) (.tmp 65) rfl y1.heap.size Z16 oth rfl rfl (Dig.new y1 Z16 rfl) hpl ?_; intro Y hY))
      have KY := hide (show Below wd.heap.size wd Y from K1.out.trans ((below_row (below_alloc y1 _) (Nat.le_refl _) hY).mono K1.out.size))
      have D17 := hide ((Dig.new y1 Z16 rfl).put hpl hY)
      have F15 := hide (E15.out.below KY.out E15.out.2.lt)
      have F4 := hide (E4.out.below KY.out E4.out.2.lt)
      have F10 := hide (E10.out.below KY.out E10.out.lt)
      have F13 := hide (E13.out.below KY.out E13.out.lt)
      have HYB := hide (HB.out.trans (KY.out.mono HB.out.size))
      have hgc10 : Y.cell? ⟨V1.heap.size, 0, none⟩ = some (.int .i64 (i : Int)) := F10.out.cell 0
      have hw1 := HB1.out.size
      have hk1 := K1.out.size
      have hx15 := E15.out.2.lt
      clear hY hc10 hc13 E15 E4 E10 E13 CP KY
      by_cases hpar : q % 2 = 0
      · have hqm : (q : Int) % 2 = 0 := by omega
        have HSN := hide (show NEXT = J1 by rw [HST.out, if_pos hpar])
        clear HST hpar
        go_wp2_with (first
          | (with_reducible refine wpList_load_dig rfl (.tmp 15) rfl x3.heap.size rfl cur F15.out ?_)
          | (with_reducible refine wpList_load_dig rfl (.tmp 17) rfl y1.heap.size rfl oth D17.out ?_)
          | (go_at_call 40; refine (unhide CJ1 Y (HK.out.below HYB.out (Nat.le_refl _))).mono ?_; rintro e y2 ⟨rfl, hb2⟩; have K2 := hide hb2; have G0 := hide (F15.out.below hb2 F15.out.2.lt); clear hb2)
          | (with_reducible refine wpList_store_dig rfl (.tmp 15) (.tmp 73) rfl x3.heap.size cur J1 rfl rfl G0.out hj1 ?_; intro T2 hT2))
        have G15 := hide (show Dig T2 x3.heap.size NEXT by rw [HSN.out]; exact G0.out.put hj1 hT2)
        have G4 := hide ((F4.out.below K2.out F4.out.2.lt).far (by omega) hT2)
        have G10 := hide ((F10.out.below K2.out F10.out.lt).farRow (by omega) hT2)
        have G13 := hide ((F13.out.below K2.out F13.out.lt).farRow (by omega) hT2)
        have GB := hide (show Below w.heap.size w T2 from below_row (HYB.out.trans (K2.out.mono HYB.out.size)) (by omega) hT2)
        clear hT2
        first
          | exact ⟨⟨n + 1, by omega, by go_num, by rw [HN1.out]; exact G15.out, G4.out, G10.out, G13.out, GB.out⟩, by simp [intOf]; omega⟩
          | (go_wp2; exact ⟨⟨n + 1, by omega, by go_num, by rw [HN1.out]; exact G15.out, G4.out, G10.out, G13.out, GB.out⟩, by simp [intOf]; omega⟩)
      · have hqm : (q : Int) % 2 = 1 := by omega
        have HSN := hide (show NEXT = J2 by rw [HST.out, if_neg hpar])
        clear HST hpar
        go_wp2_with (first
          | (with_reducible refine wpList_load_dig rfl (.tmp 15) rfl x3.heap.size rfl cur F15.out ?_)
          | (with_reducible refine wpList_load_dig rfl (.tmp 17) rfl y1.heap.size rfl oth D17.out ?_)
          | (go_at_call 40; refine (unhide CJ2 Y (HK.out.below HYB.out (Nat.le_refl _))).mono ?_; rintro e y2 ⟨rfl, hb2⟩; have K2 := hide hb2; have G0 := hide (F15.out.below hb2 F15.out.2.lt); clear hb2)
          | (with_reducible refine wpList_store_dig rfl (.tmp 15) (.tmp 76) rfl x3.heap.size cur J2 rfl rfl G0.out hj2 ?_; intro T2 hT2))
        have G15 := hide (show Dig T2 x3.heap.size NEXT by rw [HSN.out]; exact G0.out.put hj2 hT2)
        have G4 := hide ((F4.out.below K2.out F4.out.2.lt).far (by omega) hT2)
        have G10 := hide ((F10.out.below K2.out F10.out.lt).farRow (by omega) hT2)
        have G13 := hide ((F13.out.below K2.out F13.out.lt).farRow (by omega) hT2)
        have GB := hide (show Below w.heap.size w T2 from below_row (HYB.out.trans (K2.out.mono HYB.out.size)) (by omega) hT2)
        clear hT2
        first
          | exact ⟨⟨n + 1, by omega, by go_num, by rw [HN1.out]; exact G15.out, G4.out, G10.out, G13.out, GB.out⟩, by simp [intOf]; omega⟩
          | (go_wp2; exact ⟨⟨n + 1, by omega, by go_num, by rw [HN1.out]; exact G15.out, G4.out, G10.out, G13.out, GB.out⟩, by simp [intOf]; omega⟩)
    · obtain rfl : n = h := by omega
      have hrt : Sg.climb i R LEAF n = ROOT := HROOT.out.symm
      rw [hrt] at E15
      have hrl16 : ROOT.length = 16 := by rw [← hrt]; exact Sg.climb_len i R LEAF hleaf n
      have hnlt : ¬ ((n : Int) < (n : Int)) := by omega
      have hgd := guard16
      have hsame : ∀ W, (Op.equalIn 10000 23 (.agg (BV ROOT).toArray) (.agg (BV p).toArray)).run Tryd.prog W = .ok (ROOT == p) W := fun W => run_same16 ROOT p hrl16 HP.out W
      have hc10 : wd.cell? ⟨V1.heap.size, 0, none⟩ = some (.int .i64 (i : Int)) := E10.out.cell 0
      have hbq : (ROOT == p) = decide (ROOT = p) := by by_cases h : ROOT = p <;> simp [h]
      clear hrt
      by_cases hrp : ROOT = p
      · rw [hbq, decide_eq_true hrp] at hsame
        have HRP := hide hrp
        clear hrp hbq
        go_wp2_with (first
          | (with_reducible refine wpList_load_dig rfl (.tmp 15) rfl x3.heap.size rfl ROOT E15.out ?_)
          | (with_reducible refine wpList_load_dig rfl (.tmp 4) rfl w.heap.size rfl p E4.out ?_))
        go_ret2
        all_goals first | exact ⟨rfl, HB.out⟩ | exact absurd HRP.out (by assumption) | exact absurd (by assumption) HRP.out | exact ⟨by rw [if_pos HRP.out, if_pos HRP.out]; rfl, HB.out⟩
      · rw [hbq, decide_eq_false hrp] at hsame
        have HRP := hide hrp
        clear hrp hbq
        go_wp2_with (first
          | (with_reducible refine wpList_load_dig rfl (.tmp 15) rfl x3.heap.size rfl ROOT E15.out ?_)
          | (with_reducible refine wpList_load_dig rfl (.tmp 4) rfl w.heap.size rfl p E4.out ?_))
        go_ret2
        all_goals first | exact ⟨rfl, HB.out⟩ | exact absurd HRP.out (by assumption) | exact absurd (by assumption) HRP.out | exact ⟨by rw [if_neg HRP.out, if_neg HRP.out]; rfl, HB.out⟩
end Go.Proofs.YtedgjpoejoepjaaDoor
namespace Go.Proofs.YtedgjpoejoepjaaDoor
open Go.RowKit
set_option linter.unusedVariables false
set_option linter.unusedSimpArgs false

theorem verify_any (p m s : List UInt8) (h : Int) (w : World) (hp : p.length = 16) (hs : s.length ≤ 1099511627776) (hK : KLaid w) :
    Calls Tryd.prog 18 #[.agg (BV p).toArray, .int .i64 h, .string (S m), .string (S s)] w fun e w' => e = .returned (.tuple #[.int .i64 (Sg.ver p h m s).1, .int .i64 (Sg.ver p h m s).2]) ∧ Below w.heap.size w w' := by
  by_cases c1 : 0 ≤ h ∧ h ≤ 6
  · obtain ⟨n, rfl⟩ : ∃ n : Nat, h = n := ⟨h.toNat, by omega⟩
    by_cases c2 : 1048576 < m.length
    · have e : Sg.ver p n m s = (0, 4) := by unfold Sg.ver; rw [if_neg (by omega), if_pos c2]
      rw [e]
      exact verify_long p m s n w c1 c2
    · by_cases c3 : (Wr.decI s).2.2 = 0
      · obtain ⟨z, u, e0, hd⟩ : ∃ z u e0, Wr.decI s = (z, u, e0) := ⟨_, _, _, rfl⟩
        rw [hd] at c3
        simp only [] at c3
        subst c3
        obtain ⟨_, hu, _⟩ := Wr.enc_dec hd
        by_cases c4 : ¬ (0 ≤ z ∧ z < ((2 ^ n : Nat) : Int)) ∨ (s.drop u).length ≠ (68 + n) * 16
        · have e : Sg.ver p n m s = (0, 2) := by
            unfold Sg.ver
            rw [if_neg (by omega), if_neg c2, hd]
            simp only []
            rw [if_neg (by simp), if_pos]
            rw [Int.toNat_natCast]
            have : ((2 ^ n : Nat) : Int) = (2 : Int) ^ n := by rw [Int.natCast_pow]; rfl
            rw [← this]
            exact c4
          rw [e]
          exact verify_form p m s n u z w (by omega) (by omega) hs hd hu c4
        · have c5 : 0 ≤ z ∧ z < ((2 ^ n : Nat) : Int) := Classical.byContradiction fun h => c4 (.inl h)
          have c6 : (s.drop u).length = (68 + n) * 16 := Classical.byContradiction fun h => c4 (.inr h)
          obtain ⟨i, rfl⟩ : ∃ i : Nat, z = i := ⟨z.toNat, by omega⟩
          have hV := verify_root p m s n i u w hp (by omega) (by omega) (by omega) hs hd hu c6 hK
          have e : Sg.ver p n m s = (if Sg.verRoot p n i m (s.drop u) = p then (i : Int) else 0, if Sg.verRoot p n i m (s.drop u) = p then 0 else 10) := by
            unfold Sg.ver
            rw [if_neg (by omega), if_neg c2, hd]
            simp only []
            rw [if_neg (by simp), if_neg]
            · rw [Int.toNat_natCast, Int.toNat_natCast]
              split <;> rfl
            · rw [Int.toNat_natCast]
              have : ((2 ^ n : Nat) : Int) = (2 : Int) ^ n := by rw [Int.natCast_pow]; rfl
              rw [← this]
              exact c4
          rw [e]
          exact hV
      · have e : Sg.ver p n m s = (0, (Wr.decI s).2.2) := by unfold Sg.ver; rw [if_neg (by omega), if_neg c2, if_pos c3]
        rw [e]
        exact verify_enc p m s n w c1 (by omega) hs c3
  · have e : Sg.ver p h m s = (0, 1) := by unfold Sg.ver; rw [if_pos c1]
    rw [e]
    exact verify_arg p m s h w c1
theorem made32 : (madeCells (Value.int .u8 0).cells (32 * 1)).toList = BV (List.replicate 32 0) := by kernel_rfl
theorem seed_set (c : UInt8) (i : Nat) (h : i < 32) : (List.replicate i c ++ List.replicate (32 - i) (0 : UInt8)).set i c = List.replicate (i + 1) c ++ List.replicate (32 - (i + 1)) 0 := by
  rw [List.set_append_right _ _ (by simp), List.length_replicate, Nat.sub_self, show 32 - i = (32 - (i + 1)) + 1 by omega, List.replicate_succ, List.set_cons_zero, List.replicate_succ' (n := i), List.append_assoc]
  rfl

set_option maxHeartbeats 1000000 in
set_option maxRecDepth 100000 in
theorem seed_any (c : UInt8) (w : World) :
    Calls Tryd.prog 20 #[.int .u8 ((c.toNat : Nat) : Int)] w fun e w' => e = .returned (.string (S (List.replicate 32 c))) ∧ Below w.heap.size w w' := by
  obtain ⟨i0, hi, hz0, hz1, hz2⟩ := info_parts byteInfo
  have HI := hide hi
  have HZ0 := hide hz0
  have HZ1 := hide hz1
  have HZ2 := hide hz2
  have hby := c.toNat_lt
  clear hi hz0 hz1 hz2
  go_enter Tryd.func20, Tryd.ntmps20
  go_upto_region 2 with (at_make; refine wpList_make_full _ rfl _ _ 51 rfl w.heap.size 5 i0 (.int .u8 0) 1 Tryd.underlying51 HI.out HZ0.out HZ1.out _ _ _ _ 32 rfl rfl rfl rfl (by rw [HZ2.out]; omega) (by unfold maxLen; omega) (Nat.le_refl _) ?_; intro w1 hown1 hgrow1)
  have C1 := hide (show Blk w1 w.heap.size 5 (BV (List.replicate 0 c ++ List.replicate (32 - 0) 0)).toArray by
    have h1 := Blk.of_make hown1
    rw [made32] at h1
    exact h1)
  have HB1 := hide (show Below w.heap.size w w1 from (Below.refl _ _).grown hgrow1 (Nat.le_refl _) (by simp))
  clear hown1 hgrow1
  go_upto_region 3 with fail
  go_loopw [4] (fun s4 wr => ∃ i : Nat, i ≤ 32 ∧ s4 = .int .i64 (i : Int) ∧ Blk wr w.heap.size 5 (BV (List.replicate i c ++ List.replicate (32 - i) 0)).toArray ∧ Below w.heap.size w wr) (fun s4 _ => 32 - (intOf s4).toNat)
  case atStart => exact ⟨0, by omega, rfl, C1.out, HB1.out⟩
  case round =>
    obtain ⟨i, hi, rfl, hC, hbel⟩ := hrel
    by_cases hlt : i < 32
    · have hcell : wr.cell? ⟨w.heap.size, i, none⟩ = some (.int .u8 (((0 : UInt8).toNat : Nat) : Int)) := bytes_cell hC i 0 (by rw [List.getElem?_append_right (by simp), List.length_replicate, Nat.sub_self, List.getElem?_replicate, if_pos (by omega)])
      have hfr := hC.frozen i
      have hset := bytes_put hC i c
      rw [seed_set c i hlt] at hset
      have HSET := hide hset
      have HB := hide hbel
      have i0' : (0 : Int) ≤ (i : Int) := by omega
      have i1' : (i : Int) < 32 := by omega
      clear hC hset hbel
      go_wp2
      exact ⟨⟨i + 1, by omega, by go_num, HSET.out, HB.out.setCell (p := ⟨w.heap.size, i, none⟩) (Nat.le_refl _) _⟩, by simp [intOf]; omega⟩
    · obtain rfl : i = 32 := by omega
      rw [Nat.sub_self, List.replicate_zero, List.append_nil] at hC
      have hcv := run_conv_reads (P := Tryd.prog) (reads_blk (n := 32) hC (by simp)) 51 9 5 32 Tryd.underlying51 Tryd.underlying5 Tryd.underlying9
      generalize hsd : List.replicate 32 c = sd at *
      have HSD := hide hsd
      have HB := hide hbel
      clear hC hbel hsd
      go_wp2
      go_ret
      exact ⟨by rw [HSD.out]; rfl, HB.out⟩
end Go.Proofs.YtedgjpoejoepjaaDoor
