/-
  The reference's Verify: invalid arguments and texts, by contract.
  The reference's Verify where the shape is right, by contract.
  The reference's Verify answers Sg.ver.
-/
import Derived.Test.YtedgjpoejoepjaaDoorRefSig
import Derived.Test.YtedgjpoejoepjaaDoorRefInts
import Derived.Test.YtedgjpoejoepjaaDoorDigLaw
namespace Go.Proofs.YtedgjpoejoepjaaDoor
open Go.RowKit
set_option linter.unusedVariables false
set_option linter.unusedSimpArgs false

set_option maxHeartbeats 1000000 in
set_option maxRecDepth 100000 in
theorem refVerify_arg (p m s : List UInt8) (h : Int) (w : World) (hb : ¬ (0 ≤ h ∧ h ≤ 6)) :
    Calls Tryd.prog 19 #[.agg (BV p).toArray, .int .i64 h, .string (S m), .string (S s)] w fun e w' => e = .returned (.tuple #[.int .i64 0, .int .i64 1]) ∧ Below w.heap.size w w' := by
  have hzs := zero16
  by_cases h0 : h < 0
  · clear hb
    go_enter Tryd.func19, Tryd.ntmps19
    go_wp2
    go_ret2
    exact ⟨rfl, below_alloc w _⟩
  · have h1 : (0 : Int) ≤ h := by omega
    have h2 : (6 : Int) < h := by omega
    clear hb h0
    go_enter Tryd.func19, Tryd.ntmps19
    go_wp2
    go_ret2
    exact ⟨rfl, below_alloc w _⟩
set_option maxHeartbeats 1000000 in
set_option maxRecDepth 100000 in
theorem refVerify_long (p m s : List UInt8) (h : Int) (w : World) (hb : 0 ≤ h ∧ h ≤ 6) (hm : 1048576 < m.length) :
    Calls Tryd.prog 19 #[.agg (BV p).toArray, .int .i64 h, .string (S m), .string (S s)] w fun e w' => e = .returned (.tuple #[.int .i64 0, .int .i64 4]) ∧ Below w.heap.size w w' := by
  have hml : (1048576 : Int) < (((S m).size : Nat) : Int) := by rw [S_size]; omega
  obtain ⟨h0, h6⟩ := hb
  clear hm
  go_enter Tryd.func19, Tryd.ntmps19
  go_wp2
  go_ret2
  exact ⟨rfl, below_alloc w _⟩
set_option maxHeartbeats 1000000 in
set_option maxRecDepth 100000 in
theorem refVerify_enc (p m s : List UInt8) (h : Int) (w : World) (hb : 0 ≤ h ∧ h ≤ 6) (hm : m.length ≤ 1048576) (hs : s.length ≤ 1099511627776) (he : (Wr.decI s).2.2 ≠ 0) :
    Calls Tryd.prog 19 #[.agg (BV p).toArray, .int .i64 h, .string (S m), .string (S s)] w fun e w' => e = .returned (.tuple #[.int .i64 0, .int .i64 (Wr.decI s).2.2]) ∧ Below w.heap.size w w' := by
  have hml : ¬ (1048576 : Int) < (((S m).size : Nat) : Int) := by rw [S_size]; omega
  have CG := hide (fun (A : Option Addr) c (W : World) hr hc => refGetInt_any A (S s).size c s W hr (by unfold maxLen; rw [S_size]; omega) hc)
  have hb' : ((Wr.decI s).2.2 != 0) = true := by rw [bne_iff_ne]; exact he
  generalize (Wr.decI s).2.2 = er at *
  generalize (Wr.decI s).1 = z at *
  generalize (Wr.decI s).2.1 = u at *
  obtain ⟨h0, h6⟩ := hb
  clear hm hs
  go_enter Tryd.func19, Tryd.ntmps19
  go_upto_region 5 with fail
  refine name_world fun V hV => ?_
  have HV := hide (show Below w.heap.size w V by rw [← hV.out]; exact below_alloc w _)
  clear hV
  obtain ⟨A, c, V1, hcv, hnc, hrd, hb1⟩ := conv_cap s V
  have HR := hide hrd
  have HB1 := hide (HV.out.trans (hb1.mono HV.out.size))
  have HNC := hide hnc
  clear hrd hb1 hnc
  go_wp2_with (go_at_call 41; refine (unhide CG (some A) c V1 HR.out HNC.out).mono ?_; rintro e w1 ⟨rfl, hb2⟩; have HB2 := hide (HB1.out.trans (hb2.mono HB1.out.size)); clear hb2)
  go_ret2
  exact ⟨rfl, HB2.out⟩
theorem wrap_shl (h : Nat) (hh : h ≤ 6) : wrap64 (2 ^ h) = ((2 ^ h : Nat) : Int) := by
  have H : ∀ h : Fin 7, wrap64 (2 ^ h.val) = ((2 ^ h.val : Nat) : Int) := by decide +kernel
  exact H ⟨h, by omega⟩
set_option maxHeartbeats 1000000 in
set_option maxRecDepth 100000 in
theorem refVerify_form (p m s : List UInt8) (h u : Nat) (z : Int) (w : World) (hh : h ≤ 6) (hm : m.length ≤ 1048576) (hs : s.length ≤ 1099511627776) (hd : Wr.decI s = (z, u, 0)) (hu : u ≤ s.length) (hbad : ¬ (0 ≤ z ∧ z < ((2 ^ h : Nat) : Int)) ∨ (s.drop u).length ≠ (68 + h) * 16) :
    Calls Tryd.prog 19 #[.agg (BV p).toArray, .int .i64 (h : Int), .string (S m), .string (S s)] w fun e w' => e = .returned (.tuple #[.int .i64 0, .int .i64 2]) ∧ Below w.heap.size w w' := by
  have hml : ¬ (1048576 : Int) < (((S m).size : Nat) : Int) := by rw [S_size]; omega
  have CG := hide (fun (A : Option Addr) c (W : World) hr hc => refGetInt_any A (S s).size c s W hr (by unfold maxLen; rw [S_size]; omega) hc)
  rw [hd] at CG
  have hext := S_drop s u
  have hus : (u : Int) ≤ (((S s).size : Nat) : Int) := by rw [S_size]; omega
  have hu0 : (0 : Int) ≤ (u : Int) := by omega
  have hh0 : (0 : Int) ≤ (h : Int) := by omega
  have hh6 : (h : Int) ≤ 6 := by omega
  have hrl : (S (s.drop u)).size = (s.drop u).length := rfl
  have hsh := wrap_shl h hh
  have hcase : z < 0 ∨ (0 ≤ z ∧ ((2 ^ h : Nat) : Int) ≤ z) ∨ (0 ≤ z ∧ z < ((2 ^ h : Nat) : Int) ∧ ¬ ((((S (s.drop u)).size : Nat) : Int) = (68 + (h : Int)) * 16)) := by
    rcases hbad with hb | hb
    · omega
    · rw [hrl]; omega
  rw [← hsh] at hcase
  generalize s.drop u = R at *
  clear hm hs hd hu hbad hrl hsh hh
  rcases hcase with hz | ⟨hz0, hzq⟩ | ⟨hz0, hzq, hne⟩
  · skip
    go_enter Tryd.func19, Tryd.ntmps19
    go_upto_region 5 with fail
    refine name_world fun V hV => ?_
    have HV := hide (show Below w.heap.size w V by rw [← hV.out]; exact below_alloc w _)
    clear hV
    obtain ⟨A, c, V1, hcv, hnc, hrd, hb1⟩ := conv_cap s V
    have HR := hide hrd
    have HB1 := hide (HV.out.trans (hb1.mono HV.out.size))
    have HNC := hide hnc
    clear hrd hb1 hnc
    go_wp2_with (go_at_call 41; refine (unhide CG (some A) c V1 HR.out HNC.out).mono ?_; rintro e w1 ⟨rfl, hb2⟩; have HB2 := hide (HB1.out.trans (hb2.mono HB1.out.size)); clear hb2)
    go_ret2
    exact ⟨rfl, HB2.out⟩
  · skip
    go_enter Tryd.func19, Tryd.ntmps19
    go_upto_region 5 with fail
    refine name_world fun V hV => ?_
    have HV := hide (show Below w.heap.size w V by rw [← hV.out]; exact below_alloc w _)
    clear hV
    obtain ⟨A, c, V1, hcv, hnc, hrd, hb1⟩ := conv_cap s V
    have HR := hide hrd
    have HB1 := hide (HV.out.trans (hb1.mono HV.out.size))
    have HNC := hide hnc
    clear hrd hb1 hnc
    go_wp2_with (go_at_call 41; refine (unhide CG (some A) c V1 HR.out HNC.out).mono ?_; rintro e w1 ⟨rfl, hb2⟩; have HB2 := hide (HB1.out.trans (hb2.mono HB1.out.size)); clear hb2)
    go_ret2
    exact ⟨rfl, HB2.out⟩
  · have hne2 : ((((S R).size : Nat) : Int) != (68 + (h : Int)) * 16) = true := by rw [bne_iff_ne]; exact hne
    go_enter Tryd.func19, Tryd.ntmps19
    go_upto_region 5 with fail
    refine name_world fun V hV => ?_
    have HV := hide (show Below w.heap.size w V by rw [← hV.out]; exact below_alloc w _)
    clear hV
    obtain ⟨A, c, V1, hcv, hnc, hrd, hb1⟩ := conv_cap s V
    have HR := hide hrd
    have HB1 := hide (HV.out.trans (hb1.mono HV.out.size))
    have HNC := hide hnc
    clear hrd hb1 hnc
    go_wp2_with (go_at_call 41; refine (unhide CG (some A) c V1 HR.out HNC.out).mono ?_; rintro e w1 ⟨rfl, hb2⟩; have HB2 := hide (HB1.out.trans (hb2.mono HB1.out.size)); clear hb2)
    go_ret2
    exact ⟨rfl, HB2.out⟩
end Go.Proofs.YtedgjpoejoepjaaDoor
namespace Go.Proofs.YtedgjpoejoepjaaDoor
open Go.RowKit
set_option linter.unusedVariables false
set_option linter.unusedSimpArgs false

theorem S_cat (a b : List UInt8) : S a ++ S b = S (a ++ b) := by
  have h : (S a ++ S b).data.toList = a ++ b := by
    rw [ByteArray.data_append, Array.toList_append]; rfl
  rw [← S_of (_ ++ _), h]
set_option maxHeartbeats 4000000 in
set_option maxRecDepth 100000 in
theorem refVerify_root (p m s : List UInt8) (h i u : Nat) (w : World) (hp : p.length = 16) (hh : h ≤ 6) (hi : i < 2 ^ h) (hm : m.length ≤ 1048576) (hs : s.length ≤ 1099511627776) (hd : Wr.decI s = ((i : Int), u, 0)) (hu : u ≤ s.length) (hr : (s.drop u).length = (68 + h) * 16) (hK : RKLaid w) :
    Calls Tryd.prog 19 #[.agg (BV p).toArray, .int .i64 (h : Int), .string (S m), .string (S s)] w fun e w' => e = .returned (.tuple #[.int .i64 (if Sg.verRoot p h i m (s.drop u) = p then (i : Int) else 0), .int .i64 (if Sg.verRoot p h i m (s.drop u) = p then 0 else 10)]) ∧ Below w.heap.size w w' := by
  have hi64 : i < 64 := Nat.lt_of_lt_of_le hi (Nat.pow_le_pow_right (by omega) hh)
  have hii : Wr.inI (i : Int) := by unfold Wr.inI; omega
  have hml : ¬ (1048576 : Int) < (((S m).size : Nat) : Int) := by rw [S_size]; omega
  have CG := hide (fun (A : Option Addr) c (W : World) hr hc => refGetInt_any A (S s).size c s W hr (by unfold maxLen; rw [S_size]; omega) hc)
  rw [hd] at CG
  have hext := S_drop s u
  have hus : (u : Int) ≤ (((S s).size : Nat) : Int) := by rw [S_size]; omega
  have hu0 : (0 : Int) ≤ (u : Int) := by omega
  have hh0 : (0 : Int) ≤ (h : Int) := by omega
  have hh6 : (h : Int) ≤ 6 := by omega
  have hlen : (((S (s.drop u)).size : Nat) : Int) = (68 + (h : Int)) * 16 := by rw [S_size]; omega
  have hlen2 : ((((S (s.drop u)).size : Nat) : Int) != (68 + (h : Int)) * 16) = false := by rw [hlen]; simp
  have hsh : (i : Int) < wrap64 (2 ^ h) := by rw [wrap_shl h hh]; omega
  have hi0 : (0 : Int) ≤ (i : Int) := by omega
  have CD := hide (fun (W : World) hK => refDigest_any p m i W hp hii (by omega) hK)
  have hdl : (Sg.digestP p i m).length = 16 := Sg.ofB_len _ _
  have CGG := hide (fun (W : World) => refDigits_any (Sg.digestP p i m) W hdl)
  have hroot : Sg.verRoot p h i m (s.drop u) = Sg.climb i (s.drop u) (Sg.leafOf fun c => Sg.adv i c (Sg.part (s.drop u) c) (Sg.dig (Sg.digestP p i m) c) (3 - Sg.dig (Sg.digestP p i m) c)) h := rfl
  have HROOT := hide hroot
  generalize Sg.verRoot p h i m (s.drop u) = ROOT at *
  generalize Sg.digestP p i m = DP at *
  generalize s.drop u = R at *
  have HK := hide hK
  have HH := hide hh
  have HP := hide hp
  have HII := hide hii
  have HRL := hide hr
  have hzs := zero16
  clear hroot hK hp hm hs hd hu hr hii hi hdl hlen
  generalize hzz : (i : Int) = z at *
  have HZZ := hide hzz
  clear hzz
  have ht1 : decide (z < 0) = false := by simp; exact hi0
  have ht2 : decide (wrap64 (2 ^ h) ≤ z) = false := by simp; exact hsh
  go_enter Tryd.func19, Tryd.ntmps19
  go_upto_region 5 with fail
  refine name_world fun V hV => ?_
  have D4 := hide (show Dig V w.heap.size p by rw [← hV.out]; exact Dig.new w p HP.out)
  have HV := hide (show Below w.heap.size w V by rw [← hV.out]; exact below_alloc w _)
  clear hV
  obtain ⟨A, c, V1, hcv, hnc, hrd, hb1⟩ := conv_cap s V
  have HR := hide hrd
  have HB1 := hide (HV.out.trans (hb1.mono HV.out.size))
  have D4a := hide (D4.out.below hb1 D4.out.2.lt)
  have HNC := hide hnc
  clear hrd hb1 hnc D4
  go_upto_region 9 with (go_at_call 41; refine (unhide CG (some A) c V1 HR.out HNC.out).mono ?_; rintro e W ⟨rfl, hb2⟩; have HW := hide (HB1.out.trans (hb2.mono HB1.out.size)); have D4b := hide (D4a.out.below hb2 D4a.out.2.lt); clear hb2)
  go_upto_region 11 with fail
  clear hcv hext D4a CG HR HNC ht1 ht2 hsh hlen2
  go_upto_region 12 with (first
    | (with_reducible refine wpList_load_dig rfl (.tmp 4) rfl w.heap.size rfl p D4b.out ?_)
    | (go_at_call 17; refine (unhide CD W (HK.out.below HW.out (Nat.le_refl _))).mono ?_; rintro e x1 ⟨rfl, hb1⟩; have B1 := hide hb1; clear hb1)
    | (go_at_call 11; refine (unhide CGG x1).mono ?_; rintro e x2 ⟨vb, rfl, hob, hb2⟩; have B2 := hide hb2; have OB := hide hob; clear hb2 hob))
  have hs1 := B1.out.size
  have hs2 := B2.out.size
  have BW := hide (B1.out.trans (B2.out.mono hs1))
  have D4X := hide (D4b.out.below BW.out D4b.out.2.lt)
  have HX := hide (HW.out.trans (BW.out.mono HW.out.size))
  obtain ⟨gb, cap, hve, hcap, hcb⟩ : ∃ gb cap, vb = .slice (some ⟨gb, 0, none⟩) 68 cap ∧ 68 ≤ cap ∧ ∃ cur, Blk x2 gb 3 cur ∧ ∀ j, j < 68 → cur[j]? = (IV (Sg.digits DP))[j]? := by
    rcases OB.out.2 with ⟨_, h0⟩ | ⟨g, cap, cur, h1, h2, h3, h4, h5, h6, h7⟩
    · exact absurd h0 (by decide)
    · refine ⟨g, cap, h1, h4, cur, h3, fun j hj => ?_⟩
      rw [← h7, List.getElem?_take, if_pos (by omega), Array.getElem?_toList]
  obtain ⟨cur, hcb, hcur⟩ := hcb
  subst hve
  have KB := hide hcb
  have HCUR := hide hcur
  have hcap2 : (68 : Int) ≤ (cap : Int) := by omega
  clear hcb hcur OB CD CGG D4b B1 B2
  go_upto_region 14 with fail
  obtain ⟨F, hF⟩ : ∃ F : Nat → List UInt8, F = fun c : Nat => Sg.adv z c (Sg.part R c) (Sg.dig DP c) (3 - Sg.dig DP c) := ⟨_, rfl⟩
  have HFF := hide hF
  have hFl : ∀ c, c < 68 → (F c).length = 16 := fun c hc => by rw [HFF.out]; exact Sg.adv_len _ _ _ _ (Sg.part_len R c (by have := HRL.out; omega)) _
  have HFL := hide hFl
  clear hF hFl
  go_loopw [15, 16] (fun s15 s16 wr => ∃ n : Nat, n ≤ 68 ∧ s16 = .int .i64 (n : Int) ∧ s15 = .string (S (Sg.cat n F)) ∧ (Sg.cat n F).length = 16 * n ∧ Blk wr gb 3 cur ∧ Dig wr w.heap.size p ∧ Below w.heap.size w wr) (fun _ s16 _ => 68 - (intOf s16).toNat)
  case atStart => exact ⟨0, by omega, rfl, rfl, rfl, KB.out, D4X.out, HX.out⟩
  case round =>
    obtain ⟨n, hn, rfl, rfl, hcl, hKB, hD4, hbel⟩ := hrel
    obtain ⟨wd, rfl⟩ : ∃ wd, wd = wr := ⟨wr, rfl⟩
    have EB := hide hKB
    have E4 := hide hD4
    have HB := hide hbel
    clear hKB hD4 hbel KB D4X HX
    by_cases hlt : n < 68
    · have hpl := Sg.part_len R n (by have := HRL.out; omega)
      have hrl := HRL.out
      have hdle := Sg.dig_le DP n
      have hcell : wd.cell? ⟨gb, n, none⟩ = some (.int .i64 ((Sg.dig DP n : Nat) : Int)) := by rw [EB.out.cell, HCUR.out n hlt, ← List.getElem?_toArray]; exact IV_get _ _ _ (Sg.digits_get DP n hlt)
      have CA := hide (fun (W : World) hK => refAdvance_any z n (Sg.part R n) (Sg.dig DP n) (3 - Sg.dig DP n) W HII.out (by unfold Wr.inI; omega) hpl (by omega) hK)
      rw [show Sg.adv z n (Sg.part R n) (Sg.dig DP n) (3 - Sg.dig DP n) = F n by rw [HFF.out], show ((Sg.dig DP n + (3 - Sg.dig DP n) : Nat) : Int) = 3 by omega] at CA
      have CT := hide (fun (W : World) => text_any (F n) W (HFL.out n hlt))
      have C16 := hide (fun (W : World) => refDig16_any (R.drop (16 * n)) W (by rw [List.length_drop]; omega) (by rw [List.length_drop]; omega))
      rw [show (R.drop (16 * n)).take 16 = Sg.part R n from rfl] at C16
      have hex2 := S_drop R (16 * n)
      obtain ⟨o, ho⟩ : ∃ o : Nat, o = 16 * n := ⟨_, rfl⟩
      have hmul : IntKind.i64.wrap (16 * (n : Int)) = (o : Int) := by rw [IntWalk.i64_in _ (by omega)]; omega
      have ho0 : (0 : Int) ≤ (o : Int) := by omega
      have hos : (o : Int) ≤ (((S R).size : Nat) : Int) := by rw [S_size]; omega
      rw [← ho] at hex2 C16
      have hcs : ¬ 9223372036854775807 < (S (Sg.cat n F)).size + (S (F n)).size := by rw [S_size, S_size, hcl, HFL.out n hlt]; omega
      have hsc := S_cat (Sg.cat n F) (F n)
      rw [← Sg.cat_succ] at hsc
      have hcl2 : (Sg.cat (n + 1) F).length = 16 * (n + 1) := by rw [Sg.cat_succ, List.length_append, hcl, HFL.out n hlt]; omega
      have HC2 := hide hcl2
      have htest : (n : Int) < 68 := by omega
      have hn0 : (0 : Int) ≤ (n : Int) := by omega
      generalize hc1 : Sg.cat (n + 1) F = CN at *
      have HC1 := hide hc1
      generalize Sg.cat n F = C0 at *
      generalize F n = fn at *
      generalize ((Sg.dig DP n : Nat) : Int) = dd at *
      generalize Sg.part R n = pn at *
      generalize R.drop (16 * n) = Rn at *
      clear hcl hcl2 hc1 ho hpl hdle hrl
      have W0 := Below.refl wd.heap.size wd
      have hEl := EB.out.lt
      have h4l := E4.out.2.lt
      have HH := hide (fun (W' : World) (hb : Below wd.heap.size wd W') => (show W'.cell? ⟨gb, n, none⟩ = some (.int .i64 dd) from by rw [(EB.out.below hb hEl).cell, ← EB.out.cell]; exact hcell))
      have HX1 := hide (fun (W' : World) (hb : Below wd.heap.size wd W') => (show RKLaid W' from HK.out.below (HB.out.trans (hb.mono HB.out.size)) (Nat.le_refl _)))
      go_upto_region 16 with fail
      go_region_held (fun w' => w'.cell? ⟨gb, n, none⟩ = some (.int .i64 dd))
        (first | exact unhide HH _ W0.drew | exact unhide HH _ hX1 | exact unhide HH _ hX2 | exact unhide HH _ hX3)
        (first
        | (go_at_call 42; (with_reducible refine (unhide C16 wd.drew).mono ?_); rintro e y1 ⟨rfl, hb1⟩; have hX1 : Below wd.heap.size wd y1 := from_here W0.drew hb1)
        | (go_at_call 31; (with_reducible refine (unhide CA y1 (unhide HX1 _ hX1)).mono ?_); rintro e y2 ⟨rfl, hb2⟩; have hX2 : Below wd.heap.size wd y2 := from_here hX1 hb2)
        | (go_at_call 30; (with_reducible refine (unhide CT y2).mono ?_); rintro e y3 ⟨rfl, hb3⟩; have hX3 : Below wd.heap.size wd y3 := from_here hX2 hb3))
      all_goals
        go_wp2
        exact ⟨⟨n + 1, by omega, by go_num, by rw [HC1.out], by rw [HC1.out]; exact HC2.out, EB.out.below hX3 hEl, E4.out.below hX3 h4l, HB.out.trans (hX3.mono HB.out.size)⟩, by simp [intOf]; omega⟩
    · obtain rfl : n = 68 := by omega
      have hlf : Sg.leafOf F = Sg.ofB 1 [Sg.ofB 3 [Sg.cat 68 F]] := rfl
      have hbg := cat_one (Sg.cat 68 F)
      have hkl := Sg.ofB_len 3 [Sg.cat 68 F]
      have hbk := cat_one (Sg.ofB 3 [Sg.cat 68 F])
      have hll := Sg.ofB_len 1 [Sg.ofB 3 [Sg.cat 68 F]]
      have CK := hide (fun A n c (W : World) hr hK => refOfD_any 3 A n c [Sg.cat 68 F] W hr (by have := hr.1; simp at this; omega) (by omega) hK)
      have CL := hide (fun A n c (W : World) hr hK => refOfD_any 1 A n c [Sg.ofB 3 [Sg.cat 68 F]] W hr (by have := hr.1; simp at this; omega) (by omega) hK)
      have CTK := hide (fun (W : World) => text_any (Sg.ofB 3 [Sg.cat 68 F]) W hkl)
      have HLF := hide hlf
      generalize Sg.ofB 1 [Sg.ofB 3 [Sg.cat 68 F]] = LEAF at *
      generalize Sg.ofB 3 [Sg.cat 68 F] = KEY at *
      generalize Sg.cat 68 F = C0 at *
      have h4l := E4.out.2.lt
      have hbs := HB.out.size
      clear hlf hbg hbk hcl EB
      go_upto_region 18 with (first
        | (go_at_call 34; (with_reducible refine (CK.out _ _ _ _ (reads_block wd [VS C0] 9 1 rfl) (HK.out.below (HB.out.trans (below_alloc' wd _ hbs)) (Nat.le_refl _))).mono ?_); rintro e x3 ⟨rfl, hb3⟩; have B3 := hide (below_then (below_alloc wd _) hb3); clear hb3)
        | (with_reducible refine wpList_store_dig rfl (.tmp 17) (.tmp 86) rfl x3.heap.size Z16 KEY rfl rfl (Dig.new x3 Z16 rfl) hkl ?_; intro T hT))
      have BT := hide (show Below wd.heap.size wd T from B3.out.trans ((below_row (below_alloc x3 _) (Nat.le_refl _) hT).mono B3.out.size))
      have D17 := hide ((Dig.new x3 Z16 rfl).put hkl hT)
      have HT := hide (HB.out.trans (BT.out.mono hbs))
      have hts := HT.out.size
      clear hT
      go_upto_region 19 with (first
        | (with_reducible refine wpList_load_dig rfl (.tmp 17) rfl x3.heap.size rfl KEY D17.out ?_)
        | (go_at_call 30; (with_reducible refine (unhide CTK T).mono ?_); rintro e y1 ⟨rfl, hb1⟩; have BY := hide hb1; clear hb1)
        | (go_at_call 34; (with_reducible refine (CL.out _ _ _ _ (reads_block y1 [VS KEY] 9 1 rfl) (HK.out.below (HT.out.trans ((BY.out.alloc BY.out.size _).mono hts)) (Nat.le_refl _))).mono ?_); rintro e y2 ⟨rfl, hb2⟩; have BY2 := hide (from_here (BY.out.alloc BY.out.size _) hb2); clear hb2)
        | (with_reducible refine wpList_store_dig rfl (.tmp 18) (.tmp 90) rfl y2.heap.size Z16 LEAF rfl rfl (Dig.new y2 Z16 rfl) hll ?_; intro U hU))
      have D18 := hide ((Dig.new y2 Z16 rfl).put hll hU)
      have BU := hide (show Below T.heap.size T U from BY2.out.trans ((below_row (below_alloc y2 _) (Nat.le_refl _) hU).mono BY2.out.size))
      have E4T := hide (E4.out.below BT.out h4l)
      have E4U := hide (E4T.out.below BU.out E4T.out.2.lt)
      have HU := hide (HT.out.trans (BU.out.mono hts))
      have hy2 : w.heap.size < y2.heap.size := by have := BY2.out.size; have := E4T.out.2.lt; omega
      clear hU E4 E4T D17 CK CL CTK
      go_upto_region 21 with fail
      go_loopw [19, 20] (fun s19 s20 wr => ∃ l : Nat, l ≤ h ∧ s20 = .int .i64 (l : Int) ∧ s19 = .int .i64 ((i / 2 ^ l : Nat) : Int) ∧ Dig wr y2.heap.size (Sg.climb i R LEAF l) ∧ Dig wr w.heap.size p ∧ Below w.heap.size w wr) (fun _ s20 _ => h - (intOf s20).toNat)
      case atStart => exact ⟨0, by omega, rfl, by rw [← HZZ.out]; simp, D18.out, E4U.out, HU.out⟩
      case round =>
        obtain ⟨l, hl, rfl, rfl, hD18, hD4, hbel⟩ := hrel
        obtain ⟨we, rfl⟩ : ∃ we, we = wr := ⟨wr, rfl⟩
        have E18 := hide hD18
        have E4 := hide hD4
        have HE := hide hbel
        clear hD18 hD4 hbel D18 E4U HU
        by_cases hlt : l < h
        · have hrl := HRL.out
          have hcl := Sg.climb_len i R LEAF hll l
          have hpl := Sg.part_len R (68 + l) (by omega)
          have hstep : Sg.climb i R LEAF (l + 1) = if i / 2 ^ l % 2 = 0 then Sg.join (Sg.climb i R LEAF l) (Sg.part R (68 + l)) else Sg.join (Sg.part R (68 + l)) (Sg.climb i R LEAF l) := rfl
          have hw : IntKind.i64.wrap (68 + (l : Int)) = ((68 + l : Nat) : Int) := by rw [IntWalk.i64_in _ (by omega)]; omega
          obtain ⟨o, ho⟩ : ∃ o : Nat, o = 16 * (68 + l) := ⟨_, rfl⟩
          have hmul : IntKind.i64.wrap (16 * ((68 + l : Nat) : Int)) = (o : Int) := by rw [IntWalk.i64_in _ (by omega)]; omega
          have ho0 : (0 : Int) ≤ (o : Int) := by omega
          have hos : (o : Int) ≤ (((S R).size : Nat) : Int) := by rw [S_size]; omega
          have hex2 := S_drop R o
          have hql : i / 2 ^ l < 64 := Nat.lt_of_le_of_lt (Nat.div_le_self _ _) hi64
          have hqn : i / 2 ^ (l + 1) = i / 2 ^ l / 2 := by rw [Nat.pow_succ, Nat.div_div_eq_div_mul]
          have C16 := hide (fun (W : World) => refDig16_any (R.drop o) W (by rw [List.length_drop]; omega) (by rw [List.length_drop]; omega))
          rw [show (R.drop o).take 16 = Sg.part R (68 + l) by rw [ho]; rfl] at C16
          have CJ1 := hide (fun (W : World) hK => refNode_any (Sg.climb i R LEAF l) (Sg.part R (68 + l)) W hcl hpl hK)
          have CJ2 := hide (fun (W : World) hK => refNode_any (Sg.part R (68 + l)) (Sg.climb i R LEAF l) W hpl hcl hK)
          have hj1 := Sg.join_len (Sg.climb i R LEAF l) (Sg.part R (68 + l))
          have hj2 := Sg.join_len (Sg.part R (68 + l)) (Sg.climb i R LEAF l)
          have HST := hide hstep
          generalize hN1 : Sg.climb i R LEAF (l + 1) = NEXT at *
          have HN1 := hide hN1
          generalize Sg.join (Sg.climb i R LEAF l) (Sg.part R (68 + l)) = J1 at *
          generalize Sg.join (Sg.part R (68 + l)) (Sg.climb i R LEAF l) = J2 at *
          generalize Sg.climb i R LEAF l = cu at *
          generalize Sg.part R (68 + l) = oth at *
          have HQ := hide hqn
          generalize i / 2 ^ l = q at *
          generalize R.drop o = Ro at *
          have htest : (l : Int) < (h : Int) := by omega
          have hn0 : (0 : Int) ≤ (l : Int) := by omega
          have hn6 : (l : Int) < 6 := by omega
          have hq0 : (0 : Int) ≤ (q : Int) := by omega
          have hq64 : (q : Int) < 64 := by omega
          generalize ((68 + l : Nat) : Int) = a68 at *
          clear hstep hN1 hlt ho hqn hrl
          go_upto_region 24 with (first
            | (go_at_call 42; (with_reducible refine (unhide C16 we).mono ?_); rintro e k1 ⟨rfl, hb1⟩; have K1 := hide hb1; clear hb1)
            | (with_reducible refine wpList_store_dig rfl (.tmp 21) (.tmp 102) rfl k1.heap.size Z16 oth rfl rfl (Dig.new k1 Z16 rfl) hpl ?_; intro Y hY))
          have KY := hide (show Below we.heap.size we Y from K1.out.trans ((below_row (below_alloc k1 _) (Nat.le_refl _) hY).mono K1.out.size))
          have D21 := hide ((Dig.new k1 Z16 rfl).put hpl hY)
          have F18 := hide (E18.out.below KY.out E18.out.2.lt)
          have F4 := hide (E4.out.below KY.out E4.out.2.lt)
          have HYB := hide (HE.out.trans (KY.out.mono HE.out.size))
          clear hY E18 E4 C16 KY
          by_cases hpar : q % 2 = 0
          · have hqm : (q : Int) % 2 = 0 := by omega
            have HSN := hide (show NEXT = J1 by rw [HST.out, if_pos hpar])
            clear HST hpar
            go_wp2_with (first
              | (with_reducible refine wpList_load_dig rfl (.tmp 18) rfl y2.heap.size rfl cu F18.out ?_)
              | (with_reducible refine wpList_load_dig rfl (.tmp 21) rfl k1.heap.size rfl oth D21.out ?_)
              | (go_at_call 43; (with_reducible refine (unhide CJ1 Y (HK.out.below HYB.out (Nat.le_refl _))).mono ?_); rintro e k2 ⟨rfl, hb2⟩; have K2 := hide hb2; have G0 := hide (F18.out.below hb2 F18.out.2.lt); clear hb2)
              | (with_reducible refine wpList_store_dig rfl (.tmp 18) (.tmp 111) rfl y2.heap.size cu J1 rfl rfl G0.out hj1 ?_; intro T2 hT2))
            have G18 := hide (show Dig T2 y2.heap.size NEXT by rw [HSN.out]; exact G0.out.put hj1 hT2)
            have G4 := hide ((F4.out.below K2.out F4.out.2.lt).far (by omega) hT2)
            have GB := hide (show Below w.heap.size w T2 from below_row (HYB.out.trans (K2.out.mono HYB.out.size)) (by omega) hT2)
            clear hT2
            first
              | exact ⟨⟨l + 1, by omega, by go_num, by rw [HQ.out]; first | rfl | go_num, by rw [HN1.out]; exact G18.out, G4.out, GB.out⟩, by simp [intOf]; omega⟩
              | (go_wp2; exact ⟨⟨l + 1, by omega, by go_num, by rw [HQ.out]; first | rfl | go_num, by rw [HN1.out]; exact G18.out, G4.out, GB.out⟩, by simp [intOf]; omega⟩)
          · have hqm : (q : Int) % 2 = 1 := by omega
            have HSN := hide (show NEXT = J2 by rw [HST.out, if_neg hpar])
            clear HST hpar
            go_wp2_with (first
              | (with_reducible refine wpList_load_dig rfl (.tmp 18) rfl y2.heap.size rfl cu F18.out ?_)
              | (with_reducible refine wpList_load_dig rfl (.tmp 21) rfl k1.heap.size rfl oth D21.out ?_)
              | (go_at_call 43; (with_reducible refine (unhide CJ2 Y (HK.out.below HYB.out (Nat.le_refl _))).mono ?_); rintro e k2 ⟨rfl, hb2⟩; have K2 := hide hb2; have G0 := hide (F18.out.below hb2 F18.out.2.lt); clear hb2)
              | (with_reducible refine wpList_store_dig rfl (.tmp 18) (.tmp 108) rfl y2.heap.size cu J2 rfl rfl G0.out hj2 ?_; intro T2 hT2))
            have G18 := hide (show Dig T2 y2.heap.size NEXT by rw [HSN.out]; exact G0.out.put hj2 hT2)
            have G4 := hide ((F4.out.below K2.out F4.out.2.lt).far (by omega) hT2)
            have GB := hide (show Below w.heap.size w T2 from below_row (HYB.out.trans (K2.out.mono HYB.out.size)) (by omega) hT2)
            clear hT2
            first
              | exact ⟨⟨l + 1, by omega, by go_num, by rw [HQ.out]; first | rfl | go_num, by rw [HN1.out]; exact G18.out, G4.out, GB.out⟩, by simp [intOf]; omega⟩
              | (go_wp2; exact ⟨⟨l + 1, by omega, by go_num, by rw [HQ.out]; first | rfl | go_num, by rw [HN1.out]; exact G18.out, G4.out, GB.out⟩, by simp [intOf]; omega⟩)
        · obtain rfl : l = h := by omega
          have hrt : Sg.climb i R LEAF l = ROOT := by rw [HROOT.out, ← HFF.out, HLF.out]
          rw [hrt] at E18
          have hrl16 : ROOT.length = 16 := by rw [← hrt]; exact Sg.climb_len i R LEAF hll l
          have hnlt : ¬ ((l : Int) < (l : Int)) := by omega
          have hgd := guard16
          have hsame : ∀ W, (Op.equalIn 10000 23 (.agg (BV ROOT).toArray) (.agg (BV p).toArray)).run Tryd.prog W = .ok (ROOT == p) W := fun W => run_same16 ROOT p hrl16 HP.out W
          have hbq : (ROOT == p) = decide (ROOT = p) := by by_cases h : ROOT = p <;> simp [h]
          clear hrt
          by_cases hrp : ROOT = p
          · rw [hbq, decide_eq_true hrp] at hsame
            have HRP := hide hrp
            clear hrp hbq
            go_wp2_with (first
              | (with_reducible refine wpList_load_dig rfl (.tmp 18) rfl y2.heap.size rfl ROOT E18.out ?_)
              | (with_reducible refine wpList_load_dig rfl (.tmp 4) rfl w.heap.size rfl p E4.out ?_))
            go_ret2
            all_goals first | exact ⟨rfl, HE.out⟩ | exact absurd HRP.out (by assumption) | exact absurd (by assumption) HRP.out | exact ⟨by rw [if_pos HRP.out, if_pos HRP.out]; rfl, HE.out⟩ | exact ⟨by rw [if_pos HRP.out, if_pos HRP.out], HE.out⟩
          · rw [hbq, decide_eq_false hrp] at hsame
            have HRP := hide hrp
            clear hrp hbq
            go_wp2_with (first
              | (with_reducible refine wpList_load_dig rfl (.tmp 18) rfl y2.heap.size rfl ROOT E18.out ?_)
              | (with_reducible refine wpList_load_dig rfl (.tmp 4) rfl w.heap.size rfl p E4.out ?_))
            go_ret2
            all_goals first | exact ⟨rfl, HE.out⟩ | exact absurd HRP.out (by assumption) | exact absurd (by assumption) HRP.out | exact ⟨by rw [if_neg HRP.out, if_neg HRP.out]; rfl, HE.out⟩ | exact ⟨by rw [if_neg HRP.out, if_neg HRP.out], HE.out⟩
end Go.Proofs.YtedgjpoejoepjaaDoor
namespace Go.Proofs.YtedgjpoejoepjaaDoor
open Go.RowKit
set_option linter.unusedVariables false
set_option linter.unusedSimpArgs false

theorem refVerify_any (p m s : List UInt8) (h : Int) (w : World) (hp : p.length = 16) (hs : s.length ≤ 1099511627776) (hK : RKLaid w) :
    Calls Tryd.prog 19 #[.agg (BV p).toArray, .int .i64 h, .string (S m), .string (S s)] w fun e w' => e = .returned (.tuple #[.int .i64 (Sg.ver p h m s).1, .int .i64 (Sg.ver p h m s).2]) ∧ Below w.heap.size w w' := by
  by_cases c1 : 0 ≤ h ∧ h ≤ 6
  · obtain ⟨n, rfl⟩ : ∃ n : Nat, h = n := ⟨h.toNat, by omega⟩
    by_cases c2 : 1048576 < m.length
    · have e : Sg.ver p n m s = (0, 4) := by unfold Sg.ver; rw [if_neg (by omega), if_pos c2]
      rw [e]
      exact refVerify_long p m s n w c1 c2
    · by_cases c3 : (Wr.decI s).2.2 = 0
      · obtain ⟨z, u, e0, hd⟩ : ∃ z u e0, Wr.decI s = (z, u, e0) := ⟨_, _, _, rfl⟩
        rw [hd] at c3
        simp only [] at c3
        subst c3
        obtain ⟨_, hu, _⟩ := Wr.enc_dec hd
        by_cases c4 : ¬ (0 ≤ z ∧ z < ((2 ^ n : Nat) : Int)) ∨ (s.drop u).length ≠ (68 + n) * 16
        · have e : Sg.ver p n m s = (0, 2) := by
            unfold Sg.ver
            rw [if_neg (by omega), if_neg c2, hd]
            simp only []
            rw [if_neg (by simp), if_pos]
            rw [Int.toNat_natCast]
            have : ((2 ^ n : Nat) : Int) = (2 : Int) ^ n := by rw [Int.natCast_pow]; rfl
            rw [← this]
            exact c4
          rw [e]
          exact refVerify_form p m s n u z w (by omega) (by omega) hs hd hu c4
        · have c5 : 0 ≤ z ∧ z < ((2 ^ n : Nat) : Int) := Classical.byContradiction fun h => c4 (.inl h)
          have c6 : (s.drop u).length = (68 + n) * 16 := Classical.byContradiction fun h => c4 (.inr h)
          obtain ⟨i, rfl⟩ : ∃ i : Nat, z = i := ⟨z.toNat, by omega⟩
          have hV := refVerify_root p m s n i u w hp (by omega) (by omega) (by omega) hs hd hu c6 hK
          have e : Sg.ver p n m s = (if Sg.verRoot p n i m (s.drop u) = p then (i : Int) else 0, if Sg.verRoot p n i m (s.drop u) = p then 0 else 10) := by
            unfold Sg.ver
            rw [if_neg (by omega), if_neg c2, hd]
            simp only []
            rw [if_neg (by simp), if_neg]
            · rw [Int.toNat_natCast, Int.toNat_natCast]
              split <;> rfl
            · rw [Int.toNat_natCast]
              have : ((2 ^ n : Nat) : Int) = (2 : Int) ^ n := by rw [Int.natCast_pow]; rfl
              rw [← this]
              exact c4
          rw [e]
          exact hV
      · have e : Sg.ver p n m s = (0, (Wr.decI s).2.2) := by unfold Sg.ver; rw [if_neg (by omega), if_neg c2, if_pos c3]
        rw [e]
        exact refVerify_enc p m s n w c1 (by omega) hs c3
  · have e : Sg.ver p h m s = (0, 1) := by unfold Sg.ver; rw [if_pos c1]
    rw [e]
    exact refVerify_arg p m s h w c1
end Go.Proofs.YtedgjpoejoepjaaDoor
