/-
  Cells: the law CellBytes, walked.
-/
import Derived.Test.YtdjmfjmijpfijaaDecC
import Derived.Test.YtdjmfjmijpfijaaLivesC
import Derived.Test.YtdjmfjmijpfijaaLaw
import Derived.Deep.RegionLaw
namespace Go.Proofs.Ytdjmfjmijpfijaa
open Go.RowKit
set_option linter.unusedVariables false
set_option linter.unusedSimpArgs false
theorem encP_pos (ls : List (List UInt8)) : 1 ≤ (encP ls).length := by unfold encP; rw [List.length_append]; have := Wr.enc_pos (ls.length : Int); omega
theorem encL_le (ls : List (List UInt8)) (m : Nat) (h : ∀ l ∈ ls, l.length ≤ m) : (Wr.encL Wr.encB ls).length ≤ ls.length * (9 + m) := by
  induction ls with
  | nil => simp [Wr.encL]
  | cons x xs ih =>
    rw [Wr.encL_cons, List.length_append, List.length_cons, Nat.succ_mul]
    have h1 := ih (fun l hl => h l (List.mem_cons.2 (.inr hl)))
    have h2 := h x (List.mem_cons.2 (.inl rfl))
    have h3 := Wr.enc_le (x.length : Int)
    have h4 : (Wr.encB x).length = (Wr.enc (x.length : Int)).length + x.length := by unfold Wr.encB; rw [List.length_append]
    omega
theorem encP_le (ls : List (List UInt8)) (hn : ls.length ≤ 5) (h : ∀ l ∈ ls, l.length ≤ 1001) : (encP ls).length ≤ 5059 ∧ (Wr.encL Wr.encB ls).length ≤ 5050 := by
  have h1 := encL_le ls 1001 h
  have h2 := Nat.mul_le_mul_right (9 + 1001) hn
  have h3 := Wr.enc_le (ls.length : Int)
  unfold encP
  rw [List.length_append]
  omega
/-- decoding what was encoded, whatever follows -/
theorem decP_full (ls : List (List UInt8)) (hn : ls.length ≤ 5) (h : ∀ l ∈ ls, l.length ≤ 1001) (t : List UInt8) : decP (encP ls ++ t) = (ls, (encP ls).length, 0) := by
  unfold decP encP
  rw [List.append_assoc]
  have := Wr.list_full (size := 1) (e := Wr.encB) (ok := Wr.okB) Wr.codecBytes.full Wr.codecBytes.least (by omega) ls (fun x hx => by unfold Wr.okB; have := h x hx; omega) (by omega) t
  rw [List.append_assoc] at this
  rw [this, List.length_append]
theorem decP_short (ls : List (List UInt8)) (hn : ls.length ≤ 5) (h : ∀ l ∈ ls, l.length ≤ 1001) (i : Nat) (hi : i < (encP ls).length) : (decP ((encP ls).take i)).2.2 = 3 := by
  unfold decP
  exact Wr.list_short (size := 1) Wr.codecBytes ls (fun x hx => by unfold Wr.okB; have := h x hx; omega) (by omega) i hi
set_option maxHeartbeats 8000000 in
set_option maxRecDepth 100000 in
theorem bytes_walk (A0 A1 : Option Addr) (n0 c0 n1 c1 : Nat) (xs0 : List Int) (raw : List UInt8) (cut : Int) (by_ : UInt8) (w : World) (hr0 : Reads w w.heap.size 1 A0 n0 (xs0.map (Value.int .i64))) (hn0 : n0 ≤ c0) (hx0 : ∀ x ∈ xs0, Wr.inI x)
    (hr1 : Reads w w.heap.size 1 A1 n1 (BV raw)) (hn1 : n1 ≤ c1) (hA1 : A1 = none → c1 = 0) (hc1 : c1 ≤ maxLen) (hcut : Wr.inI cut) :
    Calls Try.prog 3 #[.slice A0 n0 c0, .slice A1 n1 c1, .int .i64 cut, .int .u8 ((by_.toNat : Nat) : Int)] w fun e w' => e = .returned (.bool true) ∧ Below w.heap.size w w' := by
  obtain ⟨i0, hi, hz0, hz1, hz2⟩ := info_parts byteInfo
  have HI := hide hi
  have HZ0 := hide hz0
  have HZ1 := hide hz1
  have HZ2 := hide hz2
  have HLV := hide lives_any
  have CPG := hide (page_any A0 n0 c0 xs0 w hr0 hx0)
  have CFEW := hide (fun (most : Nat) (hm : most ≤ 1000) (W : World) (hb : Below w.heap.size w W) => few_any A1 n1 c1 most raw W ((hr1.below hb).more hb.size) hn1 hA1 hc1 hm)
  have CAR := hide (fun (m : Nat) (hm : 0 < m) (hm2 : m ≤ 1099511627776) (W : World) => around_any cut m W hcut hm hm2)
  clear hr0 hx0 hr1 hA1 hc1 hcut hi hz0 hz1 hz2
  go_enter Try.func3, Try.ntmps3
  go_upto_region 2 with (go_at_call 4; refine (unhide CPG).mono ?_; rintro e w1 ⟨Ap, cp, ls, rfl, hl5, hl1, hpg, hcp, hb1⟩; have HL5 := hide hl5; have HL1 := hide hl1; have HPG := hide hpg; have H1 := hide hb1; have HCP := hide hcp; clear hl5 hl1 hpg hb1 hcp)
  have hsz := encP_le ls HL5.out HL1.out
  have hpos := encP_pos ls
  have CEN := hide (encode_any Ap ls.length cp ls w1 HPG.out (by have := HL5.out; omega) (by omega))
  go_upto_region 3 with (go_at_call 5; refine (unhide CEN).mono ?_; rintro e w2 ⟨vb, rfl, hown, hb2⟩; have HOB := hide hown; have H2 := hide (H1.out.trans (hb2.mono H1.out.size)); have HP2 := hide ((HPG.out.below hb2).more hb2.size); clear hown hb2)
  obtain ⟨gb, cb, rfl, hcb, hrb⟩ := own_form HOB.out hpos
  have HRB := hide hrb
  have CLN := hide (refLines_any Ap ls.length cp ls w2 HP2.out (by have := HL5.out; omega))
  have CST := hide (fun (A : Option Addr) (c : Nat) (W : World) (hr : Reads W W.heap.size 1 A ls.length (ls.map VS)) (hc : ls.length ≤ c) => strings_any A ls.length c ls W hr hc (by have := HL5.out; omega) (by omega))
  have CSM := hide (fun (B : Option Addr) (d : Nat) (W : World) (hb : Below w2.heap.size w2 W) (hr : Reads W W.heap.size 1 B (encP ls).length (BV (encP ls))) => same_eq (some ⟨gb, 0, none⟩) B (encP ls).length cb d (encP ls) W ((hrb.below hb).more hb.size) hr (by unfold maxLen; omega))
  have HEL := hide (show (Wr.enc (ls.length : Int)).length + (Wr.encL Wr.encB ls).length = (encP ls).length by unfold encP; rw [List.length_append])
  rw [show Wr.enc (ls.length : Int) ++ Wr.encL Wr.encB ls = encP ls from rfl, HEL.out] at CST
  have CA := hide (unhide CAR (encP ls).length (by omega) (by omega))
  have hk := Ce.around_lt cut (encP ls).length (by omega)
  have HDF := hide (decP_full ls HL5.out HL1.out)
  have HDS := hide (decP_short ls HL5.out HL1.out (Ce.around cut (encP ls).length) hk)
  generalize Ce.around cut (encP ls).length = k at *
  have hel := hsz.1
  obtain ⟨eb, heb⟩ : ∃ eb, eb = encP ls := ⟨_, rfl⟩
  rw [← heb] at CA CSM CST HRB HOB HDF HDS hk hel hpos hcb ⊢
  obtain ⟨nb, hnb⟩ : ∃ nb, nb = eb.length := ⟨_, rfl⟩
  rw [← hnb] at CA CSM CST HRB HOB hk hel hpos hcb ⊢
  have HNB := hide hnb
  have hne : ((nb : Int) == 0) = false := by rw [beq_eq_false_iff_ne]; omega
  have HB22 := hide (Below.refl w2.heap.size w2)
  clear hsz CEN CPG hrb HEL heb hnb CAR
  go_upto_region 6 with (first
    | (go_at_call 8; refine (unhide CLN).mono ?_; rintro e x1 ⟨vl, rfl, hown, hb⟩; have HX1 := hide hb; obtain ⟨Al, cl, rfl, hcl, _⟩ := own_slice hown; have HRL := hide (Reads.of_own hown); clear hown hb)
    | (go_at_call 7; refine (unhide CST Al cl x1 HRL.out hcl).mono ?_; rintro e x2 ⟨vs, rfl, hown, hb⟩; have HX2 := hide (HX1.out.trans (hb.mono HX1.out.size)); obtain ⟨As, cs, rfl, _, _⟩ := own_slice hown; have HRS := hide (Reads.of_own hown); clear hown hb)
    | (go_at_call 6; refine (unhide CSM As cs x2 HX2.out HRS.out).mono ?_; rintro e x3 ⟨rfl, hq⟩; have HX3 := hide (show Below w2.heap.size w2 x3 by (obtain ⟨q, rfl⟩ := hq; exact below_drewN HX2.out q)); clear hq)
    | (go_at_call 9; refine (unhide CA x3).mono ?_; rintro e x4 ⟨rfl, rfl⟩))
  have hx3s := HX3.out.size
  have HR3 := hide ((HRB.out.below HX3.out).alloc hx3s (.cells #[] 5))
  clear CLN CST CSM CA
  go_upto_region 7 with (at_builtin; refine wpList_append_any _ rfl (.tmp 46) (.tmp 47) 23 rfl x3.heap.size 5 i0 (.int .u8 0) 1 1 Try.underlying23 HI.out HZ0.out HZ1.out HZ2.out rfl (by omega) _ 0 [] rfl (own_empty x3) _ (some ⟨gb, 0, none⟩) nb cb (BV eb) rfl HR3.out (BV_one eb) (by unfold maxLen; omega) (by omega) (by simp) ?_; intro v5 w5 hown5 hgrow5 hat5; have HO5 := hide hown5; have HB5 := hide (HX3.out.trans (((below_alloc x3 _).trans (below_grown hgrow5 (own_empty x3) (by simp))).mono hx3s)); clear hown5 hgrow5 hat5)
  rw [Nat.zero_add, List.nil_append] at HO5
  obtain ⟨g5, c5, rfl, hc5, hr5⟩ := own_form HO5.out hpos
  have hst := HO5.out.stored k (.int .u8 ((by_.toNat : Nat) : Int))
  have hel5 : k < (BV eb).length := by rw [BV_len]; have := HNB.out; omega
  have hcp : w5.cell? ⟨g5, k, none⟩ = some ((BV eb)[k]) := by rw [HO5.out.cellAt k (by omega), List.getElem?_eq_getElem hel5]
  have hfz := HO5.out.frozenAt k
  generalize (BV eb)[k] = old at *
  have hk0 : (0 : Int) ≤ (k : Int) := by omega
  have hk1 : (k : Int) < (nb : Int) := by omega
  have HBE := hide (show (BV eb).set k (.int .u8 ((by_.toNat : Nat) : Int)) = BV (eb.set k by_) by unfold BV; rw [List.map_set])
  rw [HBE.out] at hst
  have HO6 := hide hst.1
  have HB6 := hide (show Below w2.heap.size w2 (w5.setCell ⟨g5, k, none⟩ (.int .u8 ((by_.toNat : Nat) : Int))) from HB5.out.setCell (by have := (HO5.out.lt g5 rfl).1; show w2.heap.size ≤ g5; omega) _)
  clear hst hr5 hel5
  go_upto_region 8 with fail
  refine name_world fun X hX => ?_
  rw [hX.out] at HO6 HB6
  clear hX hcp hfz
  have HWX := hide (H2.out.trans (HB6.out.mono H2.out.size))
  have HRBX := hide ((HRB.out.below HB6.out).more HB6.out.size)
  have HXX := hide (Below.refl X.heap.size X)
  clear HO5 HB5 HR3 HB22
  obtain ⟨f1, hf1⟩ : ∃ f1, f1 = min n1 20 := ⟨_, rfl⟩
  obtain ⟨f2, hf2⟩ : ∃ f2, f2 = min n1 60 := ⟨_, rfl⟩
  have CF1 := hide (unhide CFEW 20 (by omega))
  have CF2 := hide (unhide CFEW 60 (by omega))
  rw [← hf1, show ((20 : Nat) : Int) = 20 from rfl] at CF1
  rw [← hf2, show ((60 : Nat) : Int) = 60 from rfl] at CF2
  have hf1l : f1 ≤ 20 := by omega
  have hf2l : f2 ≤ 60 := by omega
  clear hf1 hf2 CFEW
  have hkc : (k : Int) ≤ (cb : Int) := by omega
  have hkcn : k ≤ cb := by omega
  have hknc : ¬ ((cb : Int) < (k : Int)) := by omega
  go_cut [13] (fun s13 wx => ∃ (g : Nat) (B0 : Option Addr) (d0 : Nat) (B3 : Option Addr) (d3 : Nat), s13 = .slice (some ⟨g, 0, none⟩) 4 4 ∧ Blk wx g 23 #[.slice B0 (nb + f1) d0, .slice (some ⟨gb, 0, none⟩) k cb, .slice (some ⟨g5, 0, none⟩) nb c5, .slice B3 f2 d3] ∧ nb + f1 ≤ d0 ∧ f2 ≤ d3 ∧ Reads wx wx.heap.size 1 B0 (nb + f1) (BV (eb ++ raw.take f1)) ∧ Reads wx wx.heap.size 1 B3 f2 (BV (raw.take f2)) ∧ Below X.heap.size X wx)
  case first =>
    go_region_law (first
      | (refine step_append_any _ (by rfl) (.tmp 53) (.tmp 54) 23 (by rfl) X.heap.size 5 i0 (.int .u8 0) 1 1 Try.underlying23 HI.out HZ0.out HZ1.out HZ2.out rfl (by omega) (.slice (some ⟨X.heap.size, 0, none⟩) 0 0) 0 [] (by rfl) (by exact own_empty X) X.heap.size (some ⟨gb, 0, none⟩) nb cb (BV eb) (by rfl) (by exact HRBX.out.alloc (Nat.le_refl _) _) (BV_one eb) (by unfold maxLen; omega) (by omega) (by show X.heap.size ≤ (X.alloc _).heap.size; simp) ?_; intro v6 w6 hown6 hgrow6 hat6; have HO6 := hide hown6; have HB6 := hide (show Below X.heap.size X w6 from ((below_alloc X (.cells #[] 5)).drew.trans (below_grown hgrow6 (show World.ownsRow _ _ _ _ _ _ _ from own_empty X) (by show X.heap.size ≤ (X.alloc _).heap.size; simp)))); clear hown6 hgrow6 hat6)
      | (go_simp; go_at_call 10; (with_reducible refine (unhide CF1 w6 (HWX.out.trans (HB6.out.mono HWX.out.size))).mono ?_); rintro e w7 ⟨B7, d7, rfl, hr7, hd7, hb7⟩; have HR7 := hide hr7; have HD7 := hide hd7; have HB7 := hide (HB6.out.trans (hb7.mono HB6.out.size)); have HO7 := hide (own_below HO6.out hb7); clear hr7 hd7 hb7)
      | (refine step_append_any _ (by rfl) (.tmp 55) (.tmp 57) 23 (by rfl) X.heap.size 5 i0 (.int .u8 0) 1 1 Try.underlying23 HI.out HZ0.out HZ1.out HZ2.out rfl (by omega) v6 (0 + nb) ([] ++ BV eb) (by rfl) (by exact HO7.out) w7.heap.size B7 f1 d7 (BV (raw.take f1)) (by rfl) (by exact HR7.out) (BV_one _) (by unfold maxLen; omega) (by omega) (by have := HB7.out.size; exact this) ?_; intro v8 w8 hown8 hgrow8 hat8; obtain ⟨B8, c8, rfl, hc8, _⟩ := own_slice hown8; have HC8 := hide hc8; clear hc8; have HO8 := hide hown8; have HB8 := hide (show Below X.heap.size X w8 from HB7.out.trans (below_grown hgrow8 (show World.ownsRow _ _ _ _ _ _ _ from HO7.out) HB7.out.size)); clear hown8 hgrow8 hat8)
      | (go_simp; go_at_call 10; (with_reducible refine (unhide CF2 w8 (HWX.out.trans (HB8.out.mono HWX.out.size))).mono ?_); rintro e w9 ⟨B9, d9, rfl, hr9, hd9, hb9⟩; have HR9 := hide hr9; have HD9 := hide hd9; have HB9 := hide (HB8.out.trans (hb9.mono HB8.out.size)); have HO9 := hide (own_below HO8.out hb9); clear hr9 hd9 hb9))
    all_goals
      go_wp2
      go_meet
      have hb9s := HB9.out.size
      have e8 : 0 + nb + f1 = nb + f1 := by omega
      have h8 := Reads.of_own HO9.out
      rw [List.nil_append, ← BV_append, e8] at h8
      have h8c := HC8.out
      rw [e8] at h8c
      refine ⟨w9.heap.size, B8, c8, B9, d9, rfl, ?_, h8c, HD9.out, ?_, ?_, ?_⟩
      · first | exact Blk.new w9 _ _ | exact (Blk.new w9 _ _).drew
      · first | exact (h8.alloc (Nat.le_refl _) _).more (by simp) | exact ((h8.alloc (Nat.le_refl _) _).more (by simp)).drew
      · first | exact (HR9.out.alloc (Nat.le_refl _) _).more (by simp) | exact ((HR9.out.alloc (Nat.le_refl _) _).more (by simp)).drew
      · first | exact HB9.out.trans (below_alloc' w9 _ hb9s) | exact (HB9.out.trans (below_alloc' w9 _ hb9s)).drew
  case rest =>
    obtain ⟨g, B0, d0, B3, d3, rfl, hblk, hd0, hd3, hr0, hr3, hbel⟩ := hcut
    obtain ⟨Z, rfl⟩ : ∃ Z, Z = wc := ⟨wc, rfl⟩
    have HZK := hide hblk
    have hgz := hblk.lt
    have HWZ := hide (HWX.out.trans (hbel.mono HWX.out.size))
    have HRBZ := hide ((HRBX.out.below hbel).more hbel.size)
    have HR5 := hide (((Reads.of_own HO6.out).below hbel).more hbel.size)
    have HR0 := hide hr0
    have HR3 := hide hr3
    have HPZ := hide (((HP2.out.below HB6.out).more HB6.out.size |>.below hbel).more hbel.size)
    have HT := hide (show ∀ i, i < 4 → ∃ (B : Option Addr) (m c : Nat) (t : List UInt8), (#[.slice B0 (nb + f1) d0, .slice (some ⟨gb, 0, none⟩) k cb, .slice (some ⟨g5, 0, none⟩) nb c5, .slice B3 f2 d3] : Array Value)[i]? = some (.slice B m c) ∧ Reads Z Z.heap.size 1 B m (BV t) ∧ m ≤ 6000 ∧ m ≤ c by
      intro i hi
      obtain rfl | rfl | rfl | rfl : i = 0 ∨ i = 1 ∨ i = 2 ∨ i = 3 := by omega
      · exact ⟨_, _, _, _, rfl, hr0, by omega, hd0⟩
      · exact ⟨_, _, _, eb.take k, rfl, by have h := reads_take HRBZ.out k (by omega); rwa [show (BV eb).take k = BV (eb.take k) from List.map_take.symm] at h, by omega, by omega⟩
      · exact ⟨_, _, _, _, rfl, HR5.out, by omega, hc5⟩
      · exact ⟨_, _, _, _, rfl, hr3, by omega, hd3⟩)
    have HZZ := hide (Below.refl Z.heap.size Z)
    have HD0 := hide hd0
    clear hblk hbel hr0 hr3 hd0 hd3 CF1 CF2
    go_wp2
    go_loopw [14] (fun s14 wr => ∃ i : Nat, i ≤ 4 ∧ s14 = .int .i64 (i : Int) ∧ Below Z.heap.size Z wr) (fun s14 _ => 4 - (intOf s14).toNat)
    case atStart => exact ⟨0, by omega, rfl, HZZ.out⟩
    case round =>
      obtain ⟨i, hi, rfl, hbel⟩ := hrel
      obtain ⟨wd, rfl⟩ : ∃ wd, wd = wr := ⟨wr, rfl⟩
      have HB := hide hbel
      by_cases hlt : i < 4
      · obtain ⟨B, m, c, t, hcl, hrt, hm6, hmc⟩ := HT.out i hlt
        have hblk := HZK.out.below hbel hgz
        have hc : wd.cell? ⟨g, i, none⟩ = some (.slice B m c) := by rw [hblk.cell]; exact hcl
        have HBK := hide hblk
        have hi0 : (0 : Int) ≤ (i : Int) := by omega
        have hi1 : (i : Int) < 4 := by omega
        have HLT := hide hlt
        have HCL := hide hcl
        have C1 := hide (decode_any B m c t wd ((hrt.below hbel).more hbel.size) (by omega) hmc)
        have C2 := hide (fun (W : World) (hb : Below Z.heap.size Z W) => refDecode_any B m c t W ((hrt.below hb).more hb.size) (by omega) hmc)
        obtain ⟨hsm1, hsm2, _⟩ := decP_small t
        have htl := reads_bytes_len hrt
        have HS1 := hide hsm1
        have HS2 := hide hsm2
        have HTL := hide htl
        have her : ((decP t).2.2 != (decP t).2.2) = false := by simp
        have hus : (((decP t).2.1 : Int) != ((decP t).2.1 : Int)) = false := by simp
        generalize (decP t).2.2 = er at *
        generalize ((decP t).2.1 : Int) = us at *
        clear hblk hbel hlt hcl hrt hsm1 hsm2 htl
        go_wp2_with (first
          | (go_at_call 11; refine (unhide C1).mono ?_; rintro e y1 ⟨A7, m7, c7, rfl, hpg, hb⟩; have HY1 := hide (HB.out.trans (hb.mono HB.out.size)); have P1 := hide hpg; have hcy : y1.cell? ⟨g, i, none⟩ = some (.slice B m c) := (by rw [(HBK.out.below hb (by have := HB.out.size; omega)).cell]; exact HCL.out); clear hb hpg)
          | (go_at_call 12; refine (unhide C2 y1 HY1.out).mono ?_; rintro e y2 ⟨A8, m8, c8, rfl, hpg, hb⟩; have HY2 := hide (HY1.out.trans (hb.mono HY1.out.size)); have P2 := hide hpg; have P12 := hide ((P1.out.below hb).more hb.size); clear hb hpg)
          | (go_at_call 13; (obtain ⟨_, _, em7, _⟩ := P12.out); (obtain ⟨_, _, em8, _⟩ := P2.out); subst em7; subst em8; refine (equal_eq A7 A8 (decP t).1.length c7 c8 (decP t).1 y2 P12.out P2.out (by have := HS1.out; have := HTL.out; omega) (fun l hl => by have := HS2.out l hl; have := HTL.out; omega)).mono ?_; rintro e y3 ⟨rfl, hb⟩; have HY3 := hide (HY2.out.trans (hb.mono HY2.out.size)); clear hb))
        exact ⟨⟨i + 1, HLT.out, by go_num, HY3.out⟩, by have := HLT.out; simp [intOf]; omega⟩
      · obtain rfl : i = 4 := by omega
        have hblk := HZK.out.below hbel hgz
        have hd0 : wd.cell? ⟨g, 0, none⟩ = some (.slice B0 (nb + f1) d0) := by rw [hblk.cell]; rfl
        have HBK := hide hblk
        have hk4 : ¬ (((4 : Nat) : Int) < 4) := by omega
        have C1 := hide (show Calls Try.prog 11 #[.slice B0 (nb + f1) d0] wd fun e w' => ∃ A' m' c', e = .returned (.tuple #[.slice A' m' c', .int .i64 (nb : Int), .int .i64 0]) ∧ Pg w' w'.heap.size A' m' ls ∧ Below wd.heap.size wd w' from by
          have h := decode_any B0 (nb + f1) d0 (eb ++ raw.take f1) wd ((HR0.out.below hbel).more hbel.size) (by omega) HD0.out
          rw [HDF.out (raw.take f1)] at h
          simp only [← HNB.out] at h
          exact h)
        have C2 := hide (fun (W : World) (hb : Below Z.heap.size Z W) => (show Calls Try.prog 11 #[.slice (some ⟨gb, 0, none⟩) k cb] W fun e w' => ∃ (A' : Option Addr) (m' c' : Nat) (us : Int), e = .returned (.tuple #[.slice A' m' c', .int .i64 us, .int .i64 3]) ∧ Below W.heap.size W w' from by
          have hr := reads_take HRBZ.out k (by omega)
          rw [show (BV eb).take k = BV (eb.take k) from List.map_take.symm] at hr
          have h := decode_any (some ⟨gb, 0, none⟩) k cb (eb.take k) W ((hr.below hb).more hb.size) (by omega) (by omega)
          rw [HDS.out] at h
          exact h.mono fun e w' ⟨A', m', c', he, _, hb'⟩ => ⟨A', m', c', (((decP (eb.take k)).2.1 : Nat) : Int), he, hb'⟩))
        have HB := hide hbel
        have hnn : ((nb : Int) == (nb : Int)) = true := by simp
        clear hblk hbel hlt
        go_wp2_with (first
          | (go_at_call 11; (with_reducible refine (unhide C1).mono ?_); rintro e y1 ⟨A7, m7, c7, rfl, hpg, hb⟩; have HY1 := hide (HB.out.trans (hb.mono HB.out.size)); have P1 := hide hpg; have hcy : y1.cell? ⟨g, 1, none⟩ = some (.slice (some ⟨gb, 0, none⟩) k cb) := (by rw [(HBK.out.below hb (by have := HB.out.size; omega)).cell]; rfl); clear hb hpg)
          | (go_at_call 11; (with_reducible refine (unhide C2 y1 HY1.out).mono ?_); rintro e y2 ⟨A8, m8, c8, us8, rfl, hb⟩; have HY2 := hide (HY1.out.trans (hb.mono HY1.out.size)); have P12 := hide ((P1.out.below hb).more hb.size); clear hb)
          | (go_at_call 13; (obtain ⟨_, _, em7, _⟩ := P12.out); subst em7; refine (equal_eq A7 Ap ls.length c7 cp ls y2 P12.out ((HPZ.out.below HY2.out).more HY2.out.size) (by have := HL5.out; omega) (fun l hl => by have := HL1.out l hl; omega)).mono ?_; rintro e y3 ⟨rfl, hb⟩; have HY3 := hide (HY2.out.trans (hb.mono HY2.out.size)); clear hb)
          | (go_at_call 14; refine (unhide HLV y3).mono ?_; rintro e y4 ⟨rfl, hb⟩; have HY4 := hide (HY3.out.trans (hb.mono HY3.out.size)); clear hb))
        go_ret
        exact ⟨rfl, HWZ.out.trans (HY4.out.mono HWZ.out.size)⟩
end Go.Proofs.Ytdjmfjmijpfijaa
