/-
  HashOfSeparates, walked.
-/
import Derived.Test.YtlhbeaaomgadbaaDoorStreamLaw
import Derived.Deep.CutBlock
namespace Go.Proofs.YtlhbeaaomgadbaaDoor
open Go.RowKit
set_option linter.unusedVariables false
set_option linter.unusedSimpArgs false
attribute [local go_sem ↓] Go.wp_at_zero Go.wp_at_succ
attribute [local go_sem ↓] wp_load_32 wp_load_16
attribute [local go_sem] ptrBlock_is

theorem enc_tail {m n : Int} (hm : Wr.inI m) (hn : Wr.inI n) {u v : List UInt8} (h : Wr.enc m ++ u = Wr.enc n ++ v) : m = n ∧ u = v := by
  have h1 := Wr.dec_enc hm u
  rw [h, Wr.dec_enc hn v] at h1
  have h2 : n = m := congrArg Prod.fst h1
  subst h2
  exact ⟨rfl, List.append_cancel_left h⟩
theorem encB_tail {a b u v : List UInt8} (ha : a.length ≤ 400) (hb : b.length ≤ 400) (h : Wr.encB a ++ u = Wr.encB b ++ v) : a = b ∧ u = v := by
  unfold Wr.encB at h
  rw [List.append_assoc, List.append_assoc] at h
  obtain ⟨h1, h2⟩ := enc_tail (by unfold Wr.inI; omega) (by unfold Wr.inI; omega) h
  exact List.append_inj h2 (by omega)
theorem encL_sep (xs : List (List UInt8)) : ∀ ys : List (List UInt8), (∀ x ∈ xs, x.length ≤ 400) → (∀ y ∈ ys, y.length ≤ 400) → Wr.encL Wr.encB xs = Wr.encL Wr.encB ys → xs = ys := by
  have hc : ∀ (x : List UInt8) l, Wr.encL Wr.encB (x :: l) = Wr.encB x ++ Wr.encL Wr.encB l := fun x l => by simp [Wr.encL]
  have hp : ∀ (x : List UInt8) l, Wr.encL Wr.encB (x :: l) ≠ [] := fun x l h => by
    have h1 := congrArg List.length h
    rw [hc, List.length_append, Wr.encB_len, List.length_nil] at h1
    have h2 := Wr.enc_pos (x.length : Int)
    omega
  induction xs with
  | nil => intro ys _ _ h; cases ys with
    | nil => rfl
    | cons y ys => exact absurd h.symm (hp y ys)
  | cons x xs ih => intro ys h1 h2 h; cases ys with
    | nil => exact absurd h (hp x xs)
    | cons y ys =>
      rw [hc, hc] at h
      obtain ⟨e1, e2⟩ := encB_tail (h1 x (by simp)) (h2 y (by simp)) h
      rw [e1, ih ys (fun z hz => h1 z (by simp [hz])) (fun z hz => h2 z (by simp [hz])) e2]
theorem tagB_byte (s : UInt8) : tagB ((s.toNat : Nat) : Int) = s := by
  unfold tagB
  have := s.toNat_lt
  apply UInt8.toNat_inj.1
  rw [UInt8.toNat_ofNat']
  omega
theorem input_sep {s t : UInt8} {xs ys : List (List UInt8)} (h1 : ∀ x ∈ xs, x.length ≤ 400) (h2 : ∀ y ∈ ys, y.length ≤ 400) (h : inputOf ((s.toNat : Nat) : Int) xs = inputOf ((t.toNat : Nat) : Int) ys) : s = t ∧ xs = ys := by
  unfold inputOf at h
  rw [tagB_byte, tagB_byte] at h
  injection h with h3 h4
  exact ⟨h3, encL_sep xs ys h1 h2 h4⟩
theorem take_step {α : Type} [BEq α] [LawfulBEq α] (a b : List α) (i : Nat) (ha : i < a.length) (hb : i < b.length) : (a.take (i + 1) == b.take (i + 1)) = ((a.take i == b.take i) && (a[i] == b[i])) := by
  rw [List.take_succ_eq_append_getElem ha, List.take_succ_eq_append_getElem hb, Bool.eq_iff_iff, Bool.and_eq_true, beq_iff_eq, beq_iff_eq, beq_iff_eq]
  constructor
  · intro h
    obtain ⟨h1, h2⟩ := List.append_inj h (by simp; omega)
    exact ⟨h1, by simpa using h2⟩
  · rintro ⟨h1, h2⟩; rw [h1, h2]
/-- what the loop over the two lists has found after i places -/
def smB (s t : UInt8) (xs ys : List (List UInt8)) (i : Nat) : Bool := s == t && (xs.length == ys.length && xs.take i == ys.take i)
theorem smB_step (s t : UInt8) (xs ys : List (List UInt8)) (i : Nat) (h : smB s t xs ys i = true) (ha : i < xs.length) (hb : i < ys.length) : smB s t xs ys (i + 1) = (xs[i] == ys[i]) := by
  unfold smB at *
  simp only [Bool.and_eq_true] at h
  rw [take_step _ _ _ ha hb, h.1, h.2.1, h.2.2]
  simp
theorem smB_all (s t : UInt8) (xs ys : List (List UInt8)) : smB s t xs ys xs.length = (decide (s = t ∧ xs = ys)) := by
  unfold smB
  rw [Bool.eq_iff_iff, decide_eq_true_eq, Bool.and_eq_true, Bool.and_eq_true, beq_iff_eq, beq_iff_eq, beq_iff_eq, List.take_length]
  constructor
  · rintro ⟨h1, h2, h3⟩
    rw [h2, List.take_length] at h3
    exact ⟨h1, h3⟩
  · rintro ⟨h1, rfl⟩
    exact ⟨h1, rfl, by rw [List.take_length]⟩
theorem smB_false (s t : UInt8) (xs ys : List (List UInt8)) (i : Nat) (h : smB s t xs ys i = false) : decide (s = t ∧ xs = ys) = false := by
  rw [decide_eq_false_iff_not]
  rintro ⟨rfl, rfl⟩
  unfold smB at h
  simp at h
theorem smB_len (s t : UInt8) (xs ys : List (List UInt8)) (i : Nat) (h : smB s t xs ys i = true) : xs.length = ys.length := by
  unfold smB at h
  simp only [Bool.and_eq_true, beq_iff_eq] at h
  exact h.2.1

theorem bytes_two {W : World} {g : Nat} {t : TypeId} {x y : Value} (h : Blk W g t #[x, y]) : W.cell? ⟨g, 1, none⟩ = some y := by rw [h.cell]; rfl
set_option maxHeartbeats 4000000 in
set_option maxRecDepth 100000 in
theorem sep_walk (s t : UInt8) (A B : Option Addr) (n m c c' : Nat) (xs ys : List (List UInt8)) (w : World) (hr : Reads w w.heap.size 1 A n (xs.map VS)) (hr' : Reads w w.heap.size 1 B m (ys.map VS)) (hK : KLaid w) (f1 : xs.length ≤ 12) (f2 : ∀ x ∈ xs, x.length ≤ 400) (e1 : ys.length ≤ 12) (e2 : ∀ x ∈ ys, x.length ≤ 400) :
    Calls Tryd.prog 8 #[.agg #[.int .u8 ((s.toNat : Nat) : Int), .int .u8 ((t.toNat : Nat) : Int)], .slice A n c, .slice B m c'] w fun e w' => e = .returned (.bool true) ∧ Below w.heap.size w w' := by
  have HS := hide (fun (W : World) hW => sanity_any W hW)
  have HN := hide (show n = xs.length by have := hr.1; simpa using this.symm)
  have HM := hide (show m = ys.length by have := hr'.1; simpa using this.symm)
  have hf : fewB xs = true := by unfold fewB; rw [decide_eq_true_iff]; exact ⟨f1, f2⟩
  have hf' : fewB ys = true := by unfold fewB; rw [decide_eq_true_iff]; exact ⟨e1, e2⟩
  have hn12 : n ≤ 12 := by have := HN.out; omega
  have hm12 : m ≤ 12 := by have := HM.out; omega
  have CF := hide (fun (W : World) hr => few_any A n c xs W hr (fun x h => Nat.le_trans (f2 x h) (by omega)) (by omega))
  have CG := hide (fun (W : World) hr => few_any B m c' ys W hr (fun x h => Nat.le_trans (e2 x h) (by omega)) (by omega))
  rw [hf] at CF
  rw [hf'] at CG
  have HKK := hide hK
  have HRX := hide hr
  have HRY := hide hr'
  clear hr hr' hK hf hf'
  have hbs := s.toNat_lt
  have hbt := t.toNat_lt
  go_enter Tryd.func8, Tryd.ntmps8
  go_upto_region 1 with fail
  refine name_world fun V hV => ?_
  have G0 := hide (show Blk V w.heap.size 48 #[.int .u8 ((s.toNat : Nat) : Int), .int .u8 ((t.toNat : Nat) : Int)] by rw [← hV.out]; exact Blk.new w _ _)
  have HV := hide (show Below w.heap.size w V by rw [← hV.out]; exact (Below.refl _ _).alloc (Nat.le_refl _) _)
  have hgb : w.heap.size < V.heap.size := by rw [← hV.out]; simp
  clear hV
  have hgw := Nat.le_refl w.heap.size
  generalize hgg : w.heap.size = gb at G0 hgb hgw ⊢
  clear hgg hgw
  go_wp2_with fail
  refine (unhide HS V (HKK.out.below HV.out (Nat.le_refl _))).mono ?_
  rintro e w1 ⟨rfl, hb1⟩
  have HB1 := hide (HV.out.trans (hb1.mono HV.out.size))
  have G1 := hide (G0.out.below hb1 hgb)
  clear hb1
  go_wp2_with fail
  refine (unhide CF w1 ((HRX.out.below HB1.out).more HB1.out.size)).mono ?_
  rintro e w' ⟨rfl, rfl⟩
  go_wp2_with fail
  refine (unhide CG w1 ((HRY.out.below HB1.out).more HB1.out.size)).mono ?_
  rintro e w' ⟨rfl, rfl⟩
  go_upto_region 4 with fail
  have hnx := HN.out
  have hmy := HM.out
  go_cut [8] (fun s8 wx => s8 = .bool (smB s t xs ys 0) ∧ wx = w1)
  case first =>
    have hc0 : w1.cell? ⟨gb, 0, none⟩ = some (.int .u8 ((s.toNat : Nat) : Int)) := by rw [G1.out.cell]; rfl
    have hc1 : w1.cell? ⟨gb, 1, none⟩ = some (.int .u8 ((t.toNat : Nat) : Int)) := by rw [G1.out.cell]; rfl
    by_cases hst : s = t
    · subst hst
      by_cases hnm : n = m
      · have hz : smB s s xs ys 0 = true := by unfold smB; rw [← hnx, ← hmy, hnm]; simp
        have HZ := hide hz
        subst hnm
        clear hz hnx hmy
        go_upto_region 5 with fail
        go_meet
        exact ⟨by rw [HZ.out], rfl⟩
      · have hz : smB s s xs ys 0 = false := by unfold smB; rw [← hnx, ← hmy]; simp [hnm]
        have HZ := hide hz
        have hnm1 : ((n : Int) == (m : Int)) = false := by simp; omega
        clear hz hnx hmy
        go_upto_region 5 with fail
        go_meet
        exact ⟨by rw [HZ.out], rfl⟩
    · have hz : smB s t xs ys 0 = false := by unfold smB; simp [hst]
      have HZ := hide hz
      have hst2 : ¬ s.toNat = t.toNat := fun h => hst (UInt8.toNat_inj.1 h)
      have hst1 : (((s.toNat : Nat) : Int) == ((t.toNat : Nat) : Int)) = false := by simp; omega
      clear hz hnx hmy
      go_upto_region 5 with fail
      go_meet
      exact ⟨by rw [HZ.out], rfl⟩
  case rest =>
    obtain ⟨rfl, rfl⟩ := hcut
    clear hnx hmy
    obtain ⟨wd, hwd⟩ : ∃ wd, wd = wc := ⟨_, rfl⟩
    subst hwd
    go_upto_block 0 with fail
    go_cut [8] (fun s8 wx => s8 = .bool (decide (s = t ∧ xs = ys)) ∧ Below wd.heap.size wd wx)
    case first =>
      have W0 := hide (Below.refl wd.heap.size wd)
      go_wp2_with fail
      go_loopw [8, 9] (fun s8 i wr => ∃ j : Nat, j ≤ n ∧ s8 = .bool (smB s t xs ys j) ∧ i = .int .i64 (j : Int) ∧ Below wd.heap.size wd wr) (fun s8 i _ => n - (intOf i).toNat)
      case atStart => exact ⟨0, Nat.zero_le _, rfl, rfl, W0.out⟩
      case round =>
        obtain ⟨j, hj, rfl, rfl, hbel⟩ := hrel
        have HBE := hide hbel
        clear hbel
        by_cases hlt : j < n
        · cases hsm : smB s t xs ys j with
          | false =>
            have hde := smB_false s t xs ys j hsm
            go_wp2_with fail
            go_meet
            exact ⟨by rw [hde], HBE.out⟩
          | true =>
            have hnm := smB_len s t xs ys j hsm
            have hjx : j < xs.length := by have := HN.out; omega
            have hjy : j < ys.length := by omega
            have hnx := HN.out
            have hmy := HM.out
            have hjm : j < m := by omega
            obtain ⟨ad, hA, hkl, hca⟩ := reads_item HRX.out j hlt
            obtain ⟨bd, hB, hkl', hcb⟩ := reads_item HRY.out j hjm
            subst hA
            subst hB
            have hc2 : w.cell? (ad.add j) = some (.string (S xs[j])) := by rw [hca]; simp [VS]
            have hd2 : w.cell? (bd.add j) = some (.string (S ys[j])) := by rw [hcb]; simp [VS]
            have hBW := HB1.out.trans (HBE.out.mono HB1.out.size)
            have hcw : wr.cell? (ad.add j) = some (.string (S xs[j])) := by rw [hBW.cell (block_lt_of_cell hc2)]; exact hc2
            have hdw : wr.cell? (bd.add j) = some (.string (S ys[j])) := by rw [hBW.cell (block_lt_of_cell hd2)]; exact hd2
            have hstep := smB_step s t xs ys j hsm hjx hjy
            have heq : ((S xs[j]).toList == (S ys[j]).toList) = smB s t xs ys (j + 1) := by rw [hstep, ByteArray.toList_eq, ByteArray.toList_eq]; rfl
            generalize S xs[j] = x1 at *
            generalize S ys[j] = x2 at *
            have HBD := hide (show Below wd.heap.size wd wr.drew from HBE.out.drew)
            clear hca hcb hc2 hd2 hBW hstep hnx hmy hnm
            go_upto_region 8 with fail
            go_region_with fail
            all_goals
              go_wp2
              exact ⟨⟨j + 1, by omega, rfl, by go_num, HBD.out⟩, by simp [intOf]; omega⟩
        · have hjn : j = xs.length := by have := HN.out; omega
          have hde := smB_all s t xs ys
          rw [← hjn] at hde
          generalize smB s t xs ys j = bb at *
          have HDE := hide hde
          clear hde hjn
          go_wp2_with fail
          go_meet
          exact ⟨by rw [HDE.out], HBE.out⟩
    case rest =>
      obtain ⟨rfl, hbc⟩ := hcut
      have HBc := hide (HB1.out.trans (hbc.mono HB1.out.size))
      have G2 := hide (G1.out.below hbc G1.out.lt)
      have hc0 : wc.cell? ⟨gb, 0, none⟩ = some (.int .u8 ((s.toNat : Nat) : Int)) := by rw [G2.out.cell]; rfl
      clear hbc HS CF CG HV G0 hgb
      have hlx := encL_few xs f2
      have hly := encL_few ys e2
      have CIX := hide (fun (W : World) hr => input_any ((s.toNat : Nat) : Int) A n c xs W hr (by omega) (by omega))
      have CIY := hide (fun (W : World) hr => input_any ((t.toNat : Nat) : Int) B m c' ys W hr (by omega) (by omega))
      have COX := hide (fun (W : World) hr hW => of_any ((s.toNat : Nat) : Int) A n c xs W hr (by omega) (by omega) hW)
      have COY := hide (fun (W : World) hr hW => of_any ((t.toNat : Nat) : Int) B m c' ys W hr (by omega) (by omega) hW)
      have HSEP := hide (fun h => input_sep (s := s) (t := t) f2 e2 h)
      have HSAME := hide (fun (h : s = t ∧ xs = ys) => (show inputOf ((s.toNat : Nat) : Int) xs = inputOf ((t.toNat : Nat) : Int) ys by rw [h.1, h.2]))
      have hdx := digestOf_len (inputOf ((s.toNat : Nat) : Int) xs)
      have hdy := digestOf_len (inputOf ((t.toNat : Nat) : Int) ys)
      have hXl : (inputOf ((s.toNat : Nat) : Int) xs).length ≤ 1099511627776 := by unfold inputOf; rw [List.length_cons]; omega
      have hYl : (inputOf ((t.toNat : Nat) : Int) ys).length ≤ 1099511627776 := by unfold inputOf; rw [List.length_cons]; omega
      generalize inputOf ((s.toNat : Nat) : Int) xs = X at *
      generalize inputOf ((t.toNat : Nat) : Int) ys = Y at *
      clear hlx hly
      generalize hdc : decide (s = t ∧ xs = ys) = sm at *
      have HDC := hide hdc
      clear hdc
      go_upto_region 11 with (first
        | (go_at_call 23; (with_reducible refine (unhide CIX wc ((HRX.out.below HBc.out).more HBc.out.size)).mono ?_); rintro e w2 ⟨v2, rfl, ho2, hb2⟩; obtain ⟨Ax, cx, rfl, _, _⟩ := own_slice ho2; have HO2 := hide (Reads.of_own ho2); have HB2 := hide (HBc.out.trans (hb2.mono HBc.out.size)); have G3 := hide (G2.out.below hb2 G2.out.lt); have hc1 := bytes_two G3.out; clear hb2 ho2)
        | (go_at_call 23; (with_reducible refine (unhide CIY w2 ((HRY.out.below HB2.out).more HB2.out.size)).mono ?_); rintro e w3 ⟨v3, rfl, ho3, hb3⟩; obtain ⟨Ay, cy, rfl, _, _⟩ := own_slice ho3; have HY3 := hide (Reads.of_own ho3); have HX3 := hide ((HO2.out.below hb3).more hb3.size); have HB3 := hide (HB2.out.trans (hb3.mono HB2.out.size)); have G4 := hide (G3.out.below hb3 G3.out.lt); clear hb3 ho3 hc1))
      clear CIX CIY hc0
      have hvX := run_conv_reads (P := Tryd.prog) HX3.out 22 9 5 cx Tryd.underlying22 Tryd.underlying5 Tryd.underlying9
      have hvY := run_conv_reads (P := Tryd.prog) HY3.out 22 9 5 cy Tryd.underlying22 Tryd.underlying5 Tryd.underlying9
      cases sm with
      | true =>
        have hXY := HSAME.out (of_decide_eq_true HDC.out)
        have hxy : ((S X).toList == (S Y).toList) = true := by rw [hXY, beq_self_eq_true]
        have HXY := hide hXY
        clear hXY
        go_wp2
        go_ret
        exact ⟨rfl, HB3.out⟩
      | false =>
        have HSMX := hide (fun A n c (W : World) hr hW => hsum_any A n c X W hr hW (by omega))
        have HSMY := hide (fun A n c (W : World) hr hW => hsum_any A n c Y W hr hW (by omega))
        have HNE := hide (show X ≠ Y from fun h => of_decide_eq_false HDC.out (HSEP.out h))
        have hSX := Sha.sum_len X
        have hSY := Sha.sum_len Y
        have HDX := hide (show digestOf X = (Sha.sum X).take 16 from rfl)
        have HDY := hide (show digestOf Y = (Sha.sum Y).take 16 from rfl)
        generalize digestOf X = D at *
        generalize digestOf Y = E at *
        generalize Sha.sum X = SX at *
        generalize Sha.sum Y = SY at *
        have HLD := hide hdx
        have HLE := hide hdy
        have HLX := hide hSX
        have HLY := hide hSY
        clear hdx hdy hSX hSY hvX hvY HSAME HSEP
        have hc0 : w3.cell? ⟨gb, 0, none⟩ = some (.int .u8 ((s.toNat : Nat) : Int)) := by rw [G4.out.cell]; rfl
        go_upto_region 14 with (first
          | (go_at_call 21; (with_reducible refine (unhide COX w3 ((HRX.out.below HB3.out).more HB3.out.size) (HKK.out.below HB3.out (Nat.le_refl _))).mono ?_); rintro e z1 ⟨rfl, hz⟩; have HZz1 := hide hz; clear hz)
          | (with_reducible refine wpList_store_row rfl 44 (.tmp 12) (.tmp 81) rfl z1.heap.size (BV D).toArray rfl rfl 44 _ (heap_alloc_new z1 _) ?p1 ?p2 ?p3 ?_))
        case p1 => first | (rw [List.size_toArray, BV_len, HLD.out]; exact size16) | (rw [BV_len, HLD.out]; exact Option.map_eq_some_iff.1 size16)
        case p2 => first | (rw [show (BV D).toArray.size = 16 by rw [List.size_toArray, BV_len, HLD.out]]; rfl) | (rw [BV_len D, HLD.out]; rfl)
        case p3 => first | exact all_oneCell_toArray (BV_one D) | exact BV_one D
        rw [World.setRow_alloc_new]
        refine name_world fun P1 hP => ?_
        have hzs := HZz1.out.size
        have D_P1 := hide (show Blk P1 z1.heap.size 44 (BV D).toArray by rw [← hP.out]; exact Blk.new z1 _ _)
        have BBP1 := hide (show Below w3.heap.size w3 P1 by rw [← hP.out]; exact HZz1.out.alloc HZz1.out.size _)
        have BWP1 := hide (show Below w3.heap.size w3 P1 from BBP1.out)
        clear hP hzs hc0
        generalize z1.heap.size = gd at *
        have hc0 : P1.cell? ⟨gb, 1, none⟩ = some (.int .u8 ((t.toNat : Nat) : Int)) := bytes_two (G4.out.below BWP1.out G4.out.lt)
        go_upto_region 15 with (first
          | (go_at_call 21; (with_reducible refine (unhide COY P1 ((HRY.out.below (HB3.out.trans (BWP1.out.mono HB3.out.size))).more (HB3.out.trans (BWP1.out.mono HB3.out.size)).size) (HKK.out.below (HB3.out.trans (BWP1.out.mono HB3.out.size)) (Nat.le_refl _))).mono ?_); rintro e z2 ⟨rfl, hz⟩; have HZz2 := hide hz; clear hz)
          | (with_reducible refine wpList_store_row rfl 44 (.tmp 13) (.tmp 86) rfl z2.heap.size (BV E).toArray rfl rfl 44 _ (heap_alloc_new z2 _) ?q1 ?q2 ?q3 ?_))
        case q1 => first | (rw [List.size_toArray, BV_len, HLE.out]; exact size16) | (rw [BV_len, HLE.out]; exact Option.map_eq_some_iff.1 size16)
        case q2 => first | (rw [show (BV E).toArray.size = 16 by rw [List.size_toArray, BV_len, HLE.out]]; rfl) | (rw [BV_len E, HLE.out]; rfl)
        case q3 => first | exact all_oneCell_toArray (BV_one E) | exact BV_one E
        rw [World.setRow_alloc_new]
        refine name_world fun P2 hP => ?_
        have hzs := HZz2.out.size
        have E_P2 := hide (show Blk P2 z2.heap.size 44 (BV E).toArray by rw [← hP.out]; exact Blk.new z2 _ _)
        have BBP2 := hide (show Below P1.heap.size P1 P2 by rw [← hP.out]; exact HZz2.out.alloc HZz2.out.size _)
        have BWP2 := hide (show Below w3.heap.size w3 P2 from BWP1.out.trans (BBP2.out.mono BWP1.out.size))
        have D_P2 := hide (D_P1.out.below BBP2.out D_P1.out.lt)
        clear hP hzs hc0
        generalize z2.heap.size = ge at *
        have hc0 := trivial
        go_upto_region 16 with (first
          | (go_at_call 11; (with_reducible refine (unhide HSMX _ _ _ P2 ((HX3.out.below BWP2.out).more BWP2.out.size) (HKK.out.below (HB3.out.trans (BWP2.out.mono HB3.out.size)) (Nat.le_refl _))).mono ?_); rintro e z3 ⟨rfl, hz⟩; have HZz3 := hide hz; clear hz)
          | (with_reducible refine wpList_store_row rfl 24 (.tmp 14) (.tmp 88) rfl z3.heap.size (BV SX).toArray rfl rfl 24 _ (heap_alloc_new z3 _) ?r1 ?r2 ?r3 ?_))
        case r1 => first | (rw [List.size_toArray, BV_len, HLX.out]; exact size32) | (rw [BV_len, HLX.out]; exact Option.map_eq_some_iff.1 size32)
        case r2 => first | (rw [show (BV SX).toArray.size = 32 by rw [List.size_toArray, BV_len, HLX.out]]; rfl) | (rw [BV_len SX, HLX.out]; rfl)
        case r3 => first | exact all_oneCell_toArray (BV_one SX) | exact BV_one SX
        rw [World.setRow_alloc_new]
        refine name_world fun P3 hP => ?_
        have hzs := HZz3.out.size
        have X_P3 := hide (show Blk P3 z3.heap.size 24 (BV SX).toArray by rw [← hP.out]; exact Blk.new z3 _ _)
        have BBP3 := hide (show Below P2.heap.size P2 P3 by rw [← hP.out]; exact HZz3.out.alloc HZz3.out.size _)
        have BWP3 := hide (show Below w3.heap.size w3 P3 from BWP2.out.trans (BBP3.out.mono BWP2.out.size))
        have D_P3 := hide (D_P2.out.below BBP3.out D_P2.out.lt)
        have E_P3 := hide (E_P2.out.below BBP3.out E_P2.out.lt)
        clear hP hzs hc0
        generalize z3.heap.size = gx at *
        have hc0 := trivial
        go_upto_region 17 with (first
          | (go_at_call 11; (with_reducible refine (unhide HSMY _ _ _ P3 ((HY3.out.below BWP3.out).more BWP3.out.size) (HKK.out.below (HB3.out.trans (BWP3.out.mono HB3.out.size)) (Nat.le_refl _))).mono ?_); rintro e z4 ⟨rfl, hz⟩; have HZz4 := hide hz; clear hz)
          | (with_reducible refine wpList_store_row rfl 24 (.tmp 15) (.tmp 90) rfl z4.heap.size (BV SY).toArray rfl rfl 24 _ (heap_alloc_new z4 _) ?u1 ?u2 ?u3 ?_))
        case u1 => first | (rw [List.size_toArray, BV_len, HLY.out]; exact size32) | (rw [BV_len, HLY.out]; exact Option.map_eq_some_iff.1 size32)
        case u2 => first | (rw [show (BV SY).toArray.size = 32 by rw [List.size_toArray, BV_len, HLY.out]]; rfl) | (rw [BV_len SY, HLY.out]; rfl)
        case u3 => first | exact all_oneCell_toArray (BV_one SY) | exact BV_one SY
        rw [World.setRow_alloc_new]
        refine name_world fun P4 hP => ?_
        have hzs := HZz4.out.size
        have Y_P4 := hide (show Blk P4 z4.heap.size 24 (BV SY).toArray by rw [← hP.out]; exact Blk.new z4 _ _)
        have BBP4 := hide (show Below P3.heap.size P3 P4 by rw [← hP.out]; exact HZz4.out.alloc HZz4.out.size _)
        have BWP4 := hide (show Below w3.heap.size w3 P4 from BWP3.out.trans (BBP4.out.mono BWP3.out.size))
        have D_P4 := hide (D_P3.out.below BBP4.out D_P3.out.lt)
        have E_P4 := hide (E_P3.out.below BBP4.out E_P3.out.lt)
        have X_P4 := hide (X_P3.out.below BBP4.out X_P3.out.lt)
        clear hP hzs hc0
        generalize z4.heap.size = gy at *
        have W4 := hide (Below.refl P4.heap.size P4)
        go_wp2_with fail
        go_loopw [16, 17] (fun cb i wr => ∃ j : Nat, j ≤ 16 ∧ cb = .bool (SX.take j == SY.take j) ∧ i = .int .i64 (j : Int) ∧ Below P4.heap.size P4 wr) (fun cb i _ => 16 - (intOf i).toNat)
        case atStart => exact ⟨0, Nat.zero_le _, rfl, rfl, W4.out⟩
        case round =>
          obtain ⟨j, hj, hcb, rfl, hbel⟩ := hrel
          have HBE := hide hbel
          clear hbel
          obtain ⟨cl, hcl⟩ : ∃ cl, (SX.take j == SY.take j) = cl := ⟨_, rfl⟩
          rw [hcl] at hcb
          subst hcb
          have HCL := hide hcl
          clear hcl
          by_cases hlt : j < 16
          · have hjx : j < SX.length := by have := HLX.out; omega
            have hjy : j < SY.length := by have := HLY.out; omega
            have hstep := take_step SX SY j hjx hjy
            have hcx : wr.cell? ⟨gx, j, none⟩ = some (.int .u8 ((SX[j].toNat : Nat) : Int)) := bytes_cell (X_P4.out.below HBE.out X_P4.out.lt) j SX[j] (List.getElem?_eq_getElem hjx)
            have hcy : wr.cell? ⟨gy, j, none⟩ = some (.int .u8 ((SY[j].toNat : Nat) : Int)) := bytes_cell (Y_P4.out.below HBE.out Y_P4.out.lt) j SY[j] (List.getElem?_eq_getElem hjy)
            have hbx := SX[j].toNat_lt
            have hby := SY[j].toNat_lt
            have heq : (((SX[j].toNat : Nat) : Int) == ((SY[j].toNat : Nat) : Int)) = (SX[j] == SY[j]) := by
              rw [Bool.eq_iff_iff, beq_iff_eq, beq_iff_eq]
              exact ⟨fun h => UInt8.toNat_inj.1 (by omega), fun h => by rw [h]⟩
            generalize SX[j].toNat = x1 at *
            generalize SY[j].toNat = x2 at *
            generalize (SX[j] == SY[j]) = xe at *
            have HBD := hide (show Below P4.heap.size P4 wr.drew from HBE.out.drew)
            have HST := hide hstep
            have HEQ := hide heq
            clear hstep heq
            cases cl with
            | false =>
              go_upto_region 21 with fail
              go_quiet (fail)
              all_goals
                go_wp2
                exact ⟨⟨j + 1, by omega, by rw [HST.out, HCL.out]; rfl, by go_num, below_drewN HBE.out _⟩, by simp [intOf]; omega⟩
            | true =>
              go_upto_region 21 with fail
              go_region_with fail
              all_goals
                go_wp2
                exact ⟨⟨j + 1, by omega, by rw [HST.out, HCL.out, Bool.true_and, ← HEQ.out], by go_num, HBD.out⟩, by simp [intOf]; omega⟩
          · have hj16 : j = 16 := by omega
            have hDE : cl = (D == E) := by rw [← HCL.out, HDX.out, HDY.out, hj16]
            have hgd := guard16
            have hsame : ∀ W, (Op.equalIn 10000 44 (.agg (BV D).toArray) (.agg (BV E).toArray)).run Tryd.prog W = .ok (D == E) W := fun W => run_same16 D E HLD.out HLE.out W
            generalize (D == E) = de at *
            subst hDE
            have BW5 := hide (BWP4.out.trans (HBE.out.mono BWP4.out.size))
            have hvX := run_conv_reads (P := Tryd.prog) (HX3.out.below BW5.out) 22 9 5 cx Tryd.underlying22 Tryd.underlying5 Tryd.underlying9
            have hvY := run_conv_reads (P := Tryd.prog) (HY3.out.below BW5.out) 22 9 5 cy Tryd.underlying22 Tryd.underlying5 Tryd.underlying9
            have hxy : ((S X).toList == (S Y).toList) = false := by
              rw [beq_eq_false_iff_ne]
              intro h
              rw [ByteArray.toList_eq, ByteArray.toList_eq] at h
              exact HNE.out h
            obtain ⟨r1, r2⟩ : rowOk wr gd 16 ∧ rowAt wr gd = (BV D).toArray := ⟨⟨_, _, D_P4.out.below HBE.out D_P4.out.lt, by rw [List.size_toArray, BV_len, HLD.out]⟩, rowAt_blk (D_P4.out.below HBE.out D_P4.out.lt)⟩
            obtain ⟨r3, r4⟩ : rowOk wr ge 16 ∧ rowAt wr ge = (BV E).toArray := ⟨⟨_, _, E_P4.out.below HBE.out E_P4.out.lt, by rw [List.size_toArray, BV_len, HLE.out]⟩, rowAt_blk (E_P4.out.below HBE.out E_P4.out.lt)⟩
            have HFIN := hide (HB3.out.trans (BW5.out.mono HB3.out.size))
            go_wp2
            go_ret
            exact ⟨rfl, HFIN.out⟩

set_option maxHeartbeats 2000000 in
set_option maxRecDepth 100000 in
theorem separates_walk (s t : UInt8) (A B : Option Addr) (n m c c' : Nat) (xs ys : List (List UInt8)) (w : World) (hr : Reads w w.heap.size 1 A n (xs.map VS)) (hr' : Reads w w.heap.size 1 B m (ys.map VS)) (hK : KLaid w) (hn : n ≤ 140737488355328) (hm : m ≤ 140737488355328) (hx : ∀ x ∈ xs, x.length ≤ 140737488355328) (hy : ∀ y ∈ ys, y.length ≤ 140737488355328) :
    Calls Tryd.prog 8 #[.agg #[.int .u8 ((s.toNat : Nat) : Int), .int .u8 ((t.toNat : Nat) : Int)], .slice A n c, .slice B m c'] w fun e w' => e = .returned (.bool true) ∧ Below w.heap.size w w' := by
  have HS := hide (fun (W : World) hW => sanity_any W hW)
  have CF := hide (fun (W : World) hr => few_any A n c xs W hr (fun x h => Nat.le_trans (hx x h) (by omega)) (by omega))
  have CG := hide (fun (W : World) hr => few_any B m c' ys W hr (fun x h => Nat.le_trans (hy x h) (by omega)) (by omega))
  have HKK := hide hK
  have HRX := hide hr
  have HRY := hide hr'
  have hbs := s.toNat_lt
  have hbt := t.toNat_lt
  by_cases hf : fewB xs = true
  · by_cases hg : fewB ys = true
    · obtain ⟨f1, f2⟩ := fewB_true hf
      obtain ⟨g1, g2⟩ := fewB_true hg
      exact sep_walk s t A B n m c c' xs ys w hr hr' hK f1 f2 g1 g2
    · rw [Bool.not_eq_true] at hg
      rw [hf] at CF
      rw [hg] at CG
      clear hr hr' hK hx hy hf hg
      go_enter Tryd.func8, Tryd.ntmps8
      go_upto_region 1 with fail
      refine name_world fun V hV => ?_
      have HV := hide (show Below w.heap.size w V by rw [← hV.out]; exact (Below.refl _ _).alloc (Nat.le_refl _) _)
      clear hV
      go_wp2_with fail
      refine (unhide HS V (HKK.out.below HV.out (Nat.le_refl _))).mono ?_
      rintro e w1 ⟨rfl, hb1⟩
      have HB1 := hide (HV.out.trans (hb1.mono HV.out.size))
      clear hb1
      go_wp2_with fail
      refine (unhide CF w1 ((HRX.out.below HB1.out).more HB1.out.size)).mono ?_
      rintro e w' ⟨rfl, rfl⟩
      go_wp2_with fail
      refine (unhide CG w1 ((HRY.out.below HB1.out).more HB1.out.size)).mono ?_
      rintro e w' ⟨rfl, rfl⟩
      go_wp2
      go_ret
      exact ⟨rfl, HB1.out⟩
  · rw [Bool.not_eq_true] at hf
    rw [hf] at CF
    clear hr hr' hK hx hy hf
    go_enter Tryd.func8, Tryd.ntmps8
    go_upto_region 1 with fail
    refine name_world fun V hV => ?_
    have HV := hide (show Below w.heap.size w V by rw [← hV.out]; exact (Below.refl _ _).alloc (Nat.le_refl _) _)
    clear hV
    go_wp2_with fail
    refine (unhide HS V (HKK.out.below HV.out (Nat.le_refl _))).mono ?_
    rintro e w1 ⟨rfl, hb1⟩
    have HB1 := hide (HV.out.trans (hb1.mono HV.out.size))
    clear hb1
    go_wp2_with fail
    refine (unhide CF w1 ((HRX.out.below HB1.out).more HB1.out.size)).mono ?_
    rintro e w' ⟨rfl, rfl⟩
    go_wp2
    go_ret
    exact ⟨rfl, HB1.out⟩
end Go.Proofs.YtlhbeaaomgadbaaDoor
