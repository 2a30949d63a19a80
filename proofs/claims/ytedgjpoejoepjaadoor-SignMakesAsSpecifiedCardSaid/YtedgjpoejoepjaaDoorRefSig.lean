/-
  The reference's ints, node, Digest, advance, by contract.
  The reference's digest (the first 16 bytes), by contract.
  The reference's Digest, digest, advance, by contract.
-/
import Derived.Test.YtedgjpoejoepjaaDoorRefInts
import Derived.Test.YtedgjpoejoepjaaDoorSane
import Derived.Test.YtedgjpoejoepjaaDoorPart
namespace Go.Proofs.YtedgjpoejoepjaaDoor
open Go.RowKit
set_option linter.unusedVariables false
set_option linter.unusedSimpArgs false

theorem refOfD_any (z : Int) (A : Option Addr) (n c : Nat) (xs : List (List UInt8)) (w : World) (hr : Reads w w.heap.size 1 A n (xs.map VS)) (hm : n ≤ 1048576) (hbig : (Wr.encL Wr.encB xs).length ≤ 1099511627700) (hK : RKLaid w) :
    Calls Tryd.prog 34 #[.int .i64 z, .slice A n c] w fun e w' => e = .returned (.agg (BV (Sg.ofB z xs)).toArray) ∧ Below w.heap.size w w' := refOf_any z A n c xs w hr hm hbig hK
set_option maxHeartbeats 1000000 in
set_option maxRecDepth 100000 in
theorem refIntsS_any (A : Option Addr) (n c : Nat) (xs : List Int) (w : World) (hr : Reads w w.heap.size 1 A n (xs.map (Value.int .i64))) (hm : n ≤ 1000) (hx : ∀ x ∈ xs, Wr.inI x) :
    Calls Tryd.prog 50 #[.slice A n c] w fun e w' => e = .returned (.string (S (Sg.intsB xs))) ∧ Below w.heap.size w w' := by
  have hn : n = xs.length := by have := hr.1; simp at this; omega
  have hl := ints_len xs
  have hm2 : n ≤ 1048576 := by omega
  have hbig : (Wr.encL Wr.enc xs).length ≤ 1099511627776 := by
    have h2 : (Sg.intsB xs).length = (Wr.enc xs.length).length + (Wr.encL Wr.enc xs).length := by unfold Sg.intsB; rw [List.length_append]
    omega
  have CI := hide (fun (W : World) hr => refInts_any A n c xs W hr hm2 hbig hx)
  have hj : Wr.enc xs.length ++ Wr.encL Wr.enc xs = Sg.intsB xs := rfl
  rw [hj] at CI
  generalize Sg.intsB xs = I at *
  have HR := hide hr
  clear hr hm hm2 hbig hl hn hx hj
  go_enter Tryd.func50, Tryd.ntmps50
  go_wp2_with (go_at_call 61; refine (CI.out _ HR.out).mono ?_; rintro e x1 ⟨v1, rfl, hown1, hb1⟩; obtain ⟨A1, c1, rfl, _, _⟩ := own_slice hown1; have hcv := conv_own hown1 (Below.refl x1.heap.size x1); have HX1 := hide hb1; clear hb1 hown1)
  go_ret
  exact ⟨rfl, HX1.out⟩
set_option maxHeartbeats 1000000 in
set_option maxRecDepth 100000 in
theorem refNode_any (a b : List UInt8) (w : World) (ha : a.length = 16) (hb : b.length = 16) (hK : RKLaid w) :
    Calls Tryd.prog 43 #[.agg (BV a).toArray, .agg (BV b).toArray] w fun e w' => e = .returned (.agg (BV (Sg.join a b)).toArray) ∧ Below w.heap.size w w' := by
  have hbig : (Wr.encL Wr.encB [a, b]).length ≤ 1099511627700 := by
    have h1 := encB16 a ha
    have h2 := encB16 b hb
    unfold Wr.encL
    simp only [List.flatMap_cons, List.flatMap_nil, List.append_nil, List.length_append]
    omega
  have CO := hide (fun A n c (W : World) hr hK => refOfD_any 2 A n c [a, b] W hr (by have := hr.1; simp at this; omega) hbig hK)
  have CTA := hide (fun (W : World) => text_any a W ha)
  have CTB := hide (fun (W : World) => text_any b W hb)
  have hlen := Sg.join_len a b
  have hjo : Sg.ofB 2 [a, b] = Sg.join a b := rfl
  rw [hjo] at CO
  generalize Sg.join a b = D at *
  have HPL := hide hlen
  have HA := hide ha
  have HB := hide hb
  have HK := hide hK
  have hzs := zero16
  clear hbig hlen hjo ha hb hK
  go_enter Tryd.func43, Tryd.ntmps43
  go_upto_region 1 with fail
  refine name_world fun V hV => ?_
  have D2 := hide (show Dig V w.heap.size a by rw [← hV.out]; exact ((Dig.new w a HA.out).alloc _).alloc _)
  have D3 := hide (show Dig V (w.heap.size + 1) b by
    rw [← hV.out]
    have := (Dig.new (w.alloc (.cells (BV a).toArray 23)) b HB.out).alloc (.cells (BV Z16).toArray 23)
    rwa [show (w.alloc (.cells (BV a).toArray 23)).heap.size = w.heap.size + 1 by simp] at this)
  have D4 := hide (show Dig V (w.heap.size + 1 + 1) Z16 by
    rw [← hV.out]
    have := Dig.new ((w.alloc (.cells (BV a).toArray 23)).alloc (.cells (BV b).toArray 23)) Z16 rfl
    rwa [show ((w.alloc (.cells (BV a).toArray 23)).alloc (.cells (BV b).toArray 23)).heap.size = w.heap.size + 1 + 1 by simp] at this)
  have HV := hide (show Below w.heap.size w V by rw [← hV.out]; exact (((Below.refl _ _).alloc (Nat.le_refl _) _).alloc (by simp) _).alloc (by simp; omega) _)
  clear hV hzs
  have h2 := D2.out.2.lt
  have h3 := D3.out.2.lt
  have h4 := D4.out.2.lt
  have B0 := Below.refl V.heap.size V
  have HT := hide (fun (W' : World) (hb : Below V.heap.size V W') => (show W'.rangeAt w.heap.size 0 (BV a) ∧ W'.rangeAt (w.heap.size + 1) 0 (BV b) from ⟨(D2.out.below hb h2).range, (D3.out.below hb h3).range⟩))
  have HR := hide (fun (W' : World) (hb : Below V.heap.size V W') => D4.out.below hb h4)
  have HT2 := hide (fun (W' : World) (hb : Below V.heap.size V W') => (show (W'.setCells (w.heap.size + 1 + 1) 0 (BV D)).rangeAt w.heap.size 0 (BV a) ∧ (W'.setCells (w.heap.size + 1 + 1) 0 (BV D)).rangeAt (w.heap.size + 1) 0 (BV b) from ⟨Dig.range ⟨HA.out, (D2.out.below hb h2).2.farCells _ _ (by omega)⟩, Dig.range ⟨HB.out, (D3.out.below hb h3).2.farCells _ _ (by omega)⟩⟩))
  have hund := Tryd.underlying23
  have hone : ∀ v ∈ BV D, v.oneCell' = true := BV_one D
  have hsz : Option.map (fun x => x.size) (Tryd.prog.info? 23) = some (BV D).length := by rw [BV_len, HPL.out]; exact size16
  have hsa : Option.map (fun x => x.size) (Tryd.prog.info? 23) = some (BV a).length := by rw [BV_len, HA.out]; exact size16
  have hsb : Option.map (fun x => x.size) (Tryd.prog.info? 23) = some (BV b).length := by rw [BV_len, HB.out]; exact size16
  have hna : (BV a).length = 16 := by rw [BV_len, HA.out]
  have hnb : (BV b).length = 16 := by rw [BV_len, HB.out]
  refine wp_region_held_drew (S := fun w' => w'.rangeAt w.heap.size 0 (BV a) ∧ w'.rangeAt (w.heap.size + 1) 0 (BV b)) (by kernel_rfl) (unhide HT _ B0.drew) (fun hHeld => ?_)
  refine wpAnyH_take (i := 0) (oi := { dst := some 5, op := .load 23 (.tmp 2), type := 23, pos := _, after := _, guard := none }) rfl (by kernel_rfl) (by kernel_rfl) (by kernel_rfl) (fun _ _ _ h => h) (yieldsIf_load_mid (by rfl) _ _ rfl _ _ rfl (BV a) _ (fun w hw => hw.1) hund rfl hsa) hHeld ?_
  simp only [Act.put, List.setIfInBounds_toArray, List.set_cons_zero, List.set_cons_succ]
  refine wpAnyH_take (i := 2) (oi := { dst := some 7, op := .load 23 (.tmp 3), type := 23, pos := _, after := _, guard := none }) rfl (by kernel_rfl) (by kernel_rfl) (by kernel_rfl) (fun _ _ _ h => h) (yieldsIf_load_mid (by rfl) _ _ rfl _ _ rfl (BV b) _ (fun w hw => hw.2) hund rfl hsb) hHeld ?_
  simp only [Act.put, List.setIfInBounds_toArray, List.set_cons_zero, List.set_cons_succ]
  refine wpAnyH_ready (rs := [1]) (by kernel_rfl) (by simp) ?_
  refine AllReadyH.cons rfl (fun K hK => ?_) AllReadyH.nil
  go_simp
  go_wp2_with (go_at_call 30; (with_reducible refine (unhide CTA V.drew).mono ?_); rintro e x1 ⟨rfl, hb1⟩; have hX1 : Below V.heap.size V x1 := from_here B0.drew hb1)
  refine hK.out _ _ (unhide HT _ hX1) (fun hHeld2 => ?_)
  clear hK K hHeld
  have hHeld := hHeld2
  clear hHeld2
  refine wpAnyH_ready (rs := [3]) (by kernel_rfl) (by simp) ?_
  refine AllReadyH.cons rfl (fun K hK => ?_) AllReadyH.nil
  go_simp
  go_wp2_with (go_at_call 30; (with_reducible refine (unhide CTB x1).mono ?_); rintro e x2 ⟨rfl, hb2⟩; have hX2 : Below V.heap.size V x2 := from_here hX1 hb2)
  refine hK.out _ _ (unhide HT _ hX2) (fun hHeld2 => ?_)
  clear hK K hHeld
  have hHeld := hHeld2
  clear hHeld2
  refine wpAnyH_ready (rs := [4]) (by kernel_rfl) (by simp) ?_
  refine AllReadyH.cons rfl (fun K hK => ?_) AllReadyH.nil
  go_simp
  refine hK.out _ _ (unhide HT _ (hX2.alloc hX2.size _)) (fun hHeld2 => ?_)
  clear hK K hHeld
  have hHeld := hHeld2
  clear hHeld2
  refine wpAnyH_ready (rs := [5]) (by kernel_rfl) (by simp) ?_
  refine AllReadyH.cons rfl (fun K hK => ?_) AllReadyH.nil
  go_simp
  go_wp2_with (go_at_call 34; refine (CO.out _ _ _ _ (reads_block x2 [VS a, VS b] 9 2 rfl) (HK.out.below (HV.out.trans ((hX2.alloc hX2.size _).mono HV.out.size)) (Nat.le_refl _))).mono ?_; rintro e x3 ⟨rfl, hb3⟩; have hX3 : Below V.heap.size V x3 := from_here (hX2.alloc hX2.size _) hb3; have ht3 : x3.there (w.heap.size + 1 + 1) 0 (BV D).length := (unhide HR _ hX3).2.there_ 0 _ (by rw [BV_len, BV_len, HPL.out]; decide))
  refine hK.out _ _ (unhide HT _ hX3) (fun hHeld2 => ?_)
  clear hK K hHeld
  have hHeld := hHeld2
  clear hHeld2
  refine wpAnyH_ready (rs := [6]) (by kernel_rfl) (by simp) ?_
  refine AllReadyH.cons rfl (fun K hK => ?_) AllReadyH.nil
  rw [if_pos (by rfl)]
  refine wp_store_mid _ _ _ rfl _ _ (BV D).toArray rfl rfl (by rw [List.size_toArray]; exact ht3) (by rw [List.size_toArray]; exact hsz) (all_oneCell_toArray hone) ?_
  simp only [Act.put, List.setIfInBounds_toArray, List.set_cons_zero, List.set_cons_succ, List.toList_toArray]
  refine hK.out _ _ (unhide HT2 _ hX3) (fun hHeld2 => ?_)
  clear hK K hHeld
  have hHeld := hHeld2
  clear hHeld2
  refine wpAnyH_done (by kernel_rfl) ?_ _
  have F4 := hide (show Dig (x3.setCells (w.heap.size + 1 + 1) 0 (BV D)) (w.heap.size + 1 + 1) D from (unhide HR _ hX3).stored HPL.out)
  have HX := hide (show Below w.heap.size w (x3.setCells (w.heap.size + 1 + 1) 0 (BV D)) from below_setCells (by omega) _ _ _ (HV.out.trans (hX3.mono HV.out.size)))
  clear hone hsz hsa hsb hna hnb hund
  go_wp2
  exact bodyPost_ret (v := .agg (BV D).toArray) (ret_dig Tryd.results43 _ rfl F4.out) rfl ⟨rfl, HX.out⟩
end Go.Proofs.YtedgjpoejoepjaaDoor
namespace Go.Proofs.YtedgjpoejoepjaaDoor
open Go.RowKit
set_option linter.unusedVariables false
set_option linter.unusedSimpArgs false

theorem dig_mix (s : List UInt8) (i : Nat) (h : i < 16) (hs : i < s.length) : (s.take i ++ List.replicate (16 - i) (0 : UInt8)).set i s[i] = s.take (i + 1) ++ List.replicate (16 - (i + 1)) 0 := by
  rw [List.set_append_right _ _ (by rw [List.length_take]; omega), List.length_take, Nat.min_eq_left (by omega), Nat.sub_self, show 16 - i = (16 - (i + 1)) + 1 by omega, List.replicate_succ, List.set_cons_zero, List.take_succ_eq_append_getElem hs, List.append_assoc]
  rfl
set_option maxHeartbeats 1000000 in
set_option maxRecDepth 100000 in
theorem refDig16_any (s : List UInt8) (w : World) (hs : 16 ≤ s.length) (hm : s.length ≤ 1099511627776) :
    Calls Tryd.prog 42 #[.string (S s)] w fun e w' => e = .returned (.agg (BV (s.take 16)).toArray) ∧ Below w.heap.size w w' := by
  have hzs := zero16
  go_enter Tryd.func42, Tryd.ntmps42
  go_upto_region 1 with fail
  go_upto_region 3 with fail
  refine name_world fun V hV => ?_
  have D2 := hide (show Dig V w.heap.size Z16 by rw [← hV.out]; exact (Dig.new w Z16 rfl).alloc _)
  have D3 := hide (show Blk V (w.heap.size + 1) 23 (BV (s.take 0 ++ List.replicate (16 - 0) 0)).toArray by
    rw [← hV.out]
    have := Dig.new (w.alloc (.cells (BV Z16).toArray 23)) Z16 rfl
    rw [show (w.alloc (.cells (BV Z16).toArray 23)).heap.size = w.heap.size + 1 by simp] at this
    exact this.2)
  have HV := hide (show Below w.heap.size w V by rw [← hV.out]; exact ((Below.refl _ _).alloc (Nat.le_refl _) _).alloc (by simp) _)
  have hsz : (S s).size = s.length := rfl
  clear hV hzs
  go_loopw [4] (fun s4 wr => ∃ i : Nat, i ≤ 16 ∧ s4 = .int .i64 (i : Int) ∧ Blk wr (w.heap.size + 1) 23 (BV (s.take i ++ List.replicate (16 - i) 0)).toArray ∧ Dig wr w.heap.size Z16 ∧ Below w.heap.size w wr) (fun s4 _ => 16 - (intOf s4).toNat)
  case atStart => exact ⟨0, by omega, rfl, D3.out, D2.out, HV.out⟩
  case round =>
    obtain ⟨i, hi, rfl, hC, hD, hbel⟩ := hrel
    obtain ⟨wd, rfl⟩ : ∃ wd, wd = wr := ⟨wr, rfl⟩
    by_cases hlt : i < 16
    · have hcell : wd.cell? ⟨w.heap.size + 1, i, none⟩ = some (.int .u8 (((0 : UInt8).toNat : Nat) : Int)) := by
        rw [hC.cell, List.getElem?_toArray]
        have : (s.take i ++ List.replicate (16 - i) (0 : UInt8))[i]? = some 0 := by
          rw [List.getElem?_append_right (by rw [List.length_take]; omega), List.length_take, Nat.min_eq_left (by omega), Nat.sub_self, List.getElem?_replicate, if_pos (by omega)]
        simp only [BV, List.getElem?_map, this]; rfl
      have hfr := hC.frozen i
      have hset := hC.set_ i (.int .u8 ((s[i].toNat : Nat) : Int))
      rw [List.setIfInBounds_toArray, show (BV (s.take i ++ List.replicate (16 - i) 0)).set i (.int .u8 ((s[i].toNat : Nat) : Int)) = BV (s.take (i + 1) ++ List.replicate (16 - (i + 1)) 0) by rw [← dig_mix s i hlt (by omega)]; simp [BV, List.map_set]] at hset
      have HSET := hide hset
      have HB := hide hbel
      have HDD := hide hD
      have i0' : (0 : Int) ≤ (i : Int) := by omega
      have i1' : (i : Int) < 16 := by omega
      have i2' : (i : Int) < (((S s).size : Nat) : Int) := by rw [hsz]; omega
      clear hC hset hbel hD
      go_wp2
      exact ⟨⟨i + 1, by omega, by go_num, HSET.out, ⟨rfl, HDD.out.2.far (p := ⟨w.heap.size + 1, i, none⟩) (by show w.heap.size ≠ w.heap.size + 1; omega) _⟩, HB.out.setCell (p := ⟨w.heap.size + 1, i, none⟩) (by show w.heap.size ≤ w.heap.size + 1; omega) _⟩, by simp [intOf]; omega⟩
    · obtain rfl : i = 16 := by omega
      rw [Nat.sub_self, List.replicate_zero, List.append_nil] at hC
      have F3 := hide (show Dig wd (w.heap.size + 1) (s.take 16) from ⟨by rw [List.length_take]; omega, hC⟩)
      have F2 := hide hD
      have HB := hide hbel
      have hlen : (s.take 16).length = 16 := by rw [List.length_take]; omega
      clear hC hD hbel D2 D3 HV
      go_wp2_with (first | (with_reducible refine wpList_load_dig rfl (.tmp 3) rfl (w.heap.size + 1) rfl _ F3.out ?_) | (with_reducible refine wpList_store_dig rfl (.tmp 2) (.tmp 14) rfl w.heap.size Z16 _ rfl rfl F2.out hlen ?_; intro U hU))
      exact bodyPost_ret (v := .agg (BV _).toArray) (ret_dig Tryd.results42 _ rfl (F2.out.put hlen hU)) rfl ⟨rfl, below_row HB.out (Nat.le_refl _) hU⟩
end Go.Proofs.YtedgjpoejoepjaaDoor
namespace Go.Proofs.YtedgjpoejoepjaaDoor
open Go.RowKit
set_option linter.unusedVariables false
set_option linter.unusedSimpArgs false

set_option maxHeartbeats 1000000 in
set_option maxRecDepth 100000 in
theorem refDigest_any (p m : List UInt8) (i : Int) (w : World) (hp : p.length = 16) (hi : Wr.inI i) (hm : m.length ≤ 1099511627000) (hK : RKLaid w) :
    Calls Tryd.prog 17 #[.agg (BV p).toArray, .int .i64 i, .string (S m)] w fun e w' => e = .returned (.agg (BV (Sg.digestP p i m)).toArray) ∧ Below w.heap.size w w' := by
  have hel := Wr.enc_le i
  have hbig : (Wr.encL Wr.encB [p, Wr.enc i, m]).length ≤ 1099511627700 := by
    have h1 := encB16 p hp
    unfold Wr.encL
    simp only [List.flatMap_cons, List.flatMap_nil, List.append_nil, List.length_append]
    unfold Wr.encB at *
    simp only [List.length_append] at *
    have h2 := Wr.enc_le ((Wr.enc i).length : Int)
    have h3 := Wr.enc_le (m.length : Int)
    omega
  have CI := hide (fun (W : World) => refInt_any i W hi)
  have CT := hide (fun (W : World) => text_any p W hp)
  have CO := hide (fun A n c (W : World) hr hK => refOfD_any 4 A n c [p, Wr.enc i, m] W hr (by have := hr.1; simp at this; omega) hbig hK)
  have hlen : (Sg.digestP p i m).length = 16 := Sg.ofB_len _ _
  have hjo : Sg.ofB 4 [p, Wr.enc i, m] = Sg.digestP p i m := rfl
  rw [hjo] at CO
  generalize Sg.digestP p i m = D at *
  generalize Wr.enc i = I at *
  have HPL := hide hlen
  have HP := hide hp
  have HK := hide hK
  have hzs := zero16
  clear hbig hlen hjo hp hK hel hi
  go_enter Tryd.func17, Tryd.ntmps17
  go_upto_region 1 with fail
  refine name_world fun V hV => ?_
  have D3 := hide (show Dig V w.heap.size p by rw [← hV.out]; exact (Dig.new w p HP.out).alloc _)
  have D6 := hide (show Dig V (w.heap.size + 1) Z16 by
    rw [← hV.out]
    have := Dig.new (w.alloc (.cells (BV p).toArray 23)) Z16 rfl
    rwa [show (w.alloc (.cells (BV p).toArray 23)).heap.size = w.heap.size + 1 by simp] at this)
  have HV := hide (show Below w.heap.size w V by rw [← hV.out]; exact ((Below.refl _ _).alloc (Nat.le_refl _) _).alloc (by simp) _)
  clear hV hzs
  have h6 := D6.out.2.lt
  have hvs := HV.out.size
  go_wp2_with (first
    | (with_reducible refine wpList_load_dig rfl (.tmp 3) rfl w.heap.size rfl p D3.out ?_)
    | (go_at_call 30; (with_reducible refine (unhide CT V).mono ?_); rintro e x1 ⟨rfl, hb1⟩; have X1 := hide hb1; have E6 := hide (D6.out.below hb1 h6); clear hb1)
    | (go_at_call 29; refine (unhide CI x1).mono ?_; rintro e x2 ⟨v2, rfl, hown2, hb2⟩; obtain ⟨A2, c2, rfl, _, _⟩ := own_slice hown2; have hcv := conv_own hown2 (Below.refl x2.heap.size x2); have X2 := hide (X1.out.trans (hb2.mono X1.out.size)); have F6 := hide (E6.out.below hb2 E6.out.2.lt); clear hown2 hb2)
    | (go_at_call 34; refine (CO.out _ _ _ _ (reads_block x2 [VS p, VS I, VS m] 9 3 rfl) (HK.out.below (HV.out.trans ((X2.out.alloc X2.out.size _).mono HV.out.size)) (Nat.le_refl _))).mono ?_; rintro e x3 ⟨rfl, hb3⟩; have X3 := hide ((X2.out.alloc X2.out.size _).trans (hb3.mono (Nat.le_trans X2.out.size (by simp)))); have G6 := hide ((F6.out.alloc _).below hb3 (by have := F6.out.2.lt; simp; omega)); clear hb3)
    | (with_reducible refine wpList_store_dig rfl (.tmp 6) (.tmp 14) rfl (w.heap.size + 1) Z16 D rfl rfl G6.out HPL.out ?_; intro U hU))
  exact bodyPost_ret (v := .agg (BV D).toArray) (ret_dig Tryd.results17 _ rfl (G6.out.put HPL.out hU)) rfl ⟨rfl, below_row (HV.out.trans (X3.out.mono HV.out.size)) (by omega) hU⟩
set_option maxHeartbeats 2000000 in
set_option maxRecDepth 100000 in
theorem refAdvance_any (i c : Int) (v : List UInt8) (a n : Nat) (w : World) (hi : Wr.inI i) (hc : Wr.inI c) (hv : v.length = 16) (han : a + n ≤ 1000) (hK : RKLaid w) :
    Calls Tryd.prog 31 #[.int .i64 i, .int .i64 c, .int .i64 (a : Int), .int .i64 ((a + n : Nat) : Int), .agg (BV v).toArray] w fun e w' => e = .returned (.agg (BV (Sg.adv i c v a n)).toArray) ∧ Below w.heap.size w w' := by
  have HK := hide hK
  have HI := hide hi
  have HC := hide hc
  have HV0 := hide hv
  have hzs := zero16
  clear hK hi hc hv
  go_enter Tryd.func31, Tryd.ntmps31
  go_upto_region 1 with fail
  refine name_world fun V hV => ?_
  have D5 := hide (show Dig V w.heap.size v by rw [← hV.out]; exact (Dig.new w v HV0.out).alloc _)
  have D8 := hide (show Dig V (w.heap.size + 1) Z16 by
    rw [← hV.out]
    have := Dig.new (w.alloc (.cells (BV v).toArray 23)) Z16 rfl
    rwa [show (w.alloc (.cells (BV v).toArray 23)).heap.size = w.heap.size + 1 by simp] at this)
  have HV := hide (show Below w.heap.size w V by rw [← hV.out]; exact ((Below.refl _ _).alloc (Nat.le_refl _) _).alloc (by simp) _)
  clear hV hzs
  go_upto_region 2 with fail
  go_loopw [11] (fun s wr => ∃ k : Nat, k ≤ n ∧ s = .int .i64 ((a + k : Nat) : Int) ∧ Dig wr w.heap.size (Sg.adv i c v a k) ∧ Dig wr (w.heap.size + 1) Z16 ∧ Below w.heap.size w wr) (fun s _ => a + n - (intOf s).toNat)
  case atStart => exact ⟨0, Nat.zero_le _, rfl, D5.out, D8.out, HV.out⟩
  case round =>
    obtain ⟨k, hk, rfl, hD5, hD8, hbel⟩ := hrel
    obtain ⟨wd, rfl⟩ : ∃ wd, wd = wr := ⟨wr, rfl⟩
    by_cases hlt : k < n
    · have hlen := Sg.adv_len i c v a HV0.out k
      have hl2 := Sg.adv_len i c v a HV0.out (k + 1)
      have hstep : Sg.ofB 5 [Sg.intsB [i, c, ((a + k : Nat) : Int)], Sg.adv i c v a k] = Sg.adv i c v a (k + 1) := by
        show _ = Sg.ofB 5 [Sg.intsB [i, c, (a : Int) + k], Sg.adv i c v a k]
        rw [Int.natCast_add]
      have hil := ints_len [i, c, ((a + k : Nat) : Int)]
      have htest : ((a + k : Nat) : Int) < ((a + n : Nat) : Int) := by omega
      have hwrap : IntKind.i64.wrap (((a + k : Nat) : Int) + 1) = ((a + (k + 1) : Nat) : Int) := by rw [IntWalk.i64_in _ (by omega)]; omega
      have hti : Wr.inI ((a + k : Nat) : Int) := by unfold Wr.inI; omega
      have hmeas : a + n - (intOf (.int .i64 ((a + (k + 1) : Nat) : Int))).toNat < a + n - (intOf (.int .i64 ((a + k : Nat) : Int))).toNat := by simp only [intOf]; omega
      have HM := hide hmeas
      have CI := hide (fun A (W : World) hr => refIntsS_any A 3 3 [i, c, ((a + k : Nat) : Int)] W hr (by omega) (by intro x hx; simp only [List.mem_cons, List.not_mem_nil, or_false] at hx; rcases hx with rfl | rfl | rfl; exact HI.out; exact HC.out; exact hti))
      have CT := hide (fun (W : World) => text_any (Sg.adv i c v a k) W hlen)
      have hbig : (Wr.encL Wr.encB [Sg.intsB [i, c, ((a + k : Nat) : Int)], Sg.adv i c v a k]).length ≤ 1099511627700 := by
        have h1 := encB16 _ hlen
        unfold Wr.encL
        simp only [List.flatMap_cons, List.flatMap_nil, List.append_nil, List.length_append]
        have h2 := Wr.encB_len (Sg.intsB [i, c, ((a + k : Nat) : Int)])
        have h3 := Wr.enc_le ((Sg.intsB [i, c, ((a + k : Nat) : Int)]).length : Int)
        simp only [List.length_cons, List.length_nil] at hil
        omega
      have CO := hide (fun A n c' (W : World) hr hK => refOfD_any 5 A n c' [Sg.intsB [i, c, ((a + k : Nat) : Int)], Sg.adv i c v a k] W hr (by have := hr.1; simp at this; omega) hbig hK)
      rw [hstep] at CO
      have HLT := hide hlt
      have HL2 := hide hl2
      generalize hDD : Sg.adv i c v a (k + 1) = D at *
      have HDD := hide hDD
      generalize Sg.adv i c v a k = cur at *
      generalize Sg.intsB [i, c, ((a + k : Nat) : Int)] = I at *
      generalize ((a + k : Nat) : Int) = t at *
      generalize ht1 : ((a + (k + 1) : Nat) : Int) = t1 at *
      have HT1 := hide ht1
      generalize ((a + n : Nat) : Int) = u at *
      have HD5 := hide hD5
      have HD8 := hide hD8
      have HB := hide hbel
      have hsc : Option.map (fun x => x.size) (Tryd.prog.info? 23) = some (BV cur).length := by rw [BV_len, hlen]; exact size16
      clear hDD ht1 hstep hil hti hmeas hbig hlt hl2 hD5 hD8 hbel D5 D8
      have W0 := Below.refl wd.heap.size wd
      have h5 := HD5.out.2.lt
      have h8 := HD8.out.2.lt
      have HT := hide (fun (W' : World) (hb : Below wd.heap.size wd W') => (HD5.out.below hb h5).range)
      have HR := hide (fun (W' : World) (hb : Below wd.heap.size wd W') => HD5.out.below hb h5)
      have W1 : Below wd.heap.size wd (wd.alloc (.cells #[.int .i64 i, .int .i64 c, .int .i64 t] 3)).drew := (W0.alloc (Nat.le_refl _) _).drew
      have hrd : Reads (wd.alloc (.cells #[.int .i64 i, .int .i64 c, .int .i64 t] 3)).drew ((wd.alloc (.cells #[.int .i64 i, .int .i64 c, .int .i64 t] 3)).drew).heap.size 1 (some ⟨wd.heap.size, 0, none⟩) 3 ([i, c, t].map (Value.int .i64)) := reads_block wd [.int .i64 i, .int .i64 c, .int .i64 t] 3 3 rfl
      have hund := Tryd.underlying23
      have hone : ∀ v ∈ BV D, v.oneCell' = true := BV_one D
      have hsz : Option.map (fun x => x.size) (Tryd.prog.info? 23) = some (BV D).length := by rw [BV_len, HL2.out]; exact size16
      go_upto_region 4 with fail
      refine wp_region_held_drew (S := fun _ => True) (by kernel_rfl) trivial (fun _ => ?_)
      refine wpAnyH_take (i := 0) (v := .int .i64 i) rfl (by kernel_rfl) (by kernel_rfl) (by kernel_rfl) (fun _ _ _ h => h) (Or.inl ⟨by rfl, fun w _ => by go_simp⟩) trivial ?_
      simp only [Act.put, List.setIfInBounds_toArray, List.set_cons_zero, List.set_cons_succ]
      refine wpAnyH_take (i := 1) (v := .int .i64 c) rfl (by kernel_rfl) (by kernel_rfl) (by kernel_rfl) (fun _ _ _ h => h) (Or.inl ⟨by rfl, fun w _ => by go_simp⟩) trivial ?_
      simp only [Act.put, List.setIfInBounds_toArray, List.set_cons_zero, List.set_cons_succ]
      refine wpAnyH_take (i := 2) (v := .int .i64 t) rfl (by kernel_rfl) (by kernel_rfl) (by kernel_rfl) (fun _ _ _ h => h) (Or.inl ⟨by rfl, fun w _ => by go_simp⟩) trivial ?_
      simp only [Act.put, List.setIfInBounds_toArray, List.set_cons_zero, List.set_cons_succ]
      refine wpAnyH_ready (rs := [3, 5]) (by kernel_rfl) (by simp) ?_
      refine AllReadyH.cons rfl (fun K hK => ?_) ?_
      · go_simp
        refine hK.out _ _ trivial (fun _ => ?_)
        clear hK K
        refine wpAnyH_ready (rs := [4, 5]) (by kernel_rfl) (by simp) ?_
        refine AllReadyH.cons rfl (fun K hK => ?_) ?_
        · go_simp
          go_wp2_with (go_at_call 50; (with_reducible refine (CI.out _ _ hrd).mono ?_); rintro e x1 ⟨rfl, hb1⟩; have hX1 : Below wd.heap.size wd x1 := from_here W1 hb1)
          refine hK.out _ _ trivial (fun _ => ?_)
          clear hK K
          refine wpAnyH_ready (rs := [5]) (by kernel_rfl) (by simp) ?_
          refine AllReadyH.cons rfl (fun K hK => ?_) ?_
          · rw [if_pos (by rfl)]
            refine wp_load_mid _ _ rfl _ _ rfl (BV cur) _ (unhide HT _ hX1) hund rfl hsc ?_
            simp only [Act.put, List.setIfInBounds_toArray, List.set_cons_zero, List.set_cons_succ]
            refine hK.out _ _ trivial (fun _ => ?_)
            clear hK K
            refine wpAnyH_ready (rs := [6]) (by kernel_rfl) (by simp) ?_
            refine AllReadyH.cons rfl (fun K hK => ?_) ?_
            · go_simp
              go_wp2_with (go_at_call 30; (with_reducible refine (unhide CT x1).mono ?_); rintro e x2 ⟨rfl, hb2⟩; have hX2 : Below wd.heap.size wd x2 := from_here hX1 hb2)
              refine hK.out _ _ trivial (fun _ => ?_)
              clear hK K
              refine wpAnyH_ready (rs := [7]) (by kernel_rfl) (by simp) ?_
              refine AllReadyH.cons rfl (fun K hK => ?_) ?_
              · go_simp
                refine hK.out _ _ trivial (fun _ => ?_)
                clear hK K
                refine wpAnyH_ready (rs := [8]) (by kernel_rfl) (by simp) ?_
                refine AllReadyH.cons rfl (fun K hK => ?_) ?_
                · go_simp
                  go_wp2_with (go_at_call 34; (with_reducible refine (CO.out _ _ _ _ (reads_block x2 [VS I, VS cur] 9 2 rfl) (HK.out.below (HB.out.trans ((hX2.alloc hX2.size _).mono HB.out.size)) (Nat.le_refl _))).mono ?_); rintro e x3 ⟨rfl, hb3⟩; have hX3 : Below wd.heap.size wd x3 := from_here (hX2.alloc hX2.size _) hb3; have ht3 : x3.there w.heap.size 0 (BV D).length := (unhide HR x3 hX3).2.there_ 0 _ (by rw [BV_len, BV_len, (unhide HR x3 hX3).1, HL2.out]; decide))
                  refine hK.out _ _ trivial (fun _ => ?_)
                  clear hK K
                  refine wpAnyH_ready (rs := [9]) (by kernel_rfl) (by simp) ?_
                  refine AllReadyH.cons rfl (fun K hK => ?_) ?_
                  · rw [if_pos (by rfl)]
                    refine wp_store_mid _ _ _ rfl _ _ (BV D).toArray rfl rfl (by rw [List.size_toArray]; exact ht3) (by rw [List.size_toArray]; exact hsz) (all_oneCell_toArray hone) ?_
                    simp only [Act.put, List.setIfInBounds_toArray, List.set_cons_zero, List.set_cons_succ, List.toList_toArray]
                    refine hK.out _ _ trivial (fun _ => ?_)
                    clear hK K
                    refine wpAnyH_done (by kernel_rfl) ?_ _
                    have F5 := hide (show Dig (x3.setCells w.heap.size 0 (BV D)) w.heap.size D from (unhide HR _ hX3).stored HL2.out)
                    have F8 := hide (show Dig (x3.setCells w.heap.size 0 (BV D)) (w.heap.size + 1) Z16 from ⟨rfl, (HD8.out.below hX3 h8).2.farCells _ _ (by omega)⟩)
                    have HB2 := hide (show Below w.heap.size w (x3.setCells w.heap.size 0 (BV D)) from below_setCells (Nat.le_refl _) _ _ _ (HB.out.trans (hX3.mono HB.out.size)))
                    clear hone hsz hsc hund
                    go_wp2
                    exact ⟨⟨k + 1, HLT.out, by rw [HT1.out], by rw [HDD.out]; exact F5.out, F8.out, HB2.out⟩, HM.out⟩
                  exact AllReadyH.nil
                exact AllReadyH.nil
              exact AllReadyH.nil
            exact AllReadyH.nil
          exact AllReadyH.nil
        refine AllReadyH.cons rfl (fun K hK => ?_) ?_
        · rw [if_pos (by rfl)]
          refine wp_load_mid _ _ rfl _ _ rfl (BV cur) _ (unhide HT _ W1) hund rfl hsc ?_
          simp only [Act.put, List.setIfInBounds_toArray, List.set_cons_zero, List.set_cons_succ]
          refine hK.out _ _ trivial (fun _ => ?_)
          clear hK K
          refine wpAnyH_ready (rs := [4]) (by kernel_rfl) (by simp) ?_
          refine AllReadyH.cons rfl (fun K hK => ?_) ?_
          · go_simp
            go_wp2_with (go_at_call 50; (with_reducible refine (CI.out _ _ hrd).mono ?_); rintro e x1 ⟨rfl, hb1⟩; have hX1 : Below wd.heap.size wd x1 := from_here W1 hb1)
            refine hK.out _ _ trivial (fun _ => ?_)
            clear hK K
            refine wpAnyH_ready (rs := [6]) (by kernel_rfl) (by simp) ?_
            refine AllReadyH.cons rfl (fun K hK => ?_) ?_
            · go_simp
              go_wp2_with (go_at_call 30; (with_reducible refine (unhide CT x1).mono ?_); rintro e x2 ⟨rfl, hb2⟩; have hX2 : Below wd.heap.size wd x2 := from_here hX1 hb2)
              refine hK.out _ _ trivial (fun _ => ?_)
              clear hK K
              refine wpAnyH_ready (rs := [7]) (by kernel_rfl) (by simp) ?_
              refine AllReadyH.cons rfl (fun K hK => ?_) ?_
              · go_simp
                refine hK.out _ _ trivial (fun _ => ?_)
                clear hK K
                refine wpAnyH_ready (rs := [8]) (by kernel_rfl) (by simp) ?_
                refine AllReadyH.cons rfl (fun K hK => ?_) ?_
                · go_simp
                  go_wp2_with (go_at_call 34; (with_reducible refine (CO.out _ _ _ _ (reads_block x2 [VS I, VS cur] 9 2 rfl) (HK.out.below (HB.out.trans ((hX2.alloc hX2.size _).mono HB.out.size)) (Nat.le_refl _))).mono ?_); rintro e x3 ⟨rfl, hb3⟩; have hX3 : Below wd.heap.size wd x3 := from_here (hX2.alloc hX2.size _) hb3; have ht3 : x3.there w.heap.size 0 (BV D).length := (unhide HR x3 hX3).2.there_ 0 _ (by rw [BV_len, BV_len, (unhide HR x3 hX3).1, HL2.out]; decide))
                  refine hK.out _ _ trivial (fun _ => ?_)
                  clear hK K
                  refine wpAnyH_ready (rs := [9]) (by kernel_rfl) (by simp) ?_
                  refine AllReadyH.cons rfl (fun K hK => ?_) ?_
                  · rw [if_pos (by rfl)]
                    refine wp_store_mid _ _ _ rfl _ _ (BV D).toArray rfl rfl (by rw [List.size_toArray]; exact ht3) (by rw [List.size_toArray]; exact hsz) (all_oneCell_toArray hone) ?_
                    simp only [Act.put, List.setIfInBounds_toArray, List.set_cons_zero, List.set_cons_succ, List.toList_toArray]
                    refine hK.out _ _ trivial (fun _ => ?_)
                    clear hK K
                    refine wpAnyH_done (by kernel_rfl) ?_ _
                    have F5 := hide (show Dig (x3.setCells w.heap.size 0 (BV D)) w.heap.size D from (unhide HR _ hX3).stored HL2.out)
                    have F8 := hide (show Dig (x3.setCells w.heap.size 0 (BV D)) (w.heap.size + 1) Z16 from ⟨rfl, (HD8.out.below hX3 h8).2.farCells _ _ (by omega)⟩)
                    have HB2 := hide (show Below w.heap.size w (x3.setCells w.heap.size 0 (BV D)) from below_setCells (Nat.le_refl _) _ _ _ (HB.out.trans (hX3.mono HB.out.size)))
                    clear hone hsz hsc hund
                    go_wp2
                    exact ⟨⟨k + 1, HLT.out, by rw [HT1.out], by rw [HDD.out]; exact F5.out, F8.out, HB2.out⟩, HM.out⟩
                  exact AllReadyH.nil
                exact AllReadyH.nil
              exact AllReadyH.nil
            exact AllReadyH.nil
          exact AllReadyH.nil
        exact AllReadyH.nil
      refine AllReadyH.cons rfl (fun K hK => ?_) ?_
      · rw [if_pos (by rfl)]
        refine wp_load_mid _ _ rfl _ _ rfl (BV cur) _ (unhide HT _ W0.drew) hund rfl hsc ?_
        simp only [Act.put, List.setIfInBounds_toArray, List.set_cons_zero, List.set_cons_succ]
        refine hK.out _ _ trivial (fun _ => ?_)
        clear hK K
        refine wpAnyH_ready (rs := [3]) (by kernel_rfl) (by simp) ?_
        refine AllReadyH.cons rfl (fun K hK => ?_) ?_
        · go_simp
          refine hK.out _ _ trivial (fun _ => ?_)
          clear hK K
          refine wpAnyH_ready (rs := [4]) (by kernel_rfl) (by simp) ?_
          refine AllReadyH.cons rfl (fun K hK => ?_) ?_
          · go_simp
            go_wp2_with (go_at_call 50; (with_reducible refine (CI.out _ _ hrd).mono ?_); rintro e x1 ⟨rfl, hb1⟩; have hX1 : Below wd.heap.size wd x1 := from_here W1 hb1)
            refine hK.out _ _ trivial (fun _ => ?_)
            clear hK K
            refine wpAnyH_ready (rs := [6]) (by kernel_rfl) (by simp) ?_
            refine AllReadyH.cons rfl (fun K hK => ?_) ?_
            · go_simp
              go_wp2_with (go_at_call 30; (with_reducible refine (unhide CT x1).mono ?_); rintro e x2 ⟨rfl, hb2⟩; have hX2 : Below wd.heap.size wd x2 := from_here hX1 hb2)
              refine hK.out _ _ trivial (fun _ => ?_)
              clear hK K
              refine wpAnyH_ready (rs := [7]) (by kernel_rfl) (by simp) ?_
              refine AllReadyH.cons rfl (fun K hK => ?_) ?_
              · go_simp
                refine hK.out _ _ trivial (fun _ => ?_)
                clear hK K
                refine wpAnyH_ready (rs := [8]) (by kernel_rfl) (by simp) ?_
                refine AllReadyH.cons rfl (fun K hK => ?_) ?_
                · go_simp
                  go_wp2_with (go_at_call 34; (with_reducible refine (CO.out _ _ _ _ (reads_block x2 [VS I, VS cur] 9 2 rfl) (HK.out.below (HB.out.trans ((hX2.alloc hX2.size _).mono HB.out.size)) (Nat.le_refl _))).mono ?_); rintro e x3 ⟨rfl, hb3⟩; have hX3 : Below wd.heap.size wd x3 := from_here (hX2.alloc hX2.size _) hb3; have ht3 : x3.there w.heap.size 0 (BV D).length := (unhide HR x3 hX3).2.there_ 0 _ (by rw [BV_len, BV_len, (unhide HR x3 hX3).1, HL2.out]; decide))
                  refine hK.out _ _ trivial (fun _ => ?_)
                  clear hK K
                  refine wpAnyH_ready (rs := [9]) (by kernel_rfl) (by simp) ?_
                  refine AllReadyH.cons rfl (fun K hK => ?_) ?_
                  · rw [if_pos (by rfl)]
                    refine wp_store_mid _ _ _ rfl _ _ (BV D).toArray rfl rfl (by rw [List.size_toArray]; exact ht3) (by rw [List.size_toArray]; exact hsz) (all_oneCell_toArray hone) ?_
                    simp only [Act.put, List.setIfInBounds_toArray, List.set_cons_zero, List.set_cons_succ, List.toList_toArray]
                    refine hK.out _ _ trivial (fun _ => ?_)
                    clear hK K
                    refine wpAnyH_done (by kernel_rfl) ?_ _
                    have F5 := hide (show Dig (x3.setCells w.heap.size 0 (BV D)) w.heap.size D from (unhide HR _ hX3).stored HL2.out)
                    have F8 := hide (show Dig (x3.setCells w.heap.size 0 (BV D)) (w.heap.size + 1) Z16 from ⟨rfl, (HD8.out.below hX3 h8).2.farCells _ _ (by omega)⟩)
                    have HB2 := hide (show Below w.heap.size w (x3.setCells w.heap.size 0 (BV D)) from below_setCells (Nat.le_refl _) _ _ _ (HB.out.trans (hX3.mono HB.out.size)))
                    clear hone hsz hsc hund
                    go_wp2
                    exact ⟨⟨k + 1, HLT.out, by rw [HT1.out], by rw [HDD.out]; exact F5.out, F8.out, HB2.out⟩, HM.out⟩
                  exact AllReadyH.nil
                exact AllReadyH.nil
              exact AllReadyH.nil
            exact AllReadyH.nil
          exact AllReadyH.nil
        exact AllReadyH.nil
      exact AllReadyH.nil
    · obtain rfl : k = n := by omega
      have F5 := hide hD5
      have F8 := hide hD8
      have HB := hide hbel
      have hlen := Sg.adv_len i c v a HV0.out k
      clear hD5 hD8 hbel D5 D8 HV
      go_wp2_with (first | (with_reducible refine wpList_load_dig rfl (.tmp 9) rfl w.heap.size rfl _ F5.out ?_) | (with_reducible refine wpList_store_dig rfl (.tmp 10) (.tmp 27) rfl (w.heap.size + 1) Z16 _ rfl rfl F8.out hlen ?_; intro U hU))
      exact bodyPost_ret (v := .agg (BV _).toArray) (ret_dig Tryd.results31 _ rfl (F8.out.put hlen hU)) rfl ⟨rfl, below_row HB.out (by omega) hU⟩
end Go.Proofs.YtedgjpoejoepjaaDoor
