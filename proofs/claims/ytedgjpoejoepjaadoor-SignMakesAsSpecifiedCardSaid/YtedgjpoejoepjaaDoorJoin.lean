/-
  join, start, by contract.
  Digest, by contract.
-/
import Derived.Test.YtedgjpoejoepjaaDoorPart
import Derived.Test.YtedgjpoejoepjaaDoorInts
namespace Go.Proofs.YtedgjpoejoepjaaDoor
open Go.RowKit
set_option linter.unusedVariables false
set_option linter.unusedSimpArgs false

theorem encB16 (d : List UInt8) (h : d.length = 16) : (Wr.encB d).length ≤ 25 := by
  unfold Wr.encB
  rw [List.length_append, h]
  have := Wr.enc_le ((16 : Nat) : Int)
  omega
theorem ofD_any (z : Int) (A : Option Addr) (n c : Nat) (xs : List (List UInt8)) (w : World) (hr : Reads w w.heap.size 1 A n (xs.map VS)) (hm : n ≤ 1048576) (hbig : (Wr.encL Wr.encB xs).length ≤ 1099511627700) (hK : KLaid w) :
    Calls Tryd.prog 33 #[.int .i64 z, .slice A n c] w fun e w' => e = .returned (.agg (BV (Sg.ofB z xs)).toArray) ∧ Below w.heap.size w w' := of_any z A n c xs w hr hm hbig hK

set_option maxHeartbeats 1000000 in
set_option maxRecDepth 100000 in
theorem join_any (a b : List UInt8) (w : World) (ha : a.length = 16) (hb : b.length = 16) (hK : KLaid w) :
    Calls Tryd.prog 40 #[.agg (BV a).toArray, .agg (BV b).toArray] w fun e w' => e = .returned (.agg (BV (Sg.join a b)).toArray) ∧ Below w.heap.size w w' := by
  have hbig : (Wr.encL Wr.encB [a, b]).length ≤ 1099511627700 := by
    have h1 := encB16 a ha
    have h2 := encB16 b hb
    unfold Wr.encL
    simp only [List.flatMap_cons, List.flatMap_nil, List.append_nil, List.length_append]
    omega
  have CO := hide (fun A n c (W : World) hr hK => ofD_any 2 A n c [a, b] W hr (by have := hr.1; simp at this; omega) hbig hK)
  have hlen := Sg.join_len a b
  have hjo : Sg.ofB 2 [a, b] = Sg.join a b := rfl
  rw [hjo] at CO
  generalize Sg.join a b = D at *
  have HPL := hide hlen
  have HA := hide ha
  have HB := hide hb
  have HK := hide hK
  have hzs := zero16
  clear hbig hlen hjo ha hb hK
  go_enter Tryd.func40, Tryd.ntmps40
  go_upto_region 1 with fail
  refine name_world fun V hV => ?_
  have D2 := hide (show Dig V w.heap.size a by rw [← hV.out]; exact ((Dig.new w a HA.out).alloc _).alloc _)
  have D3 := hide (show Dig V (w.heap.size + 1) b by
    rw [← hV.out]
    have := (Dig.new (w.alloc (.cells (BV a).toArray 23)) b HB.out).alloc (.cells (BV Z16).toArray 23)
    rwa [show (w.alloc (.cells (BV a).toArray 23)).heap.size = w.heap.size + 1 by simp] at this)
  have D4 := hide (show Dig V (w.heap.size + 1 + 1) Z16 by
    rw [← hV.out]
    have := Dig.new ((w.alloc (.cells (BV a).toArray 23)).alloc (.cells (BV b).toArray 23)) Z16 rfl
    rwa [show ((w.alloc (.cells (BV a).toArray 23)).alloc (.cells (BV b).toArray 23)).heap.size = w.heap.size + 1 + 1 by simp] at this)
  have HV := hide (show Below w.heap.size w V by rw [← hV.out]; exact (((Below.refl _ _).alloc (Nat.le_refl _) _).alloc (by simp) _).alloc (by simp; omega) _)
  clear hV hzs
  have hc2 := (show Dig V.drew w.heap.size a from D2.out).text
  have hc3 := (show Dig V.drew (w.heap.size + 1) b from D3.out).text
  go_still_tail 4, (by kernel_rfl)
  change wpList _ _ _ _ _ V.drew
  have E4 := hide (show Dig V.drew (w.heap.size + 1 + 1) Z16 from D4.out)
  have HX := hide (HV.out.drew)
  clear D2 D3 D4 HV hc2 hc3
  generalize V.drew = X at *
  have hx4 := E4.out.2.lt
  go_wp2_with (first
    | (go_at_call 33; refine (CO.out _ _ _ _ (reads_block X [VS a, VS b] 9 2 rfl) (HK.out.below (HX.out.alloc HX.out.size _) (Nat.le_refl _))).mono ?_; rintro e x1 ⟨rfl, hb1⟩; have HX1 := hide ((HX.out.alloc HX.out.size _).trans (hb1.mono (Nat.le_trans HX.out.size (by simp)))); have F4 := hide ((E4.out.alloc _).below hb1 (by simp; omega)); clear hb1)
    | (with_reducible refine wpList_store_dig rfl (.tmp 4) (.tmp 10) rfl (w.heap.size + 1 + 1) Z16 D rfl rfl F4.out HPL.out ?_; intro U hU))
  exact bodyPost_ret (v := .agg (BV D).toArray) (ret_dig Tryd.results40 _ rfl (F4.out.put HPL.out hU)) rfl ⟨rfl, below_row HX1.out (by omega) hU⟩

theorem S_chain (x : List UInt8) : ({ data := #[99, 104, 97, 105, 110] } : ByteArray) ++ S x = S (Sg.chainT ++ x) := by
  have h : (({ data := #[99, 104, 97, 105, 110] } : ByteArray) ++ S x).data.toList = Sg.chainT ++ x := by
    rw [ByteArray.data_append, Array.toList_append]; rfl
  rw [← S_of (_ ++ _), h]
theorem ints_len (xs : List Int) : (Sg.intsB xs).length ≤ 9 + 9 * xs.length := by
  unfold Sg.intsB
  rw [List.length_append]
  have h1 := Wr.enc_le (xs.length : Int)
  have h2 : ∀ l : List Int, (Wr.encL Wr.enc l).length ≤ 9 * l.length := by
    intro l
    induction l with
    | nil => simp [Wr.encL]
    | cons a l ih => unfold Wr.encL at *; rw [List.flatMap_cons, List.length_append, List.length_cons]; have := Wr.enc_le a; omega
  have := h2 xs
  omega
theorem intsB_any (A : Option Addr) (n c : Nat) (xs : List Int) (w : World) (hr : Reads w w.heap.size 1 A n (xs.map (Value.int .i64))) (hnc : n ≤ c) (hm : n ≤ 1048576) (hx : ∀ x ∈ xs, Wr.inI x) :
    Calls Tryd.prog 48 #[.slice A n c] w fun e w' => ∃ v, e = .returned v ∧ w'.ownsRow w.heap.size 5 1 v (Sg.intsB xs).length (BV (Sg.intsB xs)) ∧ Below w.heap.size w w' := by
  have hn : n = xs.length := by have := hr.1; simp at this; omega
  have hl := ints_len xs
  unfold Sg.intsB at *
  rw [List.length_append] at hl ⊢
  exact ints_any A n c xs w hr hnc (by omega) (by omega) hx
theorem part0_any (m : List UInt8) (w : World) (h : 16 ≤ m.length) (hs : m.length ≤ 1099511627776) :
    Calls Tryd.prog 39 #[.string (S m), .int .i64 0] w fun e w' => e = .returned (.agg (BV (m.take 16)).toArray) ∧ Below w.heap.size w w' := part_any m 0 w h hs

set_option maxHeartbeats 1000000 in
set_option maxRecDepth 100000 in
theorem start_any (s : List UInt8) (i c : Int) (w : World) (hs : s.length = 32) (hi : Wr.inI i) (hc : Wr.inI c) (hK : KLaid w) :
    Calls Tryd.prog 28 #[.agg #[.int .i64 i, .int .i64 c], .string (S s)] w fun e w' => e = .returned (.agg (BV (Sg.start s i c)).toArray) ∧ Below w.heap.size w w' := by
  have hlen := Sg.start_len s i c
  have hml := Sg.mac_len s (Sg.chainT ++ Sg.intsB [i, c])
  have hil := ints_len [i, c]
  have CI := hide (fun A (W : World) hr => intsB_any A 2 2 [i, c] W hr (by omega) (by omega) (by intro x hx; simp at hx; rcases hx with rfl | rfl; exact hi; exact hc))
  have CM := hide (fun (W : World) hW => mac_any s (Sg.chainT ++ Sg.intsB [i, c]) W hW (by omega) (by rw [List.length_append]; simp [Sg.chainT] at *; omega))
  have CP := hide (fun (W : World) => part0_any (Sha.mac s (Sg.chainT ++ Sg.intsB [i, c])) W (by omega) (by omega))
  have hst : (Sha.mac s (Sg.chainT ++ Sg.intsB [i, c])).take 16 = Sg.start s i c := rfl
  rw [hst] at CP
  have hcat := S_chain (Sg.intsB [i, c])
  generalize Sg.start s i c = D at *
  generalize Sha.mac s (Sg.chainT ++ Sg.intsB [i, c]) = M at *
  generalize Sg.chainT ++ Sg.intsB [i, c] = T at *
  generalize Sg.intsB [i, c] = I at *
  have hcs : ¬ 9223372036854775807 < 5 + (S I).size := by rw [S_size]; simp at hil; omega
  have HPL := hide hlen
  have HK := hide hK
  have hzs := zero16
  clear hlen hml hil hst hs hi hc hK
  go_enter Tryd.func28, Tryd.ntmps28
  go_upto_region 1 with fail
  refine name_world fun V hV => ?_
  have hV2 := hide (show Blk V w.heap.size 54 #[.int .i64 i, .int .i64 c] by rw [← hV.out]; exact (Blk.new w _ _).alloc _)
  have D4 := hide (show Dig V (w.heap.size + 1) Z16 by
    rw [← hV.out]
    have := Dig.new (w.alloc (.cells #[.int .i64 i, .int .i64 c] 54)) Z16 rfl
    rwa [show (w.alloc (.cells #[.int .i64 i, .int .i64 c] 54)).heap.size = w.heap.size + 1 by simp] at this)
  have HV := hide (show Below w.heap.size w V by rw [← hV.out]; exact ((Below.refl _ _).alloc (Nat.le_refl _) _).alloc (by simp) _)
  have hf0 : V.cell? ⟨w.heap.size, 0, none⟩ = some (.int .i64 i) := hV2.out.cell 0
  have hf1 : V.cell? ⟨w.heap.size, 1, none⟩ = some (.int .i64 c) := hV2.out.cell 1
  have hx4 := D4.out.2.lt
  clear hV hzs hV2
  go_wp2_with (first
    | (go_at_call 48; refine (CI.out _ _ (reads_block V [.int .i64 i, .int .i64 c] 3 2 rfl)).mono ?_; rintro e x1 ⟨v1, rfl, hown1, hb1⟩; obtain ⟨A1, c1, rfl, _, _⟩ := own_slice hown1; have hcv := conv_own hown1 (Below.refl x1.heap.size x1); have HX1 := hide ((HV.out.alloc HV.out.size _).trans (hb1.mono (Nat.le_trans HV.out.size (by simp)))); have E4 := hide ((D4.out.alloc _).below hb1 (by simp; omega)); clear hb1 hown1)
    | (go_at_call 49; refine (unhide CM _ (HK.out.below HX1.out (Nat.le_refl _))).mono ?_; rintro e x2 ⟨rfl, hb2⟩; have HX2 := hide (HX1.out.trans (hb2.mono HX1.out.size)); have F4 := hide (E4.out.below hb2 E4.out.2.lt); clear hb2)
    | (go_at_call 39; refine (unhide CP _).mono ?_; rintro e x3 ⟨rfl, hb3⟩; have HX3 := hide (HX2.out.trans (hb3.mono HX2.out.size)); have G4 := hide (F4.out.below hb3 F4.out.2.lt); clear hb3)
    | (with_reducible refine wpList_store_dig rfl (.tmp 4) (.tmp 15) rfl (w.heap.size + 1) Z16 D rfl rfl G4.out HPL.out ?_; intro U hU))
  exact bodyPost_ret (v := .agg (BV D).toArray) (ret_dig Tryd.results28 _ rfl (G4.out.put HPL.out hU)) rfl ⟨rfl, below_row HX3.out (by omega) hU⟩
end Go.Proofs.YtedgjpoejoepjaaDoor
namespace Go.Proofs.YtedgjpoejoepjaaDoor
open Go.RowKit
set_option linter.unusedVariables false
set_option linter.unusedSimpArgs false

set_option maxHeartbeats 1000000 in
set_option maxRecDepth 100000 in
theorem digest_any (p m : List UInt8) (i : Int) (w : World) (hp : p.length = 16) (hi : Wr.inI i) (hm : m.length ≤ 1099511627000) (hK : KLaid w) :
    Calls Tryd.prog 16 #[.agg (BV p).toArray, .int .i64 i, .string (S m)] w fun e w' => e = .returned (.agg (BV (Sg.digestP p i m)).toArray) ∧ Below w.heap.size w w' := by
  have hel := Wr.enc_le i
  have hbig : (Wr.encL Wr.encB [p, Wr.enc i, m]).length ≤ 1099511627700 := by
    have h1 := encB16 p hp
    unfold Wr.encL
    simp only [List.flatMap_cons, List.flatMap_nil, List.append_nil, List.length_append]
    unfold Wr.encB at *
    simp only [List.length_append] at *
    have h2 := Wr.enc_le ((Wr.enc i).length : Int)
    have h3 := Wr.enc_le (m.length : Int)
    omega
  have CI := hide (fun (W : World) => int_any i W hi)
  have CO := hide (fun A n c (W : World) hr hK => ofD_any 4 A n c [p, Wr.enc i, m] W hr (by have := hr.1; simp at this; omega) hbig hK)
  have hlen : (Sg.digestP p i m).length = 16 := Sg.ofB_len _ _
  have hjo : Sg.ofB 4 [p, Wr.enc i, m] = Sg.digestP p i m := rfl
  rw [hjo] at CO
  generalize Sg.digestP p i m = D at *
  generalize Wr.enc i = I at *
  have HPL := hide hlen
  have HP := hide hp
  have HK := hide hK
  have hzs := zero16
  clear hbig hlen hjo hp hK hel hi
  go_enter Tryd.func16, Tryd.ntmps16
  go_upto_region 1 with fail
  refine name_world fun V hV => ?_
  have D3 := hide (show Dig V w.heap.size p by rw [← hV.out]; exact (Dig.new w p HP.out).alloc _)
  have D6 := hide (show Dig V (w.heap.size + 1) Z16 by
    rw [← hV.out]
    have := Dig.new (w.alloc (.cells (BV p).toArray 23)) Z16 rfl
    rwa [show (w.alloc (.cells (BV p).toArray 23)).heap.size = w.heap.size + 1 by simp] at this)
  have HV := hide (show Below w.heap.size w V by rw [← hV.out]; exact ((Below.refl _ _).alloc (Nat.le_refl _) _).alloc (by simp) _)
  clear hV hzs
  have h3 := D3.out.2.lt
  have h6 := D6.out.2.lt
  have HT := hide (fun (W' : World) (hb : Below V.heap.size V W') => D3.out.below hb h3)
  have HR := hide (fun (W' : World) (hb : Below V.heap.size V W') => D6.out.below hb h6)
  have B0 := Below.refl V.heap.size V
  have hone : ∀ v ∈ BV D, v.oneCell' = true := BV_one D
  have hsz : Option.map (fun x => x.size) (Tryd.prog.info? 23) = some (BV D).length := by rw [BV_len, HPL.out]; exact size16
  go_region_held (fun w' => (convert 51 9 (.slice (some ⟨w.heap.size, 0, none⟩) 16 16)).run Tryd.prog w' = .ok (.string (S p)) w')
    (first | exact (unhide HT _ B0.drew).text | exact (unhide HT _ hX1).text | exact (unhide HT _ (hX1.alloc hX1.size _)).text | exact (unhide HT _ hX2).text | exact Dig.text ⟨HP.out, (unhide HT _ hX2).2.farCells _ _ (by omega)⟩)
    (first
      | (go_at_call 26; refine (unhide CI V.drew).mono ?_; rintro e x1 ⟨v1, rfl, hown1, hb1⟩; obtain ⟨A1, c1, rfl, _, _⟩ := own_slice hown1; have hcv := conv_own hown1 (Below.refl x1.heap.size x1); have hX1 : Below V.heap.size V x1 := from_here B0.drew hb1; clear hown1)
      | (go_at_call 33; refine (CO.out _ _ _ _ (reads_block x1 [VS p, VS I, VS m] 9 3 rfl) (HK.out.below (HV.out.trans ((hX1.alloc hX1.size _).mono HV.out.size)) (Nat.le_refl _))).mono ?_; rintro e x2 ⟨rfl, hb2⟩; have hX2 : Below V.heap.size V x2 := from_here (hX1.alloc hX1.size _) hb2; have ht2 : x2.there (w.heap.size + 1) 0 (BV D).length := (unhide HR _ hX2).2.there_ 0 _ (by rw [BV_len, BV_len, HPL.out]; decide)))
  have F6 := hide (show Dig (x2.setCells (w.heap.size + 1) 0 (BV D)) (w.heap.size + 1) D from (unhide HR _ hX2).stored HPL.out)
  have HB := hide (show Below w.heap.size w (x2.setCells (w.heap.size + 1) 0 (BV D)) from below_setCells (by omega) _ _ _ (HV.out.trans (hX2.mono HV.out.size)))
  clear hone hsz
  go_wp2
  exact bodyPost_ret (v := .agg (BV D).toArray) (ret_dig Tryd.results16 _ rfl F6.out) rfl ⟨rfl, HB.out⟩
end Go.Proofs.YtedgjpoejoepjaaDoor
