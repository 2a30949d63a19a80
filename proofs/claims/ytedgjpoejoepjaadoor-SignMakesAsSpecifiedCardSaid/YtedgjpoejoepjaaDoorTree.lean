/-
  tree, Public, valid, within, by contract.
-/
import Derived.Test.YtedgjpoejoepjaaDoorNode
import Derived.Laws.EntriesVeiled
import Derived.OwnWalk
namespace Go.Proofs.YtedgjpoejoepjaaDoor
open Go.RowKit
set_option linter.unusedVariables false
set_option linter.unusedSimpArgs false

theorem madeZero (n : Nat) : (madeCells #[.int .u8 0, .int .u8 0, .int .u8 0, .int .u8 0, .int .u8 0, .int .u8 0, .int .u8 0, .int .u8 0, .int .u8 0, .int .u8 0, .int .u8 0, .int .u8 0, .int .u8 0, .int .u8 0, .int .u8 0, .int .u8 0] (n * 16)).toList = List.replicate (n * 16) (.int .u8 0) := by
  apply List.ext_getElem?
  intro j
  by_cases hj : j < n * 16
  · have hm : j % 16 < 16 := Nat.mod_lt _ (by omega)
    have h16 : ∀ m, m < 16 → (#[.int .u8 0, .int .u8 0, .int .u8 0, .int .u8 0, .int .u8 0, .int .u8 0, .int .u8 0, .int .u8 0, .int .u8 0, .int .u8 0, .int .u8 0, .int .u8 0, .int .u8 0, .int .u8 0, .int .u8 0, .int .u8 0] : Array Value)[m]! = .int .u8 0 := by
      intro m hm
      match m, hm with
      | 0, _ => rfl
      | 1, _ => rfl
      | 2, _ => rfl
      | 3, _ => rfl
      | 4, _ => rfl
      | 5, _ => rfl
      | 6, _ => rfl
      | 7, _ => rfl
      | 8, _ => rfl
      | 9, _ => rfl
      | 10, _ => rfl
      | 11, _ => rfl
      | 12, _ => rfl
      | 13, _ => rfl
      | 14, _ => rfl
      | 15, _ => rfl
      | _ + 16, h => exact absurd h (by omega)
    rw [madeCells, Array.toList_map, Array.toList_range, List.getElem?_map, List.getElem?_range hj, List.getElem?_replicate, if_pos hj]
    exact congrArg some (h16 (j % 16) hm)
  · rw [List.getElem?_eq_none (by simp [madeCells]; omega), List.getElem?_eq_none (by simp; omega)]
theorem DigInfo : (Tryd.prog.info? 23).map (fun i => (i.zero, i.size, i.bytes)) = some (some (.agg #[.int .u8 0, .int .u8 0, .int .u8 0, .int .u8 0, .int .u8 0, .int .u8 0, .int .u8 0, .int .u8 0, .int .u8 0, .int .u8 0, .int .u8 0, .int .u8 0, .int .u8 0, .int .u8 0, .int .u8 0, .int .u8 0]), 16, 16) := by kernel_rfl
theorem node_any (gs gn gi gb g0 h idx : Nat) (s : List UInt8) (z : World) (hs : s.length = 32) (hh : h ≤ 6) (hx : idx < 64) (hK : KLaid z) (hg0 : z.heap.size ≤ g0) : ∀ (l : Nat), l ≤ h → ∀ (i : Nat) (f : Nat → List UInt8) (w : World), (i + 1) * 2 ^ l ≤ 64 → (l = h → i ≠ Sg.sib (idx / 2 ^ l)) → Below z.heap.size z w → Env w gs gn gi gb g0 idx h s → Bes w g0 h f →
    Calls Tryd.prog 44 #[.int .i64 (l : Int), .int .i64 (i : Int), .pointer (some ⟨gs, 0, none⟩), .pointer (some ⟨gn, 0, none⟩), .pointer (some ⟨gi, 0, none⟩), .pointer (some ⟨gb, 0, none⟩)] w fun e w' =>
      e = .returned (.agg (BV (Sg.node s l i)).toArray) ∧ Fr g0 w w' ∧ Bes w' g0 h (Sg.mark s idx l i f)
  | 0, hl, i, f, w, hi, hsib, hz, he, hb => node_step gs gn gi gb g0 h idx 0 i s f z w hs hl hh hi hx hsib hK hz hg0 he hb (fun l' h => by omega)
  | l + 1, hl, i, f, w, hi, hsib, hz, he, hb => node_step gs gn gi gb g0 h idx (l + 1) i s f z w hs hl hh hi hx hsib hK hz hg0 he hb (fun l' hll j f W hj hz' he' hb' => by
      obtain rfl : l' = l := by omega
      exact node_any gs gn gi gb g0 h idx s z hs hh hx hK hg0 l' (by omega) j f W hj (fun h => by omega) hz' he' hb')
theorem Dig.range {w : World} {g : Nat} {d : List UInt8} (h : Dig w g d) : w.rangeAt g 0 (BV d) := by
  have hb' : Blk w g 23 ([] ++ (BV d ++ [])).toArray := by simpa using h.2
  exact Blk.range [] (BV d) [] hb' 0 rfl
theorem Blk.of_make {w : World} {base g n size : Nat} {e : TypeId} {xs : List Value} (h : w.ownsRow base e size (.slice (some ⟨g, 0, none⟩) n n) n xs) : Blk w g e xs.toArray := by
  rcases h.2 with ⟨h1, _⟩ | ⟨g', cap, cur, h1, _, hb, _, _, hs, ht⟩
  · injection h1 with h1; cases h1
  · injection h1 with h1 h2 h3
    injection h1 with h1
    injection h1 with h1
    subst h1; subst h3
    have : cur.toList = xs := by rw [← ht, List.take_of_length_le (by rw [Array.length_toList]; omega)]
    rw [← this]
    simpa [Blk] using hb
theorem zeros_cat : ∀ h : Nat, BV (Sg.cat h fun _ => Z16) = List.replicate (h * 16) (.int .u8 0)
  | 0 => rfl
  | h + 1 => by
    rw [Sg.cat_succ, BV_append, zeros_cat h, show BV Z16 = List.replicate 16 (.int .u8 0) from rfl, List.replicate_append_replicate, show h * 16 + 16 = (h + 1) * 16 by omega]
theorem root_sib (h : Nat) (i : Nat) (hi : i < 2 ^ h) : (0 : Nat) ≠ Sg.sib (i / 2 ^ h) := by
  rw [Nat.div_eq_of_lt hi]; decide

set_option maxHeartbeats 2000000 in
set_option maxRecDepth 100000 in
theorem tree_any (s : List UInt8) (h i : Nat) (w : World) (hs : s.length = 32) (hh : h ≤ 6) (hi : i < 2 ^ h) (hK : KLaid w) :
    Calls Tryd.prog 22 #[.string (S s), .int .i64 (h : Int), .int .i64 (i : Int)] w fun e w' => ∃ g0, e = .returned (.tuple #[.agg (BV (Sg.pub s h)).toArray, .slice (some ⟨g0, 0, none⟩) h h]) ∧ w.heap.size ≤ g0 ∧ Bes w' g0 h (fun j => Sg.node s j (Sg.sib (i / 2 ^ j))) ∧ Below w.heap.size w w' := by
  obtain ⟨i0, hi0, hz0, hz1, hz2⟩ := info_parts DigInfo
  have HI := hide hi0
  have HZ0 := hide hz0
  have HZ1 := hide hz1
  have HZ2 := hide hz2
  have hi64 : i < 64 := Nat.lt_of_lt_of_le hi (Nat.pow_le_pow_right (by omega) hh)
  have HK := hide hK
  have hpl : (Sg.pub s h).length = 16 := Sg.node_len s h 0
  have hmf : ∀ (fn : Fn) (first cap : Array Value) (w : World), (Instr.makeFunc fn first cap).run Tryd.prog w = .ok (.func fn first cap) w := fun _ _ _ _ => rfl
  have hzs := zero16
  have hn0 : (0 : Int) ≤ (h : Int) := by omega
  have h1024 : (h : Int) ≤ 6 := by omega
  have hmz := madeZero h
  clear hi0 hz0 hz1 hz2 hK
  go_enter Tryd.func22, Tryd.ntmps22
  go_upto_region 1 with fail
  refine name_world fun V hV => ?_
  have C3 := hide (show Blk V w.heap.size 9 #[.string (S s)] by rw [← hV.out]; exact ((Blk.new w _ _).alloc _).alloc _)
  have C5 := hide (show Blk V (w.heap.size + 1) 3 #[.int .i64 (i : Int)] by
    rw [← hV.out]
    have := (Blk.new (w.alloc (.cells #[.string (S s)] 9)) 3 #[.int .i64 (i : Int)]).alloc (.cells (BV Z16).toArray 23)
    rwa [show (w.alloc (.cells #[.string (S s)] 9)).heap.size = w.heap.size + 1 by simp] at this)
  have D6 := hide (show Dig V (w.heap.size + 1 + 1) Z16 by
    rw [← hV.out]
    have := Dig.new ((w.alloc (.cells #[.string (S s)] 9)).alloc (.cells #[.int .i64 (i : Int)] 3)) Z16 rfl
    rwa [show ((w.alloc (.cells #[.string (S s)] 9)).alloc (.cells #[.int .i64 (i : Int)] 3)).heap.size = w.heap.size + 1 + 1 by simp] at this)
  have HV := hide (show Below w.heap.size w V by rw [← hV.out]; exact (((Below.refl _ _).alloc (Nat.le_refl _) _).alloc (by simp) _).alloc (by simp; omega) _)
  have hv6 := D6.out.2.lt
  clear hV
  go_upto_region 4 with (at_make; refine wpList_make_full _ rfl _ _ 45 rfl V.heap.size 23 i0 (.agg #[.int .u8 0, .int .u8 0, .int .u8 0, .int .u8 0, .int .u8 0, .int .u8 0, .int .u8 0, .int .u8 0, .int .u8 0, .int .u8 0, .int .u8 0, .int .u8 0, .int .u8 0, .int .u8 0, .int .u8 0, .int .u8 0]) 16 Tryd.underlying45 HI.out HZ0.out HZ1.out _ _ _ _ h rfl rfl rfl rfl (by rw [HZ2.out]; omega) (by unfold maxLen; omega) (Nat.le_refl _) ?_; intro w1 hown1 hgrow1)
  refine name_world fun U hU => ?_
  have HB1 := hide (show Below V.heap.size V w1 from (Below.refl _ _).grown hgrow1 (Nat.le_refl _) (by simp))
  have hbm : Blk w1 V.heap.size 23 (BV (Sg.cat h fun _ => Z16)).toArray := by
    have h1 := Blk.of_make hown1
    rw [zeros_cat, ← hmz]
    exact h1
  have HBM := hide hbm
  have hw1 := HBM.out.lt
  have FU := hide (show Below w1.heap.size w1 U by rw [← hU.out]; exact ((Below.refl _ _).alloc (Nat.le_refl _) _).alloc (by simp) _)
  have C8 := hide (show Blk U w1.heap.size 45 #[.slice (some ⟨V.heap.size, 0, none⟩) h h] by rw [← hU.out]; exact (Blk.new w1 _ _).alloc _)
  have C9 := hide (show Blk U (w1.heap.size + 1) 70 #[nodeF w.heap.size (w1.heap.size + 1) (w.heap.size + 1) w1.heap.size] by
    rw [← hU.out]
    have := Blk.new (w1.alloc (.cells #[.slice (some ⟨V.heap.size, 0, none⟩) h h] 45)) 70 #[nodeF w.heap.size (w1.heap.size + 1) (w.heap.size + 1) w1.heap.size]
    rwa [show (w1.alloc (.cells #[.slice (some ⟨V.heap.size, 0, none⟩) h h] 45)).heap.size = w1.heap.size + 1 by simp] at this)
  have FVU := hide (HB1.out.trans (FU.out.mono HB1.out.size))
  have HU := hide (HV.out.trans (FVU.out.mono HV.out.size))
  have EU := hide (show Env U w.heap.size (w1.heap.size + 1) (w.heap.size + 1) w1.heap.size V.heap.size i h s from ⟨C3.out.below FVU.out (by omega), C9.out, C5.out.below FVU.out (by omega), C8.out, by omega, by omega, by omega, by omega⟩)
  have BU := hide (show Bes U V.heap.size h (fun _ => Z16) from ⟨fun _ => rfl, HBM.out.below FU.out hw1⟩)
  have D6U := hide (D6.out.below FVU.out (by omega))
  have hU9 := C9.out.lt
  clear hU hown1 hgrow1 hbm hmz C3 C5 C8 C9 D6 HBM HB1
  have CN := hide (show Calls Tryd.prog 44 #[.int .i64 (h : Int), .int .i64 0, .pointer (some ⟨w.heap.size, 0, none⟩), .pointer (some ⟨w1.heap.size + 1, 0, none⟩), .pointer (some ⟨w.heap.size + 1, 0, none⟩), .pointer (some ⟨w1.heap.size, 0, none⟩)] U _ from
    node_any w.heap.size (w1.heap.size + 1) (w.heap.size + 1) w1.heap.size V.heap.size h i s w hs hh hi64 HK.out HV.out.size h (Nat.le_refl _) 0 (fun _ => Z16) U (by rw [Nat.zero_add, Nat.one_mul]; exact show 2 ^ h ≤ 2 ^ 6 from Nat.pow_le_pow_right (by omega) hh) (fun _ => root_sib h i hi) HU.out EU.out BU.out)
  have hself : U.cell? ⟨w1.heap.size + 1, 0, none⟩ = some (.func (.func 44) #[] #[.pointer (some ⟨w.heap.size, 0, none⟩), .pointer (some ⟨w1.heap.size + 1, 0, none⟩), .pointer (some ⟨w.heap.size + 1, 0, none⟩), .pointer (some ⟨w1.heap.size, 0, none⟩)]) := EU.out.self.cell 0
  have hno : Sg.node s h 0 = Sg.pub s h := rfl
  rw [hno] at CN
  have HMK := hide (show Sg.cat h (Sg.mark s i h 0 fun _ => Z16) = Sg.cat h (fun j => Sg.node s j (Sg.sib (i / 2 ^ j))) from Sg.cat_congr _ _ h (fun j hj => Sg.mark_all s i h _ hi j hj))
  generalize hP : Sg.pub s h = P at *
  have HPP := hide hP
  clear hP hno BU
  go_upto_region 5 with (first
    | (go_at_call 44; (with_reducible refine (unhide CN).mono ?_); rintro e x1 ⟨rfl, hf1, hb1⟩; have HF1 := hide hf1; have HB2 := hide hb1; have hx1 := hf1.size; clear hf1 hb1)
    | (with_reducible refine wpList_store_dig rfl (.tmp 10) (.tmp 16) rfl x1.heap.size Z16 P rfl rfl (Dig.new x1 Z16 rfl) hpl ?_; intro Y hY))
  have HY := hide (show Below x1.heap.size x1 Y from below_row (below_alloc x1 _) (Nat.le_refl _) hY)
  have D10 := hide ((Dig.new x1 Z16 rfl).put hpl hY)
  have FY := hide (HF1.out.then_ HY.out)
  have D6Y := hide (FY.out.dig D6U.out (by omega))
  have EY := hide (EU.out.fr FY.out)
  have BY := hide (HB2.out.below HY.out (by omega))
  have hw8 : Y.cell? ⟨w1.heap.size, 0, none⟩ = some (.slice (some ⟨V.heap.size, 0, none⟩) h h) := EY.out.beside.cell 0
  have hw10 : w.heap.size + 1 + 1 < x1.heap.size := by omega
  clear hY hself CN D6U
  have hund := Tryd.underlying23
  have hone : ∀ v ∈ BV P, v.oneCell' = true := BV_one P
  have hsz : Option.map (fun x => x.size) (Tryd.prog.info? 23) = some (BV P).length := by rw [BV_len, hpl]; exact size16
  have hn16 : (BV P).length = 16 := by rw [BV_len, hpl]
  have ht2 : Y.drew.there (w.heap.size + 1 + 1) 0 (BV P).length := D6Y.out.2.drew.there_ 0 _ (by rw [BV_len, BV_len, hpl]; decide)
  have hk1 : Y.drew.rangeAt x1.heap.size 0 (BV P) ∧ Y.drew.cell? ⟨w1.heap.size, 0, none⟩ = some (.slice (some ⟨V.heap.size, 0, none⟩) h h) := ⟨D10.out.range, hw8⟩
  have hk2 : (Y.drew.setCells (w.heap.size + 1 + 1) 0 (BV P)).rangeAt x1.heap.size 0 (BV P) ∧ (Y.drew.setCells (w.heap.size + 1 + 1) 0 (BV P)).cell? ⟨w1.heap.size, 0, none⟩ = some (.slice (some ⟨V.heap.size, 0, none⟩) h h) :=
    ⟨Dig.range ⟨hpl, D10.out.2.drew.farCells _ _ (by omega)⟩, (Blk.farCells (BV P) 0 (EY.out.beside.drew) (show w1.heap.size ≠ w.heap.size + 1 + 1 by omega)).cell 0⟩
  go_upto_region 5 with fail
  go_region_held (fun w' => w'.rangeAt x1.heap.size 0 (BV P) ∧ w'.cell? ⟨w1.heap.size, 0, none⟩ = some (.slice (some ⟨V.heap.size, 0, none⟩) h h))
    (first | exact hk1 | exact hk2) (fail)
  all_goals
    have F6 := hide (show Dig (Y.drew.setCells (w.heap.size + 1 + 1) 0 (BV P)) (w.heap.size + 1 + 1) P from Dig.stored (w := Y.drew) (d := Z16) D6Y.out hpl)
    have HB := hide (show Below w.heap.size w (Y.drew.setCells (w.heap.size + 1 + 1) 0 (BV P)) from below_setCells (by omega) _ _ _ (FY.out.below HU.out HU.out.size HV.out.size).drew)
    have FB := hide (show Bes (Y.drew.setCells (w.heap.size + 1 + 1) 0 (BV P)) V.heap.size h (fun j => Sg.node s j (Sg.sib (i / 2 ^ j))) from
      ⟨fun j => Sg.node_len s j _, by rw [← HMK.out]; exact Blk.farCells (BV P) 0 BY.out.2.drew (by omega)⟩)
    clear hone hsz hn16 ht2 hk1 hk2 hund
    go_wp2
    exact bodyPost_ret (v := .tuple #[.agg (BV P).toArray, _]) (results_cell_tmp1 Tryd.results22 _ _ ⟨w.heap.size + 1 + 1, 0, none⟩ _ rfl F6.out.result) rfl ⟨V.heap.size, by rw [HPP.out]; rfl, HV.out.size, FB.out, HB.out⟩
end Go.Proofs.YtedgjpoejoepjaaDoor
