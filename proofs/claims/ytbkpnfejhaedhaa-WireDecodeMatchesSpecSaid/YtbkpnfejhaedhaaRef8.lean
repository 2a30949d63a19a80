/-
  The reference's GetDigests by its contract: it answers what the plain decoding answers.
-/
import Derived.Test.YtbkpnfejhaedhaaRef7
import Derived.Test.YtbkpnfejhaedhaaDec6
import Derived.Great.BuildSlice
namespace Go.Proofs.Ytbkpnfejhaedhaa
open Go.RowKit
set_option linter.unusedVariables false
set_option linter.unusedSimpArgs false

theorem foldl_put (l : List Value) : ∀ (k : Nat) (A : Array Value), k + l.length ≤ A.size → ∀ i : Nat,
    ((l.zipIdx k).foldl (fun cs (x : Value × Nat) => cs.setIfInBounds (0 + x.2) x.1) A)[i]? = if k ≤ i ∧ i < k + l.length then l[i - k]? else A[i]? := by
  induction l with
  | nil => intro k A _ i; rw [if_neg (by simp)]; rfl
  | cons v r ih =>
    intro k A h i
    rw [List.length_cons] at h
    rw [List.zipIdx_cons, List.foldl_cons, ih (k + 1) _ (by simp; omega) i, List.length_cons]
    by_cases h1 : k + 1 ≤ i ∧ i < k + 1 + r.length
    · rw [if_pos h1, if_pos (by omega), show i - k = (i - (k + 1)) + 1 by omega, List.getElem?_cons_succ]
    · rw [if_neg h1]
      simp only [Nat.zero_add]
      rw [Array.getElem?_setIfInBounds]
      by_cases h2 : k = i
      · subst h2
        rw [if_pos rfl, if_pos (by omega), if_pos (by omega), Nat.sub_self]
        rfl
      · rw [if_neg h2, if_neg (by omega)]
theorem fill_one (cs : List Value) (Z : Array Value) (n : Nat) (h : cs.length = n) (hZ : Z.size = n) : Instr.fill (fun i => some (i * n, n)) Z [(0, .agg cs.toArray)] = some cs.toArray := by
  unfold Instr.fill
  simp only [Nat.zero_mul, Value.cells]
  rw [if_neg (by simp [h, hZ])]
  unfold Instr.fill
  congr 1
  apply Array.ext_getElem?
  intro i
  have := foldl_put cs 0 Z (by omega) i
  rw [← Array.foldl_toList, Array.toList_zipIdx]
  refine this.trans ?_
  by_cases hi : i < cs.length
  · rw [if_pos (by omega), Nat.sub_zero, List.getElem?_toArray]
  · rw [if_neg (by omega), Array.getElem?_eq_none (by omega), Array.getElem?_eq_none (by simp; omega)]

/-- a slice literal of one element that is an array of n cells -/
theorem wpList_buildOne {P : Program} {ops : Array Oper} {rest : List Oper} {o : Oper} {a : Act} {w : World} {Q : Exit → Act → World → Prop} (hg : o.guard = none) (t e : TypeId) (x : Operand) (ho : o.op = .buildSlice t 1 #[(0, x)])
    (cs : List Value) (n : Nat) (hx : a.eval x = .agg cs.toArray) (hl : cs.length = n) (hn : 0 < n) (hn2 : n ≤ 1000) (ie : TypeInfo) (z : Value)
    (hu : P.underlying t = some (.slice e)) (hie : P.info? e = some ie) (hz : ie.zero = some z) (hsz : ie.size = n)
    (h : wpList P ops Q rest (a.put o.dst (.slice (some ⟨w.heap.size, 0, none⟩) 1 1)) (w.alloc (.cells cs.toArray e))) : wpList P ops Q (o :: rest) a w := by
  refine wpList_buildSlice hg t e 1 #[(0, x)] ho cs.toArray ie z hu hie hz (by rw [hsz]; omega) (by rw [hsz]; omega) ?_ h
  rw [hsz]
  have : ((#[(0, x)] : Array (Nat × Operand)).map fun (i, x) => (i, a.eval x)).toList = [(0, .agg cs.toArray)] := by simp [hx]
  rw [this]
  exact fill_one cs _ n hl (by simp)
theorem name_world {P : Program} {c : Code} {Q : Exit → Act → World → Prop} {a : Act} {w : World} (h : ∀ W, Hid (w = W) → c.wp P Q a W) : c.wp P Q a w := h w rfl
theorem reads_newN (w : World) (cs : List Value) (t : TypeId) (n : Nat) (h : cs.length = n) : Reads (w.alloc (.cells cs.toArray t)) (w.alloc (.cells cs.toArray t)).heap.size n (some ⟨w.heap.size, 0, none⟩) 1 cs := by
  refine ⟨by omega, fun _ => ⟨_, rfl, by simp, fun j u hj => ?_⟩⟩
  rw [show ((⟨w.heap.size, 0, none⟩ : Addr).add j) = ⟨w.heap.size, j, none⟩ by simp [Addr.add]; intro h; omega]
  rw [(Blk.new w t cs.toArray).cell]
  simpa using hj

set_option maxHeartbeats 400000 in
set_option maxRecDepth 100000 in
theorem refGetDigests_err (A : Option Addr) (n c : Nat) (l : List UInt8) (w : World) (hr : Reads w w.heap.size 1 A n (BV l)) (hm : n ≤ 17592186044416) (hnc : n ≤ c) (he : (Wr.decLen 16 l).2.2 ≠ 0) :
    Calls Try.prog 35 #[.slice A n c] w fun e w' => e = .returned (.tuple #[.slice none 0 0, .int .i64 0, .int .i64 (Wr.decLen 16 l).2.2]) ∧ Below w.heap.size w w' := by
  have H := hide (refCount_any A n c l 16 w hr hm hnc (by omega) (by omega))
  generalize Wr.decLen 16 l = d at *
  obtain ⟨z, u, er⟩ := d
  simp only at he H ⊢
  have hb' : (er != 0) = true := by rw [bne_iff_ne]; exact he
  clear hr he
  go_enter Try.func35, Try.ntmps35
  go_wp2_with (go_at_call 45; refine (unhide H).mono ?_; rintro e w1 ⟨rfl, hb1⟩; have HB := hide hb1; clear hb1)
  go_ret3
  exact ⟨rfl, HB.out⟩

/-- what stands while the reference decodes a list of digests -/
structure RefMidDig (w : World) (n z : Nat) (l : List UInt8) (R : List (List UInt8) × Nat × Int) (k us : Nat) (vs : List (List UInt8)) (v : Value) (wr : World) : Prop where
  len : vs.length = k
  each : ∀ x ∈ vs, x.length = 16
  le1 : 1 ≤ us
  le : us + (z - k) * 16 ≤ n
  rest : Wr.comb vs us (Wr.decLoop Wr.decD (z - k) (l.drop us)) = R
  own : wr.ownsRow w.heap.size 57 16 v k (BV vs.flatten)
  old : Below w.heap.size w wr

theorem dig_part (D : List UInt8) (j : Nat) (h : D.length = 16) (hj : j < 16) (x : UInt8) (hx : D[j]? = some x) :
    (BV (D.take j) ++ List.replicate (16 - j) (Value.int .u8 0)).set j (Value.int .u8 (x.toNat : Int)) = BV (D.take (j + 1)) ++ List.replicate (16 - (j + 1)) (Value.int .u8 0) := by
  have hl : (BV (D.take j)).length = j := by rw [BV_len, List.length_take]; omega
  rw [List.set_append_right _ _ (by omega), hl, Nat.sub_self, show 16 - j = (16 - (j + 1)) + 1 by omega, List.replicate_succ, List.set_cons_zero]
  have hx' : D[j]'(by omega) = x := by rw [List.getElem?_eq_getElem (by omega)] at hx; injection hx
  rw [List.take_succ_eq_append_getElem (by omega : j < D.length), BV_append, List.append_assoc, hx']
  rfl

set_option maxHeartbeats 1000000 in
set_option maxRecDepth 100000 in
theorem refGetDigests_ok (ad : Addr) (n c : Nat) (l : List UInt8) (w : World) (hr : Reads w w.heap.size 1 (some ad) n (BV l)) (hm : n ≤ 1048576) (hnc : n ≤ c) (z u : Nat) (hd : Wr.decLen 16 l = ((z : Int), u, 0)) (hu : 1 ≤ u) (hz : u + z * 16 ≤ n)
    (R : List (List UInt8) × Nat × Int) (hR : Wr.comb [] u (Wr.decLoop Wr.decD z (l.drop u)) = R) :
    Calls Try.prog 35 #[.slice (some ad) n c] w fun e w' =>
      ∃ v, e = .returned (.tuple #[v, .int .i64 R.2.1, .int .i64 R.2.2]) ∧ (∀ x ∈ R.1, x.length = 16) ∧ w'.ownsRow w.heap.size 57 16 v R.1.length (BV R.1.flatten) ∧ Below w.heap.size w w' := by
  have hn : n = l.length := by have := hr.1; simp [BV] at this; omega
  have H := refCount_any (some ad) n c l 16 w hr (by omega) hnc (by omega) (by omega)
  rw [hd] at H
  have H := hide H
  have HN := hide hn
  have HR := hide hr
  have HE := hide hR
  clear hr hn hd hR
  obtain ⟨i0, hi, hz0, hz1, hz2⟩ := info_parts DigInfo
  have HI := hide hi
  have HZ0 := hide hz0
  have HZ1 := hide hz1
  have HZ2 := hide hz2
  clear hi hz0 hz1 hz2
  go_enter Try.func35, Try.ntmps35
  go_wp2_with (go_at_call 45; refine (unhide H).mono ?_; rintro e w1 ⟨rfl, hb1⟩; have HB1 := hide hb1; clear hb1)
  go_loopw [6, 8, 9] (fun a v i wr => ∃ (k us : Nat) (vs : List (List UInt8)), k ≤ z ∧ i = .int .i64 (k : Int) ∧ a = .int .i64 (us : Int) ∧ RefMidDig w n z l R k us vs v wr) (fun _ _ i _ => z - (intOf i).toNat)
  case atStart => exact ⟨0, u, [], Nat.zero_le _, rfl, rfl, ⟨rfl, by simp, hu, hz, HE.out, World.ownsRow_nil _ _ _ _, HB1.out⟩⟩
  case round =>
    obtain ⟨k, us, vs, hk, rfl, rfl, hmid⟩ := hrel
    obtain ⟨wd, rfl⟩ : ∃ wd, wd = wr := ⟨wr, rfl⟩
    by_cases hlt : k < z
    · have hzk : (z - k) * 16 = 16 + (z - (k + 1)) * 16 := by rw [show z - k = (z - (k + 1)) + 1 by omega, Nat.succ_mul, Nat.add_comm]
      have hus : us + 16 ≤ n := by have := hmid.le; omega
      have hus1 := hmid.le1
      have hD : ((l.drop us).take 16).length = 16 := by have := HN.out; simp; omega
      have hcells : ∀ j x, ((l.drop us).take 16)[j]? = some x → w.cell? (ad.add (us + j)) = some (.int .u8 ((x.toNat : Nat) : Int)) := fun j x hx => by
        have hj : j < ((l.drop us).take 16).length := by
          rcases Nat.lt_or_ge j ((l.drop us).take 16).length with h | h
          · exact h
          · rw [List.getElem?_eq_none h] at hx; cases hx
        have hlj : us + j < l.length := by have := HN.out; omega
        have := reads_cell HR.out (us + j) hlj
        rw [this]
        rw [List.getElem?_take_of_lt (by omega), List.getElem?_drop, List.getElem?_eq_getElem hlj] at hx
        injection hx with hx
        rw [hx]
      have hok := Wr.comb_ok Wr.decD vs us (z - k - 1) (l.drop us) rfl
      have hrest := hmid.rest
      rw [show z - k = z - k - 1 + 1 by omega] at hrest
      rw [hrest] at hok
      rw [show (Wr.decD (l.drop us)).2.1 = 16 from rfl, show (Wr.decD (l.drop us)).1 = (l.drop us).take 16 from rfl, List.drop_drop] at hok
      generalize hDD : (l.drop us).take 16 = D at *
      have HD := hide hD
      have HOK := hide hok
      have HM := hide hmid
      have HCE := hide hcells
      have HDD := hide hDD
      clear hok hrest hmid hD hcells hDD
      go_upto_region 9 with fail
      refine name_world fun W hW => ?_
      have HG := hide (show Blk W wd.heap.size 57 (BV (D.take 0) ++ List.replicate 16 (Value.int .u8 0)).toArray by
        rw [← hW.out, List.take_zero]
        exact Blk.new wd _ _)
      have HW := hide (show Below wd.heap.size wd W by rw [← hW.out]; exact (Below.refl _ _).alloc (Nat.le_refl _) _)
      have hWs : W.heap.size = wd.heap.size + 1 := by rw [← hW.out]; simp
      have HWS := hide hWs
      clear hW hWs
      go_wp2_with fail
      go_loopw [11] (fun i wr => ∃ j : Nat, j ≤ 16 ∧ i = .int .i64 (j : Int) ∧ Blk wr wd.heap.size 57 (BV (D.take j) ++ List.replicate (16 - j) (Value.int .u8 0)).toArray ∧ Below wd.heap.size wd wr) (fun i _ => 16 - (intOf i).toNat)
      case atStart => exact ⟨0, Nat.zero_le _, rfl, HG.out, HW.out⟩
      case round =>
        obtain ⟨j, hj, rfl, hB, hbel⟩ := hrel
        by_cases hlj : j < 16
        · obtain ⟨x, hx⟩ : ∃ x, D[j]? = some x := ⟨_, List.getElem?_eq_getElem (by have := HD.out; omega)⟩
          have hxe := HCE.out j x hx
          have hcell : wr.cell? (ad.add (us + j)) = some (.int .u8 ((x.toNat : Nat) : Int)) := by
            have hb2 := below_then HM.out.old hbel
            rw [hb2.cell (block_lt_of_cell hxe)]
            exact hxe
          have hct : wr.cell? ⟨wd.heap.size, j, none⟩ = some (.int .u8 0) := by
            rw [hB.cell]
            have hl : (BV (D.take j)).length = j := by rw [BV_len, List.length_take]; have := HD.out; omega
            rw [List.getElem?_toArray, List.getElem?_append_right (by omega), hl, Nat.sub_self, List.getElem?_replicate, if_pos (by omega)]
          have hfz := hB.frozen j
          have hst := dig_part D j HD.out hlj x hx
          have hby := x.toNat_lt
          have HS := hide hst
          have HX := hide hx
          have HBB := hide hB
          have hij : (0 : Int) ≤ (us : Int) + (j : Int) := by omega
          have hij2 : (us : Int) + (j : Int) < (n : Int) := by omega
          clear hxe hst hx hB
          generalize x.toNat = xb at *
          go_wp2
          refine ⟨⟨j + 1, by omega, by go_num, ?_, ?_⟩, by simp [intOf]; omega⟩
          · have := HBB.out.set_ j (Value.int .u8 (xb : Int))
            rw [List.setIfInBounds_toArray, HS.out] at this
            exact this
          · exact hbel.setCell (by show wd.heap.size ≤ wd.heap.size; omega) _
        · obtain rfl : j = 16 := by omega
          rw [List.take_of_length_le (by have := HD.out; omega), Nat.sub_self, List.replicate_zero, List.append_nil] at hB
          have hcl : (BV D).length = 16 := by rw [BV_len, HD.out]
          have hone := BV_one D
          have hsz := (below_then HM.out.old hbel).size
          have HB2 := hide (below_then HM.out.old hbel)
          have HO := hide (own_below HM.out.own hbel)
          have HBA := hide (BV_append vs.flatten D)
          generalize BV D = cs at *
          have HCL := hide hcl
          have H1 := hide hone
          have H2 := hide (show wr.heap[wd.heap.size]? = some (.cells cs.toArray 57 (0, 0)) from hB)
          clear hB hcl hone hbel
          go_wp2_with (first
            | (with_reducible refine wpList_load_row rfl 57 (.tmp 10) rfl wd.heap.size rfl 57 cs.toArray (0, 0) _ H2.out Try.underlying57 rfl ?c1 ?_)
            | (with_reducible refine wpList_buildOne rfl 24 57 (.tmp 39) rfl cs 16 rfl HCL.out (by omega) (by omega) i0 _ Try.underlying24 HI.out HZ0.out HZ1.out ?_)
            | (at_builtin; refine wpList_append_any _ rfl (.tmp 38) (.tmp 40) 24 rfl w.heap.size 57 i0 _ 16 16 Try.underlying24 HI.out HZ0.out HZ1.out HZ2.out rfl (by omega) _ k _ rfl (HO.out.alloc _) _ (some ⟨wr.heap.size, 0, none⟩) 1 1 cs rfl (reads_newN wr cs 57 16 HCL.out) H1.out (by unfold maxLen; omega) (by omega) (by simp; omega) ?_; intro v6 w6 hown6 hgrow6 hat6; have HO6 := hide hown6; have HB6 := hide ((HB2.out.trans (below_alloc' wr _ hsz)).trans (below_grown hgrow6 (HO.out.alloc _) (by simp; omega))); clear hown6 hgrow6 hat6))
          case c1 => rw [List.size_toArray, HCL.out]; exact digestSize
          have hm := HM.out
          have hle := hm.le
          refine ⟨⟨k + 1, us + 16, vs ++ [D], by omega, by go_num, by go_num, ⟨by simp [hm.len], ?_, by omega, by omega, ?_, ?_, HB6.out⟩⟩, ?_⟩
          · intro x hx
            rcases List.mem_append.1 hx with hx | hx
            · exact hm.each x hx
            · simp at hx; rw [hx]; exact HD.out
          · rw [show z - (k + 1) = z - k - 1 by omega]; exact HOK.out.symm
          · rw [List.flatten_append, List.flatten_singleton, HBA.out]; exact HO6.out
          · simp [intOf]; omega
    · obtain rfl : k = z := by omega
      have hR : R = (vs, us, 0) := by
        have := hmid.rest
        rw [Nat.sub_self, Wr.comb_end] at this
        exact this.symm
      have HR2 := hide hR
      have HM := hide hmid
      clear hR hmid
      go_wp2
      go_ret3
      rw [HR2.out]
      have hm := HM.out
      refine ⟨_, rfl, hm.each, ?_, hm.old⟩
      show World.ownsRow _ _ _ _ _ vs.length _
      rw [hm.len]
      exact hm.own

/-- the reference's GetDigests, for every slice of bytes -/
theorem refGetDigests_any (A : Option Addr) (n c : Nat) (l : List UInt8) (w : World) (hr : Reads w w.heap.size 1 A n (BV l)) (hm : n ≤ 1048576) (hnc : n ≤ c) :
    Calls Try.prog 35 #[.slice A n c] w fun e w' =>
      ∃ v, e = .returned (.tuple #[v, .int .i64 (digestsOf l).2.1, .int .i64 (digestsOf l).2.2]) ∧ (∀ x ∈ (digestsOf l).1, x.length = 16) ∧ w'.ownsRow w.heap.size 57 16 v (digestsOf l).1.length (BV (digestsOf l).1.flatten) ∧ Below w.heap.size w w' := by
  have hn : n = l.length := by have := hr.1; simp [BV] at this; omega
  unfold digestsOf Wr.decList
  by_cases he : (Wr.decLen 16 l).2.2 = 0
  · obtain ⟨_, _, h1, h2, h3⟩ := Wr.decLen_ok (by omega) he
    rw [if_neg (by simpa using he)]
    obtain ⟨ad, rfl, _, _⟩ := hr.2 (by omega)
    exact refGetDigests_ok ad n c l w hr hm hnc (Wr.decLen 16 l).1.toNat (Wr.decLen 16 l).2.1 (by rw [Int.toNat_of_nonneg h1, ← he]) h2 (by omega) _ rfl
  · rw [if_pos (by simpa using he)]
    exact (refGetDigests_err A n c l w hr (by omega) hnc he).mono fun e w' h => ⟨_, h.1, by simp, World.ownsRow_nil _ _ _ _, h.2⟩
end Go.Proofs.Ytbkpnfejhaedhaa
