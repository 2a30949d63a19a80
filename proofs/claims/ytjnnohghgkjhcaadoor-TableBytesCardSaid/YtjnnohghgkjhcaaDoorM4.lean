/-
  Tables: in memory as a whole; proper, by contract.
-/
import Derived.Test.YtjnnohghgkjhcaaDoorM3
import Derived.Lib.SliceRun
import Derived.Lib.AppendZerosOnto
import Derived.OrdersHeld
import Derived.StillTailTactics
namespace Go.Proofs.YtjnnohghgkjhcaaDoor
open Go.RowKit
set_option linter.unusedVariables false
set_option linter.unusedSimpArgs false
def TabAt (w : World) (B : Nat) (v : Value) (t : Tb.Tab) : Prop :=
 ∃ (A0 A1 : Option Addr) (c0 c1 : Nat), v = .agg #[.slice A0 t.r0.length c0, .slice A1 t.r1.length c1, .slice t.dig.ad t.dig.l.length t.dig.c, .slice t.cap.ad t.cap.l.length t.cap.c, .slice t.num.ad t.num.l.length t.num.c, .slice t.fin.ad t.fin.l.length t.fin.c, .slice t.sw.ad t.sw.l.length t.sw.c] ∧
  RulesAt w B A0 t.r0 ∧ RulesAt w B A1 t.r1 ∧ t.r0.length ≤ c0 ∧ t.r1.length ≤ c1 ∧ BsAt w B t.dig ∧ BsAt w B t.cap ∧ BsAt w B t.num ∧ BsAt w B t.fin ∧ BsAt w B t.sw
theorem TabAt.below {w w' : World} {B : Nat} {v : Value} {t : Tb.Tab} (h : TabAt w B v t) (hb : Below B w w') : TabAt w' B v t := by
 obtain ⟨A0, A1, c0, c1, h1, h2, h3, h4, h5, h6, h7, h8, h9, h10⟩ := h
 exact ⟨A0, A1, c0, c1, h1, h2.below hb, h3.below hb, h4, h5, h6.below hb, h7.below hb, h8.below hb, h9.below hb, h10.below hb⟩
theorem TabAt.more {w : World} {B B' : Nat} {v : Value} {t : Tb.Tab} (h : TabAt w B v t) (hB : B ≤ B') : TabAt w B' v t := by
 obtain ⟨A0, A1, c0, c1, h1, h2, h3, h4, h5, h6, h7, h8, h9, h10⟩ := h
 exact ⟨A0, A1, c0, c1, h1, h2.more hB, h3.more hB, h4, h5, h6.more hB, h7.more hB, h8.more hB, h9.more hB, h10.more hB⟩
theorem run_index_lang0 (a b : Value) (W : World) : (Instr.index 27 (.agg #[a, b]) (.int .i64 0)).run Tryd.prog W = .ok (.agg #[a]) W := by
 have hs : ∀ W, (sizeOf 26).run Tryd.prog W = .ok 1 W := fun W => Tryd.sizeOf26 W
 have hg : ∀ W, (isAgg 26).run Tryd.prog W = .ok true W := fun W => Tryd.isAgg26 W
 simp [Instr.index, run_underlying Tryd.underlying27, asIntOf, hs, hg, part]
theorem run_index_lang1 (a b : Value) (W : World) : (Instr.index 27 (.agg #[a, b]) (.int .i64 1)).run Tryd.prog W = .ok (.agg #[b]) W := by
 have hs : ∀ W, (sizeOf 26).run Tryd.prog W = .ok 1 W := fun W => Tryd.sizeOf26 W
 have hg : ∀ W, (isAgg 26).run Tryd.prog W = .ok true W := fun W => Tryd.isAgg26 W
 simp [Instr.index, run_underlying Tryd.underlying27, asIntOf, hs, hg, part]
theorem BsAt.same {w w' : World} {b : Tb.Bs} (h : BsAt w w.heap.size b) (hb : Below w.heap.size w w') : BsAt w' w'.heap.size b := (h.below hb).more hb.size
theorem writable_bs (b : Tb.Bs) (w : World) (h : BsAt w w.heap.size b) :
  Calls Tryd.prog 74 #[.slice b.ad b.l.length b.c] w fun e w' => e = .returned (.bool (Tb.writable b.l)) ∧ w = w' := writable_any b.ad b.l.length b.c b.l w h.1 h.2.2
set_option maxHeartbeats 4000000 in
set_option maxRecDepth 100000 in
theorem proper_any (v : Value) (t : Tb.Tab) (w : World) (h : TabAt w w.heap.size v t) :
  Calls Tryd.prog 61 #[v] w fun e w' => e = .returned (.bool (Tb.proper t)) ∧ Below w.heap.size w w' := by
 obtain ⟨A0, A1, c0, c1, rfl, h0, h1, _, _, hd, hc, hn, hf, hs⟩ := h
 have HP := hide (show Tb.proper t = (t.r0.all Tb.right && t.r1.all Tb.right && decide (t.dig.l.length = 10) && t.dig.l.all Tb.filled && Tb.writable t.cap.l && Tb.writable t.num.l && Tb.writable t.fin.l && Tb.writable t.sw.l) from rfl)
 have E0 := hide (fun (W : World) (hb : Below w.heap.size w W) => every_possible A0 c0 t.r0 W ((h0.below hb).more hb.size))
 have E1 := hide (fun (W : World) (hb : Below w.heap.size w W) => every_possible A1 c1 t.r1 W ((h1.below hb).more hb.size))
 have CD := hide (fun (W : World) (hb : Below w.heap.size w W) => every_filled t.dig.ad t.dig.l.length t.dig.c t.dig.l W ((hd.1.below hb).more hb.size) hd.2.2)
 have CC := hide (fun (W : World) (hb : Below w.heap.size w W) => writable_bs t.cap W (hc.same hb))
 have CN := hide (fun (W : World) (hb : Below w.heap.size w W) => writable_bs t.num W (hn.same hb))
 have CF := hide (fun (W : World) (hb : Below w.heap.size w W) => writable_bs t.fin W (hf.same hb))
 have CS := hide (fun (W : World) (hb : Below w.heap.size w W) => writable_bs t.sw W (hs.same hb))
 have hm0 := h0.2.2
 have hm1 := h1.2.2
 have hm2 := hd.2.2
 clear h0 h1 hd hc hn hf hs
 generalize Tb.proper t = res at *
 generalize t.r0.all Tb.right = b0 at *
 generalize t.r1.all Tb.right = b1 at *
 generalize t.dig.l.all Tb.filled = b2 at *
 generalize Tb.writable t.cap.l = b3 at *
 generalize Tb.writable t.num.l = b4 at *
 generalize Tb.writable t.fin.l = b5 at *
 generalize Tb.writable t.sw.l = b6 at *
 generalize t.r0.length = n0 at *
 generalize t.r1.length = n1 at *
 generalize t.dig.l.length = n2 at *
 generalize t.cap.l.length = n3 at *
 generalize t.num.l.length = n4 at *
 generalize t.fin.l.length = n5 at *
 generalize t.sw.l.length = n6 at *
 go_enter Tryd.func61, Tryd.ntmps61
 go_upto_region 1 with fail
 refine name_world fun V hV => ?_
 have VB := hide (show Blk V w.heap.size 29 #[.slice A0 n0 c0, .slice A1 n1 c1, .slice t.dig.ad n2 t.dig.c, .slice t.cap.ad n3 t.cap.c, .slice t.num.ad n4 t.num.c, .slice t.fin.ad n5 t.fin.c, .slice t.sw.ad n6 t.sw.c] by rw [← hV.out]; exact Blk.new w _ _)
 have HV := hide (show Below w.heap.size w V by rw [← hV.out]; exact below_alloc w _)
 have hgV := VB.out.lt
 have k0 : V.cell? ⟨w.heap.size, 0, none⟩ = some (.slice A0 n0 c0) := VB.out.cell 0
 have k1 : V.cell? ⟨w.heap.size, 1, none⟩ = some (.slice A1 n1 c1) := VB.out.cell 1
 have HVV := hide (Below.refl V.heap.size V)
 clear hV
 go_wp2
 clear k0 k1
 go_loopw [7] (fun s wr => ∃ i : Nat, i ≤ 2 ∧ s = .int .i64 (i : Int) ∧ Hid (1 ≤ i → b0 = true) ∧ Hid (2 ≤ i → b1 = true) ∧ Below V.heap.size V wr) (fun s _ => 2 - (intOf s).toNat)
 case atStart => exact ⟨0, by omega, rfl, fun h => absurd h (by omega), fun h => absurd h (by omega), HVV.out⟩
 case round =>
  obtain ⟨i, hi, rfl, H0, H1, hbel⟩ := hrel
  obtain ⟨wd, rfl⟩ : ∃ wd, wd = wr := ⟨wr, rfl⟩
  have HB := hide hbel
  have HWD := hide (HV.out.trans (hbel.mono HV.out.size))
  clear hbel
  obtain rfl | rfl | rfl : i = 0 ∨ i = 1 ∨ i = 2 := by omega
  ·rw [show ((0 : Nat) : Int) = 0 from rfl]
   have hix := run_index_lang0 (.slice A0 n0 c0) (.slice A1 n1 c1)
   go_upto_region 4 with fail
   refine name_world fun X hX => ?_
   have XB := hide (show Blk X wd.heap.size 26 #[.slice A0 n0 c0] by rw [← hX.out]; exact Blk.new wd _ _)
   have HXB := hide (show Below wd.heap.size wd X by rw [← hX.out]; exact below_alloc wd _)
   have HX := hide (HB.out.trans (HXB.out.mono HB.out.size))
   have HWX := hide (HWD.out.trans (HXB.out.mono HWD.out.size))
   have e0 : X.cell? ⟨wd.heap.size, 0, none⟩ = some (.slice A0 n0 c0) := XB.out.cell 0
   have C := hide (E0.out X HWX.out)
   clear hX
   cases b0 with
   | true =>
    go_wp2_with (go_at_call 70; refine (unhide C).mono ?_; rintro e w1 ⟨rfl, hb1⟩; have B1 := hide (HX.out.trans (hb1.mono HX.out.size)); clear hb1)
    exact ⟨⟨0 + 1, by omega, by rfl, fun _ => trivial, fun h => absurd h (by omega), B1.out⟩, by simp [intOf]⟩
   | false =>
    have HF := hide (show res = false by rw [HP.out]; rfl)
    go_wp2_with (go_at_call 70; refine (unhide C).mono ?_; rintro e w1 ⟨rfl, hb1⟩; have B1 := hide (HWX.out.trans (hb1.mono HWX.out.size)); clear hb1)
    go_ret
    exact ⟨by rw [HF.out]; rfl, B1.out⟩
  ·rw [show ((1 : Nat) : Int) = 1 from rfl]
   have hix := run_index_lang1 (.slice A0 n0 c0) (.slice A1 n1 c1)
   go_upto_region 4 with fail
   refine name_world fun X hX => ?_
   have XB := hide (show Blk X wd.heap.size 26 #[.slice A1 n1 c1] by rw [← hX.out]; exact Blk.new wd _ _)
   have HXB := hide (show Below wd.heap.size wd X by rw [← hX.out]; exact below_alloc wd _)
   have HX := hide (HB.out.trans (HXB.out.mono HB.out.size))
   have HWX := hide (HWD.out.trans (HXB.out.mono HWD.out.size))
   have e0 : X.cell? ⟨wd.heap.size, 0, none⟩ = some (.slice A1 n1 c1) := XB.out.cell 0
   have C := hide (E1.out X HWX.out)
   clear hX
   cases b1 with
   | true =>
    go_wp2_with (go_at_call 70; refine (unhide C).mono ?_; rintro e w1 ⟨rfl, hb1⟩; have B1 := hide (HX.out.trans (hb1.mono HX.out.size)); clear hb1)
    exact ⟨⟨1 + 1, by omega, by rfl, fun _ => H0.out (by omega), fun _ => trivial, B1.out⟩, by simp [intOf]⟩
   | false =>
    have HF := hide (show res = false by rw [HP.out, H0.out (by omega)]; rfl)
    go_wp2_with (go_at_call 70; refine (unhide C).mono ?_; rintro e w1 ⟨rfl, hb1⟩; have B1 := hide (HWX.out.trans (hb1.mono HWX.out.size)); clear hb1)
    go_ret
    exact ⟨by rw [HF.out]; rfl, B1.out⟩
  ·rw [show ((2 : Nat) : Int) = 2 from rfl]
   have WB := VB.out.below HB.out hgV
   have e2 : wd.cell? ⟨w.heap.size, 2, none⟩ = some (.slice t.dig.ad n2 t.dig.c) := WB.cell 2
   have e3 : wd.cell? ⟨w.heap.size, 3, none⟩ = some (.slice t.cap.ad n3 t.cap.c) := WB.cell 3
   have e4 : wd.cell? ⟨w.heap.size, 4, none⟩ = some (.slice t.num.ad n4 t.num.c) := WB.cell 4
   have e5 : wd.cell? ⟨w.heap.size, 5, none⟩ = some (.slice t.fin.ad n5 t.fin.c) := WB.cell 5
   have e6 : wd.cell? ⟨w.heap.size, 6, none⟩ = some (.slice t.sw.ad n6 t.sw.c) := WB.cell 6
   have D2 := hide (CD.out wd HWD.out)
   have D3 := hide (CC.out wd HWD.out)
   have D4 := hide (CN.out wd HWD.out)
   have D5 := hide (CF.out wd HWD.out)
   have D6 := hide (CS.out wd HWD.out)
   have HP2 := hide (show res = (decide (n2 = 10) && b2 && b3 && b4 && b5 && b6) by rw [HP.out, H0.out (by omega), H1.out (by omega)]; simp)
   clear WB HP H0 H1 E0 E1 CD CC CN CF CS
   by_cases hn : (n2 : Int) = 10
   ·have hne : ((n2 : Int) == 10) = true := by rw [hn]; rfl
    have HP3 := hide (show res = (b2 && b3 && b4 && b5 && b6) by rw [HP2.out, decide_eq_true (by omega)]; simp)
    clear HP2
    cases b2 with
    | false =>
     go_wp2_with (go_at_call 72; refine (unhide D2).mono ?_; rintro e w1 ⟨rfl, rfl⟩)
     go_ret
     exact ⟨by rw [HP3.out]; rfl, HWD.out⟩
    | true =>
    cases b3 with
    | false =>
     go_wp2_with (first
      | (go_at_call 72; refine (unhide D2).mono ?_; rintro e w1 ⟨rfl, rfl⟩)
      | (go_at_call 74; with_reducible refine (unhide D3).mono ?_; rintro e w1 ⟨rfl, rfl⟩))
     go_ret
     exact ⟨by rw [HP3.out]; rfl, HWD.out⟩
    | true =>
    cases b4 with
    | false =>
     go_wp2_with (first
      | (go_at_call 72; refine (unhide D2).mono ?_; rintro e w1 ⟨rfl, rfl⟩)
      | (go_at_call 74; first | (with_reducible refine (unhide D3).mono ?_); rintro e w1 ⟨rfl, rfl⟩ | (with_reducible refine (unhide D4).mono ?_); rintro e w1 ⟨rfl, rfl⟩))
     go_ret
     exact ⟨by rw [HP3.out]; rfl, HWD.out⟩
    | true =>
    cases b5 with
    | false =>
     go_wp2_with (first
      | (go_at_call 72; refine (unhide D2).mono ?_; rintro e w1 ⟨rfl, rfl⟩)
      | (go_at_call 74; first | (with_reducible refine (unhide D3).mono ?_); rintro e w1 ⟨rfl, rfl⟩ | (with_reducible refine (unhide D4).mono ?_); rintro e w1 ⟨rfl, rfl⟩ | (with_reducible refine (unhide D5).mono ?_); rintro e w1 ⟨rfl, rfl⟩))
     go_ret
     exact ⟨by rw [HP3.out]; rfl, HWD.out⟩
    | true =>
     go_wp2_with (first
      | (go_at_call 72; refine (unhide D2).mono ?_; rintro e w1 ⟨rfl, rfl⟩)
      | (go_at_call 74; first | (with_reducible refine (unhide D3).mono ?_); rintro e w1 ⟨rfl, rfl⟩ | (with_reducible refine (unhide D4).mono ?_); rintro e w1 ⟨rfl, rfl⟩ | (with_reducible refine (unhide D5).mono ?_); rintro e w1 ⟨rfl, rfl⟩ | (with_reducible refine (unhide D6).mono ?_); rintro e w1 ⟨rfl, rfl⟩))
     go_ret
     exact ⟨by rw [HP3.out]; rfl, HWD.out⟩
   ·have hne : ((n2 : Int) == 10) = false := by
     rw [beq_eq_false_iff_ne]
     exact hn
    have HF := hide (show res = false by rw [HP2.out, decide_eq_false (by omega)]; rfl)
    clear HP2
    go_wp2
    go_ret
    exact ⟨by rw [HF.out]; rfl, HWD.out⟩
theorem run_index_map0 (a b : Value) (W : World) : (Instr.index 109 (.agg #[a, b]) (.int .i64 0)).run Tryd.prog W = .ok a W := by
 have hs : ∀ W, (sizeOf 108).run Tryd.prog W = .ok 1 W := fun W => Tryd.sizeOf108 W
 have hg : ∀ W, (isAgg 108).run Tryd.prog W = .ok false W := fun W => Tryd.isAgg108 W
 simp [Instr.index, run_underlying Tryd.underlying109, asIntOf, hs, hg, part]
theorem run_index_map1 (a b : Value) (W : World) : (Instr.index 109 (.agg #[a, b]) (.int .i64 1)).run Tryd.prog W = .ok b W := by
 have hs : ∀ W, (sizeOf 108).run Tryd.prog W = .ok 1 W := fun W => Tryd.sizeOf108 W
 have hg : ∀ W, (isAgg 108).run Tryd.prog W = .ok false W := fun W => Tryd.isAgg108 W
 simp [Instr.index, run_underlying Tryd.underlying109, asIntOf, hs, hg, part]
theorem encode_small : ∀ j : Fin 26, Utf8.encode (97 + (j.val : Int)) = S [UInt8.ofNat (97 + j.val)] := by decide +kernel
theorem encode_letter (j : Nat) (h : j < 26) : Utf8.encode (97 + (j : Int)) = S [UInt8.ofNat (97 + j)] := encode_small ⟨j, h⟩
theorem inI_zero : Wr.inI 0 := by unfold Wr.inI; omega
theorem run_look (W : World) (b : Nat) (ks : List (List UInt8 × Int)) (h : SetMap W b ks) (hks : ∀ x ∈ ks, x.1.length ≤ 1048576 ∧ Wr.inI x.2) (j : Nat) (hj : j < 26) :
  (Instr.lookup 108 (.map (some b)) (.agg #[.string (Utf8.encode (97 + (j : Int))), .int .i64 0]) false).run Tryd.prog W = .ok (.bool (decide (([UInt8.ofNat (97 + j)], (0 : Int)) ∈ ks))) W := by
 rw [encode_letter j hj]
 obtain ⟨kl, hkl⟩ := keyOf_name ([UInt8.ofNat (97 + j)], (0 : Int)) (by simp) inI_zero
 have hz : (zeroValue 4).run Tryd.prog W = .ok (.bool false) W := Tryd.zeroValue4 W
 exact h.look nameKeyed Tryd.underlying108 (key := ([UInt8.ofNat (97 + j)], (0 : Int))) hkl (fun x hx => keyOf_name x (hks x hx).1 (hks x hx).2) hz
theorem run_lenMap (W : World) (b : Nat) (ks : List (List UInt8 × Int)) (h : SetMap W b ks) (ty : TypeId) :
  (Builtin.len_ #[108] ty #[.map (some b)]).run Tryd.prog W = .ok (.int .i64 (ks.length : Int)) W := by
 obtain ⟨es, clock, hb, hk, _⟩ := h
 have hl : es.size = ks.length := by
  have := congrArg List.length hk
  simpa using this
 simp [Builtin.len_, run_underlying Tryd.underlying108, run_getObj_map W b es clock hb, hl, goInt]
namespace Tb
def validTail (t : Tab) : Int := if lone t.r0 = false ∨ lone t.r1 = false then 7 else if owns t.r0 = false ∨ owns t.r1 = false then 6 else 0
theorem valid_eq (t : Tab) : valid t = if 96 < t.r0.length ∨ 96 < t.r1.length then 4 else if proper t = false then 1 else validTail t := rfl
theorem owns_all (rs : List Rl) : owns rs = (List.range 26).all fun j => decide (([UInt8.ofNat (97 + j)], (0 : Int)) ∈ keysOf rs) := by
 unfold owns
 congr 1
 funext j
 exact ownsC_eq rs _
end Tb
theorem SetMap.setCell {w : World} {b : Nat} {ks : List (List UInt8 × Int)} (h : SetMap w b ks) {p : Addr} (hp : b ≠ p.block) (v : Value) : SetMap (w.setCell p v) b ks := by
 obtain ⟨es, clock, hb, h2⟩ := h
 exact ⟨es, clock, (Below.heap_setCell w p v b hp).trans hb, h2⟩
theorem SetMap.drewN {w : World} {b : Nat} {ks : List (List UInt8 × Int)} (h : SetMap w b ks) (n : Nat) : SetMap (w.drewN n) b ks := h
theorem keys_ok {w : World} {B : Nat} {A : Option Addr} {rs : List Tb.Rl} (h : RulesAt w B A rs) : ∀ x ∈ Tb.keysOf rs, x.1.length ≤ 1048576 ∧ Wr.inI x.2 := fun x hx => by
 obtain ⟨r, hm, rfl⟩ := List.mem_map.1 (((Tb.keysOf_facts rs).1 x).1 hx)
 exact (h.2.1 r hm).2
set_option maxHeartbeats 8000000 in
set_option maxRecDepth 100000 in
theorem valid_any (v : Value) (t : Tb.Tab) (w : World) (h : TabAt w w.heap.size v t) :
  Calls Tryd.prog 41 #[v] w fun e w' => e = .returned (.int .i64 (Tb.valid t)) ∧ Below w.heap.size w w' := by
 have CP := hide (fun (W : World) (hb : Below w.heap.size w W) => proper_any v t W ((h.below hb).more hb.size))
 obtain ⟨A0, A1, c0, c1, rfl, h0, h1, _, _, hd, hc, hn, hf, hs⟩ := h
 have HV0 := hide (Tb.valid_eq t)
 have HVT := hide (show Tb.validTail t = if Tb.lone t.r0 = false ∨ Tb.lone t.r1 = false then 7 else if Tb.owns t.r0 = false ∨ Tb.owns t.r1 = false then 6 else 0 from rfl)
 have N0 := hide (fun (W : World) (hb : Below w.heap.size w W) => names_any A0 c0 t.r0 W ((h0.below hb).more hb.size))
 have N1 := hide (fun (W : World) (hb : Below w.heap.size w W) => names_any A1 c1 t.r1 W ((h1.below hb).more hb.size))
 have K0 := hide (keys_ok h0)
 have K1 := hide (keys_ok h1)
 have L0 := hide (Tb.lone_eq t.r0)
 have L1 := hide (Tb.lone_eq t.r1)
 have O0 := hide (Tb.owns_all t.r0)
 have O1 := hide (Tb.owns_all t.r1)
 have hl0 := (Tb.keysOf_facts t.r0).2.1
 have hl1 := (Tb.keysOf_facts t.r1).2.1
 have hm0 := h0.2.2
 have hm1 := h1.2.2
 clear h0 h1 hd hc hn hf hs
 generalize Tb.valid t = res at *
 generalize Tb.validTail t = rest at *
 generalize Tb.proper t = pr at *
 generalize Tb.lone t.r0 = l0 at *
 generalize Tb.lone t.r1 = l1 at *
 generalize Tb.owns t.r0 = o0 at *
 generalize Tb.owns t.r1 = o1 at *
 generalize Tb.keysOf t.r0 = k0 at *
 generalize Tb.keysOf t.r1 = k1 at *
 generalize t.r0.length = n0 at *
 generalize t.r1.length = n1 at *
 generalize t.dig.l.length = n2 at *
 generalize t.cap.l.length = n3 at *
 generalize t.num.l.length = n4 at *
 generalize t.fin.l.length = n5 at *
 generalize t.sw.l.length = n6 at *
 go_enter Tryd.func41, Tryd.ntmps41
 go_upto_region 1 with fail
 refine name_world fun V hV => ?_
 have VB := hide (show Blk V w.heap.size 29 #[.slice A0 n0 c0, .slice A1 n1 c1, .slice t.dig.ad n2 t.dig.c, .slice t.cap.ad n3 t.cap.c, .slice t.num.ad n4 t.num.c, .slice t.fin.ad n5 t.fin.c, .slice t.sw.ad n6 t.sw.c] by rw [← hV.out]; exact Blk.new w _ _)
 have HV := hide (show Below w.heap.size w V by rw [← hV.out]; exact below_alloc w _)
 have hgV := VB.out.lt
 have q0 : V.cell? ⟨w.heap.size, 0, none⟩ = some (.slice A0 n0 c0) := VB.out.cell 0
 have q1 : V.cell? ⟨w.heap.size, 1, none⟩ = some (.slice A1 n1 c1) := VB.out.cell 1
 have HVV := hide (Below.refl V.heap.size V)
 clear hV
 go_wp2
 clear q0 q1
 go_loopw [13] (fun s wr => ∃ i : Nat, i ≤ 2 ∧ s = .int .i64 (i : Int) ∧ Hid (1 ≤ i → n0 ≤ 96) ∧ Hid (2 ≤ i → n1 ≤ 96) ∧ Below V.heap.size V wr) (fun s _ => 2 - (intOf s).toNat)
 case atStart => exact ⟨0, by omega, rfl, fun h => absurd h (by omega), fun h => absurd h (by omega), HVV.out⟩
 case round =>
  obtain ⟨i, hi, rfl, H0, H1, hbel⟩ := hrel
  obtain ⟨wd, rfl⟩ : ∃ wd, wd = wr := ⟨wr, rfl⟩
  have HB := hide hbel
  have HWD := hide (HV.out.trans (hbel.mono HV.out.size))
  clear hbel
  obtain rfl | rfl | rfl : i = 0 ∨ i = 1 ∨ i = 2 := by omega
  ·rw [show ((0 : Nat) : Int) = 0 from rfl]
   have hix := run_index_lang0 (.slice A0 n0 c0) (.slice A1 n1 c1)
   go_upto_region 4 with fail
   refine name_world fun X hX => ?_
   have XB := hide (show Blk X wd.heap.size 26 #[.slice A0 n0 c0] by rw [← hX.out]; exact Blk.new wd _ _)
   have HXB := hide (show Below wd.heap.size wd X by rw [← hX.out]; exact below_alloc wd _)
   have HX := hide (HB.out.trans (HXB.out.mono HB.out.size))
   have HWX := hide (HWD.out.trans (HXB.out.mono HWD.out.size))
   have e0 : X.cell? ⟨wd.heap.size, 0, none⟩ = some (.slice A0 n0 c0) := XB.out.cell 0
   clear hX hix
   by_cases hg : (96 : Int) < (n0 : Int)
   ·have HF := hide (show res = 4 by rw [HV0.out, if_pos (by omega)])
    go_wp2
    go_ret
    exact ⟨by rw [HF.out]; rfl, HWX.out⟩
   ·go_wp2
    exact ⟨⟨0 + 1, by omega, by rfl, fun _ => by omega, fun h => absurd h (by omega), HX.out⟩, by simp [intOf]⟩
  ·rw [show ((1 : Nat) : Int) = 1 from rfl]
   have hix := run_index_lang1 (.slice A0 n0 c0) (.slice A1 n1 c1)
   go_upto_region 4 with fail
   refine name_world fun X hX => ?_
   have XB := hide (show Blk X wd.heap.size 26 #[.slice A1 n1 c1] by rw [← hX.out]; exact Blk.new wd _ _)
   have HXB := hide (show Below wd.heap.size wd X by rw [← hX.out]; exact below_alloc wd _)
   have HX := hide (HB.out.trans (HXB.out.mono HB.out.size))
   have HWX := hide (HWD.out.trans (HXB.out.mono HWD.out.size))
   have e0 : X.cell? ⟨wd.heap.size, 0, none⟩ = some (.slice A1 n1 c1) := XB.out.cell 0
   clear hX hix
   by_cases hg : (96 : Int) < (n1 : Int)
   ·have HF := hide (show res = 4 by rw [HV0.out, if_pos (by omega)])
    go_wp2
    go_ret
    exact ⟨by rw [HF.out]; rfl, HWX.out⟩
   ·go_wp2
    exact ⟨⟨1 + 1, by omega, by rfl, fun _ => H0.out (by omega), fun _ => by omega, HX.out⟩, by simp [intOf]⟩
  ·rw [show ((2 : Nat) : Int) = 2 from rfl]
   have hs0 := H0.out (by omega)
   have hs1 := H1.out (by omega)
   have HV1 := hide (show res = if pr = false then 1 else rest by rw [HV0.out, if_neg (by omega)])
   have WB := VB.out.below HB.out hgV
   have WBH := hide WB
   have e0 : wd.cell? ⟨w.heap.size, 0, none⟩ = some (.slice A0 n0 c0) := WB.cell 0
   have e1 : wd.cell? ⟨w.heap.size, 1, none⟩ = some (.slice A1 n1 c1) := WB.cell 1
   have e2 : wd.cell? ⟨w.heap.size, 2, none⟩ = some (.slice t.dig.ad n2 t.dig.c) := WB.cell 2
   have e3 : wd.cell? ⟨w.heap.size, 3, none⟩ = some (.slice t.cap.ad n3 t.cap.c) := WB.cell 3
   have e4 : wd.cell? ⟨w.heap.size, 4, none⟩ = some (.slice t.num.ad n4 t.num.c) := WB.cell 4
   have e5 : wd.cell? ⟨w.heap.size, 5, none⟩ = some (.slice t.fin.ad n5 t.fin.c) := WB.cell 5
   have e6 : wd.cell? ⟨w.heap.size, 6, none⟩ = some (.slice t.sw.ad n6 t.sw.c) := WB.cell 6
   have C := hide (CP.out wd HWD.out)
   have hgw : w.heap.size < wd.heap.size := WB.lt
   clear WB HV0 H0 H1 CP VB HB HVV
   cases pr with
   | false =>
    have HF := hide (show res = 1 by rw [HV1.out]; rfl)
    clear HV1
    go_wp2_with (go_at_call 61; refine (unhide C).mono ?_; rintro e w1 ⟨rfl, hb1⟩; have B1 := hide (HWD.out.trans (hb1.mono HWD.out.size)); clear hb1)
    go_ret
    exact ⟨by rw [HF.out]; rfl, B1.out⟩
   | true =>
    have HV2 := hide (show res = rest by rw [HV1.out]; rfl)
    clear HV1
    go_upto_region 10 with (go_at_call 61; refine (unhide C).mono ?_; rintro e w1 ⟨rfl, hb1⟩; have B1 := hide hb1; clear hb1)
    clear e0 e1 e2 e3 e4 e5 e6 C
    refine name_world fun Y hY => ?_
    have YB := hide (show Blk Y w1.heap.size 109 #[.map none, .map none] by rw [← hY.out]; exact Blk.new w1 _ _)
    have HY1 := hide (show Below w1.heap.size w1 Y by rw [← hY.out]; exact below_alloc w1 _)
    have HWY := hide ((HWD.out.trans (B1.out.mono HWD.out.size)).trans (HY1.out.mono (HWD.out.trans (B1.out.mono HWD.out.size)).size))
    have YT := hide ((WBH.out.below B1.out hgw).below HY1.out (by have := B1.out.size; omega))
    have hg5 : w.heap.size < w1.heap.size := by have := B1.out.size; omega
    have hgY : w1.heap.size < Y.heap.size := YB.out.lt
    have f0 : Y.cell? ⟨w.heap.size, 0, none⟩ = some (.slice A0 n0 c0) := YT.out.cell 0
    have f1 : Y.cell? ⟨w.heap.size, 1, none⟩ = some (.slice A1 n1 c1) := YT.out.cell 1
    have HYY := hide (Below.refl w1.heap.size Y)
    clear hY HY1 B1 HWD
    obtain ⟨g, hg⟩ : ∃ g, g = w1.heap.size := ⟨_, rfl⟩
    rw [← hg] at YB hg5 hgY HYY ⊢
    clear hg
    go_wp2
    clear f0 f1
    go_loopw [26] (fun s wr => ∃ (i : Nat) (m0 m1 : Value), i ≤ 2 ∧ s = .int .i64 (i : Int) ∧ Hid (1 ≤ i → l0 = true) ∧ Hid (2 ≤ i → l1 = true) ∧ Blk wr g 109 #[m0, m1] ∧
     Hid (1 ≤ i → ∃ b, m0 = .map (some b) ∧ g < b ∧ SetMap wr b k0) ∧ Hid (2 ≤ i → ∃ b, m1 = .map (some b) ∧ g < b ∧ SetMap wr b k1) ∧ Below g Y wr) (fun s _ => 2 - (intOf s).toNat)
    case atStart => exact ⟨0, _, _, by omega, rfl, fun h => absurd h (by omega), fun h => absurd h (by omega), YB.out, fun h => absurd h (by omega), fun h => absurd h (by omega), HYY.out⟩
    case round =>
     obtain ⟨i, m0, m1, hi, rfl, H0, H1, hblk, M0, M1, hbel⟩ := hrel
     obtain ⟨we, rfl⟩ : ∃ we, we = wr := ⟨wr, rfl⟩
     have HB := hide hbel
     have HBK := hide hblk
     have hge : g < we.heap.size := hblk.lt
     have HWE := hide (HWY.out.trans (hbel.mono (by omega)))
     clear hbel hblk
     obtain rfl | rfl | rfl : i = 0 ∨ i = 1 ∨ i = 2 := by omega
     ·rw [show ((0 : Nat) : Int) = 0 from rfl]
      have hix := run_index_lang0 (.slice A0 n0 c0) (.slice A1 n1 c1)
      go_upto_region 13 with fail
      refine name_world fun X hX => ?_
      have XB := hide (show Blk X we.heap.size 26 #[.slice A0 n0 c0] by rw [← hX.out]; exact Blk.new we _ _)
      have HXB := hide (show Below we.heap.size we X by rw [← hX.out]; exact below_alloc we _)
      have HX := hide (HB.out.trans (HXB.out.mono (by omega)))
      have HWX := hide (HWE.out.trans (HXB.out.mono HWE.out.size))
      have XG := hide (HBK.out.below HXB.out hge)
      have e0 : X.cell? ⟨we.heap.size, 0, none⟩ = some (.slice A0 n0 c0) := XB.out.cell 0
      have hX1 : we.heap.size < X.heap.size := XB.out.lt
      have C := hide (N0.out X HWX.out)
      clear hX hix
      have hst := fun (W : World) (hb : Blk W g 109 #[m0, m1]) => hb.frozen 0
      go_upto_region 14 with (go_at_call 62; refine (unhide C).mono ?_; rintro e w2 ⟨rfl, hset2, hb2⟩; have S2 := hide hset2; have B2 := hide hb2; have G2 := hide (XG.out.below hb2 (by omega)); have g2c : w2.cell? ⟨g, 0, none⟩ = some m0 := (XG.out.below hb2 (by omega)).cell 0; have g2f : w2.frozen? ⟨g, 0, none⟩ = false := (XG.out.below hb2 (by omega)).frozen 0; clear hset2 hb2)
      refine name_world fun Z hZ => ?_
      have ZG := hide (show Blk Z g 109 #[.map (some X.heap.size), m1] by rw [← hZ.out]; exact G2.out.set_ 0 _)
      have ZS := hide (show SetMap Z X.heap.size k0 by rw [← hZ.out]; exact S2.out.setCell (by show X.heap.size ≠ g; omega) _)
      have ZT := hide (show Blk Z we.heap.size 26 #[.slice A0 n0 c0] by rw [← hZ.out]; exact (XB.out.below B2.out hX1).far (show we.heap.size ≠ g by omega) _)
      have ZB := hide (show Below g Y Z by rw [← hZ.out]; exact (HX.out.trans (B2.out.mono (by omega))).setCell (by show g ≤ g; omega) _)
      have ZW := hide (show Below w.heap.size w Z by rw [← hZ.out]; exact (HWX.out.trans (B2.out.mono HWX.out.size)).setCell (by show w.heap.size ≤ g; omega) _)
      clear hZ g2c g2f e0 G2 S2 C hst
      have z0 : Z.cell? ⟨g, 0, none⟩ = some (.map (some X.heap.size)) := ZG.out.cell 0
      have z1 : Z.cell? ⟨we.heap.size, 0, none⟩ = some (.slice A0 n0 c0) := ZT.out.cell 0
      have hlen := fun (k : Nat) (ty : TypeId) => run_lenMap (Z.drewN k) X.heap.size k0 (ZS.out.drewN k) ty
      have hXg : g < X.heap.size := by omega
      have hk96 : k0.length ≤ 96 := by omega
      generalize X.heap.size = bx at *
      by_cases hlt : (k0.length : Int) < (n0 : Int)
      ·have HF := hide (show res = 7 by rw [HV2.out, HVT.out, if_pos]; left; rw [L0.out, decide_eq_true (by omega)]; rfl)
       go_quiet (fail)
       go_wp2
       go_ret
       exact ⟨by rw [HF.out]; rfl, below_drewN ZW.out _⟩
      ·have HL := hide (show l0 = true by rw [L0.out, decide_eq_false (by omega)]; rfl)
       go_quiet (fail)
       go_wp2
       exact ⟨⟨0 + 1, _, _, by omega, by rfl, fun _ => HL.out, fun h => absurd h (by omega), ZG.out.drewN _, fun _ => ⟨bx, rfl, hXg, ZS.out.drewN _⟩, fun h => absurd h (by omega), below_drewN ZB.out _⟩, by simp [intOf]⟩
     ·rw [show ((1 : Nat) : Int) = 1 from rfl]
      have hix := run_index_lang1 (.slice A0 n0 c0) (.slice A1 n1 c1)
      go_upto_region 13 with fail
      refine name_world fun X hX => ?_
      have XB := hide (show Blk X we.heap.size 26 #[.slice A1 n1 c1] by rw [← hX.out]; exact Blk.new we _ _)
      have HXB := hide (show Below we.heap.size we X by rw [← hX.out]; exact below_alloc we _)
      have HX := hide (HB.out.trans (HXB.out.mono (by omega)))
      have HWX := hide (HWE.out.trans (HXB.out.mono HWE.out.size))
      have XG := hide (HBK.out.below HXB.out hge)
      have e0 : X.cell? ⟨we.heap.size, 0, none⟩ = some (.slice A1 n1 c1) := XB.out.cell 0
      have hX1 : we.heap.size < X.heap.size := XB.out.lt
      have C := hide (N1.out X HWX.out)
      obtain ⟨b0, hmb, hb0, hs0⟩ := M0.out (by omega)
      have MS := hide hs0
      have hbl0 := hs0.lt
      clear hX hix
      have hst := fun (W : World) (hb : Blk W g 109 #[m0, m1]) => hb.frozen 1
      go_upto_region 14 with (go_at_call 62; refine (unhide C).mono ?_; rintro e w2 ⟨rfl, hset2, hb2⟩; have S2 := hide hset2; have B2 := hide hb2; have G2 := hide (XG.out.below hb2 (by omega)); have g2c : w2.cell? ⟨g, 1, none⟩ = some m1 := (XG.out.below hb2 (by omega)).cell 1; have g2f : w2.frozen? ⟨g, 1, none⟩ = false := (XG.out.below hb2 (by omega)).frozen 1; clear hset2 hb2)
      refine name_world fun Z hZ => ?_
      have ZG := hide (show Blk Z g 109 #[m0, .map (some X.heap.size)] by rw [← hZ.out]; exact G2.out.set_ 1 _)
      have ZS := hide (show SetMap Z X.heap.size k1 by rw [← hZ.out]; exact S2.out.setCell (by show X.heap.size ≠ g; omega) _)
      have ZT := hide (show Blk Z we.heap.size 26 #[.slice A1 n1 c1] by rw [← hZ.out]; exact (XB.out.below B2.out hX1).far (show we.heap.size ≠ g by omega) _)
      have ZB := hide (show Below g Y Z by rw [← hZ.out]; exact (HX.out.trans (B2.out.mono (by omega))).setCell (by show g ≤ g; omega) _)
      have ZW := hide (show Below w.heap.size w Z by rw [← hZ.out]; exact (HWX.out.trans (B2.out.mono HWX.out.size)).setCell (by show w.heap.size ≤ g; omega) _)
      have ZM := hide (show SetMap Z b0 k0 by rw [← hZ.out]; exact ((MS.out.below HXB.out hbl0).below B2.out (by omega)).setCell (by show b0 ≠ g; omega) _)
      clear hZ g2c g2f e0 G2 S2 C hst
      have z0 : Z.cell? ⟨g, 1, none⟩ = some (.map (some X.heap.size)) := ZG.out.cell 1
      have z1 : Z.cell? ⟨we.heap.size, 0, none⟩ = some (.slice A1 n1 c1) := ZT.out.cell 0
      have hlen := fun (k : Nat) (ty : TypeId) => run_lenMap (Z.drewN k) X.heap.size k1 (ZS.out.drewN k) ty
      have hXg : g < X.heap.size := by omega
      have hk96 : k1.length ≤ 96 := by omega
      generalize X.heap.size = bx at *
      by_cases hlt : (k1.length : Int) < (n1 : Int)
      ·have HF := hide (show res = 7 by rw [HV2.out, HVT.out, if_pos]; right; rw [L1.out, decide_eq_true (by omega)]; rfl)
       go_quiet (fail)
       go_wp2
       go_ret
       exact ⟨by rw [HF.out]; rfl, below_drewN ZW.out _⟩
      ·have HL := hide (show l1 = true by rw [L1.out, decide_eq_false (by omega)]; rfl)
       go_quiet (fail)
       go_wp2
       exact ⟨⟨1 + 1, _, _, by omega, by rfl, fun _ => H0.out (by omega), fun _ => HL.out, ZG.out.drewN _, fun _ => ⟨b0, hmb, hb0, ZM.out.drewN _⟩, fun _ => ⟨bx, rfl, hXg, ZS.out.drewN _⟩, below_drewN ZB.out _⟩, by simp [intOf]⟩
     ·rw [show ((2 : Nat) : Int) = 2 from rfl]
      obtain ⟨b0, rfl, hb0, hs0⟩ := M0.out (by omega)
      obtain ⟨b1, rfl, hb1, hs1⟩ := M1.out (by omega)
      have HV3 := hide (show res = if o0 = false ∨ o1 = false then 6 else 0 by rw [HV2.out, HVT.out, if_neg (by rw [H0.out (by omega), H1.out (by omega)]; simp)])
      have g0 : we.cell? ⟨g, 0, none⟩ = some (.map (some b0)) := HBK.out.cell 0
      have g1 : we.cell? ⟨g, 1, none⟩ = some (.map (some b1)) := HBK.out.cell 1
      have R0 := hide (run_look we b0 k0 hs0 K0.out)
      have R1 := hide (run_look we b1 k1 hs1 K1.out)
      clear HB HBK M0 M1 H0 H1 hs0 hs1 hb0 hb1 HV2 HVT L0 L1 N0 N1
      go_wp2
      clear g0 g1
      go_loopw [45] (fun s wr => ∃ i : Nat, i ≤ 2 ∧ s = .int .i64 (i : Int) ∧ Hid (1 ≤ i → o0 = true) ∧ Hid (2 ≤ i → o1 = true) ∧ we = wr) (fun s _ => 2 - (intOf s).toNat)
      case atStart => exact ⟨0, by omega, rfl, fun h => absurd h (by omega), fun h => absurd h (by omega), rfl⟩
      case round =>
       obtain ⟨i, hi, rfl, H0, H1, rfl⟩ := hrel
       obtain rfl | rfl | rfl : i = 0 ∨ i = 1 ∨ i = 2 := by omega
       ·rw [show ((0 : Nat) : Int) = 0 from rfl]
        have hix := run_index_map0 (.map (some b0)) (.map (some b1))
        go_wp2
        clear hix
        go_loopw [10] (fun s wr => ∃ j : Nat, j ≤ 26 ∧ s = .int .i32 (97 + (j : Int)) ∧ Hid (((List.range j).all fun j => decide (([UInt8.ofNat (97 + j)], (0 : Int)) ∈ k0)) = true) ∧ we = wr) (fun s _ => 123 - (intOf s).toNat)
        case atStart => exact ⟨0, by omega, rfl, rfl, rfl⟩
        case round =>
         obtain ⟨j, hj, rfl, HJ, rfl⟩ := hrel
         by_cases hlt : j < 26
         ·have hji : 97 + (j : Int) ≤ 122 := by omega
          have hj0 : (0 : Int) ≤ (j : Int) := by omega
          have hlk := R0.out j hlt
          have HLT := hide hlt
          have HJS := hide (show ((List.range (j + 1)).all fun j => decide (([UInt8.ofNat (97 + j)], (0 : Int)) ∈ k0)) = decide (([UInt8.ofNat (97 + j)], (0 : Int)) ∈ k0) by rw [List.range_succ, List.all_append, HJ.out]; simp)
          have HBAD := hide (show decide (([UInt8.ofNat (97 + j)], (0 : Int)) ∈ k0) = false → o0 = false by
           intro h
           rw [O0.out, List.all_eq_false]
           exact ⟨j, List.mem_range.2 hlt, by rw [h]; decide⟩)
          generalize decide (([UInt8.ofNat (97 + j)], (0 : Int)) ∈ k0) = ok at *
          clear hlt
          cases ok with
          | true =>
           clear HBAD
           go_wp2
           exact ⟨⟨j + 1, HLT.out, by go_num, HJS.out, trivial⟩, by have := HLT.out; simp [intOf]; omega⟩
          | false =>
           have HF := hide (show res = 6 by rw [HV3.out, if_pos (.inl (HBAD.out rfl))])
           go_wp2
           go_ret
           exact ⟨by rw [HF.out]; rfl, HWE.out⟩
         ·obtain rfl : j = 26 := by omega
          have HO := hide (show o0 = true by rw [O0.out]; exact HJ.out)
          rw [show (97 + ((26 : Nat) : Int)) = 123 from rfl]
          clear hlt
          go_wp2
          exact ⟨⟨0 + 1, by omega, by rfl, fun _ => HO.out, fun h => absurd h (by omega), trivial⟩, by simp [intOf]⟩
       ·rw [show ((1 : Nat) : Int) = 1 from rfl]
        have hix := run_index_map1 (.map (some b0)) (.map (some b1))
        go_wp2
        clear hix
        go_loopw [10] (fun s wr => ∃ j : Nat, j ≤ 26 ∧ s = .int .i32 (97 + (j : Int)) ∧ Hid (((List.range j).all fun j => decide (([UInt8.ofNat (97 + j)], (0 : Int)) ∈ k1)) = true) ∧ we = wr) (fun s _ => 123 - (intOf s).toNat)
        case atStart => exact ⟨0, by omega, rfl, rfl, rfl⟩
        case round =>
         obtain ⟨j, hj, rfl, HJ, rfl⟩ := hrel
         by_cases hlt : j < 26
         ·have hji : 97 + (j : Int) ≤ 122 := by omega
          have hj0 : (0 : Int) ≤ (j : Int) := by omega
          have hlk := R1.out j hlt
          have HLT := hide hlt
          have HJS := hide (show ((List.range (j + 1)).all fun j => decide (([UInt8.ofNat (97 + j)], (0 : Int)) ∈ k1)) = decide (([UInt8.ofNat (97 + j)], (0 : Int)) ∈ k1) by rw [List.range_succ, List.all_append, HJ.out]; simp)
          have HBAD := hide (show decide (([UInt8.ofNat (97 + j)], (0 : Int)) ∈ k1) = false → o1 = false by
           intro h
           rw [O1.out, List.all_eq_false]
           exact ⟨j, List.mem_range.2 hlt, by rw [h]; decide⟩)
          generalize decide (([UInt8.ofNat (97 + j)], (0 : Int)) ∈ k1) = ok at *
          clear hlt
          cases ok with
          | true =>
           clear HBAD
           go_wp2
           exact ⟨⟨j + 1, HLT.out, by go_num, HJS.out, trivial⟩, by have := HLT.out; simp [intOf]; omega⟩
          | false =>
           have HF := hide (show res = 6 by rw [HV3.out, if_pos (.inr (HBAD.out rfl))])
           go_wp2
           go_ret
           exact ⟨by rw [HF.out]; rfl, HWE.out⟩
         ·obtain rfl : j = 26 := by omega
          have HO := hide (show o1 = true by rw [O1.out]; exact HJ.out)
          rw [show (97 + ((26 : Nat) : Int)) = 123 from rfl]
          clear hlt
          go_wp2
          exact ⟨⟨1 + 1, by omega, by rfl, fun _ => H0.out (by omega), fun _ => HO.out, trivial⟩, by simp [intOf]⟩
       ·rw [show ((2 : Nat) : Int) = 2 from rfl]
        have HF := hide (show res = 0 by rw [HV3.out, if_neg (by rw [H0.out (by omega), H1.out (by omega)]; simp)])
        go_wp2
        go_ret
        exact ⟨by rw [HF.out]; rfl, HWE.out⟩
def syC (x : Int × UInt8) : List Value := [.int .i64 x.1, .int .u8 (x.2.toNat : Int)]
def SC (l : Tb.Text) : List Value := l.flatMap syC
theorem SC_len (es : Tb.Text) : (SC es).length = es.length * 2 := by
 induction es with
 | nil => rfl
 | cons e r ih =>
  unfold SC at ih ⊢
  rw [List.flatMap_cons, List.length_append, ih, List.length_cons]
  show 2 + _ = _
  omega
theorem SC_get (es : Tb.Text) (k j : Nat) (h : k < es.length) (hj : j < 2) : (SC es)[k * 2 + j]? = (syC es[k])[j]? := by
 induction es generalizing k with
 | nil => exact absurd h (by simp)
 | cons e r ih =>
  unfold SC at ih ⊢
  rw [List.flatMap_cons]
  cases k with
  | zero => rw [List.getElem?_append_left (by show 0 * 2 + j < 2; omega), Nat.zero_mul, Nat.zero_add]; rfl
  | succ k =>
   have h' : k < r.length := by simpa using h
   rw [List.getElem?_append_right (by show 2 ≤ _; omega)]
   show (r.flatMap syC)[(k + 1) * 2 + j - 2]? = _
   rw [show (k + 1) * 2 + j - 2 = k * 2 + j by omega, ih k h']
   rfl
theorem SC_append (a b : Tb.Text) : SC (a ++ b) = SC a ++ SC b := by unfold SC; rw [List.flatMap_append]
def TextAt (w : World) (B : Nat) (A : Option Addr) (l : Tb.Text) : Prop := Reads w B 2 A l.length (SC l) ∧ l.length ≤ 1048576
theorem TextAt.below {w w' : World} {B : Nat} {A : Option Addr} {l : Tb.Text} (h : TextAt w B A l) (hb : Below B w w') : TextAt w' B A l := ⟨h.1.below hb, h.2⟩
theorem TextAt.more {w : World} {B B' : Nat} {A : Option Addr} {l : Tb.Text} (h : TextAt w B A l) (hB : B ≤ B') : TextAt w B' A l := ⟨h.1.more hB, h.2⟩
theorem TextAt.same {w w' : World} {A : Option Addr} {l : Tb.Text} (h : TextAt w w.heap.size A l) (hb : Below w.heap.size w w') : TextAt w' w'.heap.size A l := (h.below hb).more hb.size
theorem at_get (l : Tb.Text) (k : Nat) (hk : k < l.length) : Tb.at_ l k = l[k] := by unfold Tb.at_; simp [List.getD, hk]
theorem reads_sym {w : World} {B : Nat} {A : Option Addr} {l : Tb.Text} (h : TextAt w B A l) (k : Nat) (hk : k < l.length) :
  ∃ ad, A = some ad ∧ ad.block < B ∧ w.cell? (ad.add (k * 2)) = some (.int .i64 (Tb.at_ l k).1) ∧ w.cell? (ad.add (k * 2 + 1)) = some (.int .u8 ((Tb.at_ l k).2.toNat : Int)) := by
 obtain ⟨ad, hA, hb, hc⟩ := h.1.2 (by omega)
 rw [at_get l k hk]
 exact ⟨ad, hA, hb, hc _ _ (by rw [show k * 2 = k * 2 + 0 from rfl, SC_get l k 0 hk (by decide)]; rfl), hc _ _ (by rw [SC_get l k 1 hk (by decide)]; rfl)⟩
theorem reads_sym' {w : World} {B : Nat} {A : Option Addr} {l : Tb.Text} (h : TextAt w B A l) (k : Nat) (hk : k < l.length) :
  ∃ ad, A = some ad ∧ ad.block < B ∧ w.cell? (ad.add (k * 2)) = some (.int .i64 (Tb.at_ l k).1) ∧ w.cell? ⟨(ad.add (k * 2)).block, (ad.add (k * 2)).off + 1, none⟩ = some (.int .u8 ((Tb.at_ l k).2.toNat : Int)) := by
 obtain ⟨ad, h1, h2, h3, h4⟩ := reads_sym h k hk
 refine ⟨ad, h1, h2, h3, ?_⟩
 rw [← h4, ← add_of_add]
 rfl
theorem sym_cells (x : Int × UInt8) (w : World) (ad : Addr) (k : Nat) (h0 : w.cell? (ad.add (k * 2)) = some (.int .i64 x.1)) (h1 : w.cell? (ad.add (k * 2 + 1)) = some (.int .u8 (x.2.toNat : Int))) :
  ∀ (j : Nat) (v : Value), ([.int .i64 x.1, .int .u8 (x.2.toNat : Int)] : List Value)[j]? = some v → w.cell? ((ad.add (k * 2)).add j) = some v := by
 intro j v hv
 rw [add_of_add]
 match j, hv with
 | 0, hv => rw [Nat.add_zero, h0]; exact hv
 | 1, hv => rw [h1]; exact hv
 | j + 2, hv => exact absurd hv (by simp)
theorem symInfo : (Tryd.prog.info? 83).map (·.size) = some 2 := by kernel_rfl
set_option maxHeartbeats 1000000 in
theorem symvalid_any (x : Int × UInt8) (w : World) :
  Calls Tryd.prog 40 #[.agg #[.int .i64 x.1, .int .u8 (x.2.toNat : Int)]] w fun e w' => e = .returned (.bool (Tb.symOk x)) ∧ Below w.heap.size w w' := by
 have CL := hide (fun W => language_any W x.1)
 have CC := hide (fun W => character_any x.2 W)
 have HS := hide (show Tb.symOk x = (Tb.langOk x.1 && Tb.written x.2) from rfl)
 unfold VC at CC
 generalize Tb.symOk x = res at *
 generalize Tb.langOk x.1 = b1 at *
 generalize Tb.written x.2 = b2 at *
 generalize x.1 = l at *
 generalize x.2.toNat = n at *
 have HB := hide (below_alloc w (.cells #[.int .i64 l, .int .u8 (n : Int)] 83))
 cases b1 <;>
 ·go_enter Tryd.func40, Tryd.ntmps40
  go_wp2_with (first
   | (go_at_call 38; refine (unhide CL _).mono ?_; rintro e w1 ⟨rfl, rfl⟩)
   | (go_at_call 60; refine (unhide CC _).mono ?_; rintro e w1 ⟨rfl, rfl⟩))
  go_ret
  exact ⟨by rw [HS.out]; rfl, HB.out⟩
set_option maxHeartbeats 2000000 in
set_option maxRecDepth 100000 in
theorem every_valid (A : Option Addr) (c : Nat) (rs : Tb.Text) (w : World) (hr : TextAt w w.heap.size A rs) :
  Calls Tryd.prog 39 #[.slice A rs.length c, .func (.func 40) #[] #[]] w fun e w' => e = .returned (.bool (rs.all Tb.symOk)) ∧ Below w.heap.size w w' := by
 have hbig := hr.2
 obtain ⟨n, hn⟩ : ∃ n, n = rs.length := ⟨_, rfl⟩
 have HN := hide hn
 rw [← hn] at hbig ⊢
 have hni : (n : Int) ≤ 1048576 := by omega
 have HR := hide hr
 clear hn hr
 generalize hres : rs.all Tb.symOk = res at *
 have HRES := hide hres
 have HW := hide (Below.refl w.heap.size w)
 clear hres
 go_enter Tryd.func39, Tryd.ntmps39
 go_wp2
 go_loopw [9] (fun s wr => ∃ i : Nat, i ≤ n ∧ s = .int .i64 (i : Int) ∧ Hid ((rs.take i).all Tb.symOk = true) ∧ Below w.heap.size w wr) (fun s _ => n - (intOf s).toNat)
 case atStart => exact ⟨0, by omega, rfl, by rw [List.take_zero]; exact rfl, HW.out⟩
 case round =>
  obtain ⟨i, hi, rfl, HT, hbel⟩ := hrel
  obtain ⟨wd, rfl⟩ : ∃ wd, wd = wr := ⟨wr, rfl⟩
  have HB := hide hbel
  by_cases hlt : i < n
  ·have hil : i < rs.length := by rw [← HN.out]; exact hlt
   obtain ⟨ad, rfl, hadb, hc0, hc1⟩ := reads_sym HR.out i hil
   rw [at_get rs i hil] at hc0 hc1
   have HEC := hide (sym_cells rs[i] wd ad i (by rw [HB.out.cell (by rw [block_of_add]; exact hadb)]; exact hc0) (by rw [HB.out.cell (by rw [block_of_add]; exact hadb)]; exact hc1))
   have hi0 : (0 : Int) ≤ (i : Int) := by omega
   have hi1 : (i : Int) < (n : Int) := by omega
   have HLT := hide hlt
   have C := hide (fun (W : World) => symvalid_any rs[i] W)
   have HTS := hide (all_take_succ Tb.symOk rs i hil)
   have HBAD := hide (all_bad Tb.symOk rs i hil)
   generalize rs[i] = r at *
   clear hc0 hc1 hlt hil hbel
   generalize hok : Tb.symOk r = ok at *
   have HOK := hide hok
   clear hok
   generalize r.1 = rl at *
   generalize r.2.toNat = rc at *
   go_upto_region 4 with (with_reducible refine wpList_load_at rfl 83 (.tmp 11) rfl (ad.add (i * 2)) rfl [.int .i64 rl, .int .u8 (rc : Int)] _ HEC.out Tryd.underlying83 rfl ?c1 ?_)
   case c1 => exact symInfo
   refine name_world fun X hX => ?_
   have HX5 := hide (show Blk X wd.heap.size 83 #[.int .i64 rl, .int .u8 (rc : Int)] by rw [← hX.out]; exact Blk.new wd _ _)
   have HXB := hide (show Below wd.heap.size wd X by rw [← hX.out]; exact below_alloc wd _)
   have HXV := hide (show Below w.heap.size w X from HB.out.trans (HXB.out.mono HB.out.size))
   have f0 : X.cell? ⟨wd.heap.size, 0, none⟩ = some (.int .i64 rl) := HX5.out.cell 0
   have f1 : X.cell? ⟨wd.heap.size, 1, none⟩ = some (.int .u8 (rc : Int)) := HX5.out.cell 1
   have C1 := hide (C.out X)
   clear hX C
   cases ok with
   | true =>
    have HT2 := hide (show (rs.take (i + 1)).all Tb.symOk = true by rw [HTS.out, HT.out]; rfl)
    clear HTS HBAD HOK HRES
    go_wp2_with (go_at_call 40; refine (unhide C1).mono ?_; rintro e w1 ⟨rfl, hb1⟩; have B1 := hide (HXV.out.trans (hb1.mono HXV.out.size)); clear hb1)
    exact ⟨⟨i + 1, HLT.out, by go_num, HT2, B1.out⟩, by have := HLT.out; simp [intOf]; omega⟩
   | false =>
    have HF := hide (show res = false by rw [← HRES.out]; exact HBAD.out rfl)
    clear HTS HBAD HOK HRES HT
    go_wp2_with (go_at_call 40; refine (unhide C1).mono ?_; rintro e w1 ⟨rfl, hb1⟩; have B1 := hide (HXV.out.trans (hb1.mono HXV.out.size)); clear hb1)
    go_ret
    exact ⟨by rw [HF.out]; rfl, B1.out⟩
  ·obtain rfl : i = n := by omega
   have HF := hide (show res = true by
    rw [← HRES.out]
    have h := HT.out
    rwa [List.take_of_length_le (by have := HN.out; omega)] at h)
   have hnt : ¬ ((i : Int) < (i : Int)) := by omega
   clear HRES HT hlt hbel
   go_wp2
   go_ret
   exact ⟨by rw [HF.out]; rfl, HB.out⟩
set_option maxHeartbeats 4000000 in
set_option maxRecDepth 100000 in
theorem inside_any (A : Option Addr) (c : Nat) (l : Tb.Text) (p : Nat) (w : World) (hr : TextAt w w.heap.size A l) (hp : p ≤ l.length) :
  Calls Tryd.prog 76 #[.slice A l.length c, .int .i64 (p : Int)] w fun e w' => e = .returned (.bool (Tb.inside l p)) ∧ Below w.heap.size w w' := by
 have HI := hide (show Tb.inside l p = (decide (0 < p ∧ p < l.length) && decide ((Tb.at_ l (p - 1)).1 = (Tb.at_ l p).1) && Tb.letter (Tb.at_ l (p - 1)).2 && Tb.letter (Tb.at_ l p).2) from rfl)
 have hbig := hr.2
 have HW := hide (Below.refl w.heap.size w)
 by_cases h0 : p = 0
 ·subst h0
  have HF := hide (show Tb.inside l 0 = false by rw [HI.out]; rfl)
  generalize Tb.inside l 0 = res at *
  generalize l.length = n at *
  rw [show ((0 : Nat) : Int) = 0 from rfl]
  clear HI hr hp
  go_enter Tryd.func76, Tryd.ntmps76
  go_wp2
  go_quiet (fail)
  go_wp2
  go_ret
  exact ⟨by rw [HF.out]; rfl, below_drewN HW.out _⟩
 ·by_cases h1 : p = l.length
  ·have HF := hide (show Tb.inside l p = false by rw [HI.out, decide_eq_false (by omega)]; rfl)
   generalize Tb.inside l p = res at *
   rw [← h1]
   have d0 : decide (p = 0) = false := decide_eq_false h0
   clear HI hr hp h1 h0
   go_enter Tryd.func76, Tryd.ntmps76
   go_wp2
   go_quiet (fail)
   go_wp2
   go_ret
   exact ⟨by rw [HF.out]; rfl, below_drewN HW.out _⟩
  ·obtain ⟨q, rfl⟩ : ∃ q, p = q + 1 := ⟨p - 1, by omega⟩
   obtain ⟨ad, rfl, hadb, hc0, hc1⟩ := reads_sym' hr q (by omega)
   obtain ⟨ad', he, _, hc2, hc3⟩ := reads_sym' hr (q + 1) (by omega)
   injection he with he
   subst he
   have HI2 := hide (show Tb.inside l (q + 1) = (decide ((Tb.at_ l q).1 = (Tb.at_ l (q + 1)).1) && Tb.letter (Tb.at_ l q).2 && Tb.letter (Tb.at_ l (q + 1)).2) by rw [HI.out, decide_eq_true (by omega)]; simp)
   have CA := hide (fun W => letter_any (Tb.at_ l q).2 W)
   have CB := hide (fun W => letter_any (Tb.at_ l (q + 1)).2 W)
   clear HI
   unfold VC at CA CB
   generalize Tb.inside l (q + 1) = res at *
   generalize (Tb.low (Tb.at_ l q).2).toNat = sa at *
   generalize (Tb.low (Tb.at_ l (q + 1)).2).toNat = sb at *
   generalize Tb.capital (Tb.at_ l q).2 = ca at *
   generalize Tb.capital (Tb.at_ l (q + 1)).2 = cb at *
   generalize Tb.letter (Tb.at_ l q).2 = la at *
   generalize Tb.letter (Tb.at_ l (q + 1)).2 = lb at *
   generalize (Tb.at_ l q).2.toNat = na at *
   generalize (Tb.at_ l (q + 1)).2.toNat = nb at *
   generalize (Tb.at_ l q).1 = ga at *
   generalize (Tb.at_ l (q + 1)).1 = gb at *
   have hlt : (q : Int) + 1 < (l.length : Int) := by omega
   have hni : (l.length : Int) ≤ 1048576 := by omega
   generalize l.length = n at *
   have hq0 : (0 : Int) ≤ (q : Int) := by omega
   have hq1 : (q : Int) < (n : Int) := by omega
   have d0 : decide ((q : Int) + 1 ≤ 0) = false := decide_eq_false (by omega)
   have d1 : decide ((n : Int) ≤ (q : Int) + 1) = false := decide_eq_false (by omega)
   clear hr hp h0 h1 hbig hadb
   rw [show (((q + 1 : Nat)) : Int) = (q : Int) + 1 from rfl]
   by_cases hg : ga = gb
   ·subst hg
    have hne : (ga != ga) = false := by simp
    have HI3 := hide (show res = (la && lb) by rw [HI2.out]; simp)
    clear HI2
    go_enter Tryd.func76, Tryd.ntmps76
    go_wp2
    go_quiet (fail)
    cases la with
    | true =>
     go_wp2_with (go_at_call 63; first
      | (with_reducible refine (unhide CA _).mono ?_); rintro e w1 ⟨rfl, rfl⟩
      | (with_reducible refine (unhide CB _).mono ?_); rintro e w1 ⟨rfl, rfl⟩)
     go_ret
     exact ⟨by rw [HI3.out]; rfl, below_drewN HW.out _⟩
    | false =>
     go_wp2_with (go_at_call 63; first
      | (with_reducible refine (unhide CA _).mono ?_); rintro e w1 ⟨rfl, rfl⟩
      | (with_reducible refine (unhide CB _).mono ?_); rintro e w1 ⟨rfl, rfl⟩)
     go_ret
     exact ⟨by rw [HI3.out]; rfl, below_drewN HW.out _⟩
   ·have hne : (ga != gb) = true := by rw [bne_iff_ne]; exact hg
    have HF := hide (show res = false by rw [HI2.out, decide_eq_false hg]; rfl)
    clear HI2 hg
    go_enter Tryd.func76, Tryd.ntmps76
    go_wp2
    go_quiet (fail)
    go_wp2
    go_ret
    exact ⟨by rw [HF.out]; rfl, below_drewN HW.out _⟩
theorem run_index_S (s : List UInt8) (i : Nat) (h : i < s.length) (W : World) : (Instr.index 9 (.string (S s)) (.int .i64 (i : Int))).run Tryd.prog W = .ok (.int .u8 ((s.getD i 0).toNat : Int)) W := by
 have h' : (i : Int).toNat < (S s).size := by rw [S_size]; simpa using h
 have e : (S s)[(i : Int).toNat]'h' = s.getD i 0 := by
  rw [byteOf_S s _ (by simpa using h) h']
  simp [List.getD, h]
 rw [run_index_string W 9 (S s) .i64 (i : Int) Tryd.underlying9, dif_pos ⟨by omega, by rw [S_size]; omega⟩]
 exact congrArg (fun c : UInt8 => Result.ok (Value.int .u8 (c.toNat : Int)) W) e
theorem stands_take (s : List UInt8) (l : Tb.Text) (p i : Nat) : (List.range (i + 1)).all (Tb.standsAt s l p) = ((List.range i).all (Tb.standsAt s l p) && Tb.standsAt s l p i) := by
 rw [List.range_succ, List.all_append]
 simp
theorem u8_ne (a b : UInt8) : (((a.toNat : Nat) : Int) != ((b.toNat : Nat) : Int)) = !decide (a = b) := by
 by_cases h : a = b
 ·subst h; simp
 ·rw [decide_eq_false h]
  simp only [Bool.not_false, bne_iff_ne, ne_eq]
  intro h2
  exact h (UInt8.toNat_inj.1 (by omega))
theorem int_ne (a b : Int) : (a != b) = !decide (a = b) := by
 by_cases h : a = b <;> simp [h]
set_option maxHeartbeats 8000000 in
set_option maxRecDepth 100000 in
theorem stands_any (A : Option Addr) (c : Nat) (l : Tb.Text) (s : List UInt8) (p : Nat) (w : World) (hr : TextAt w w.heap.size A l) (hp : p < l.length) (hc : l.length ≤ c) (hs1 : 1 ≤ s.length) (hs2 : s.length ≤ 1048576) :
  Calls Tryd.prog 78 #[.string (S s), .slice A l.length c, .int .i64 (p : Int)] w fun e w' => e = .returned (.bool (Tb.stands s l p)) ∧ Below w.heap.size w w' := by
 have HI := hide (show Tb.stands s l p = (decide (p + s.length ≤ l.length) && (List.range s.length).all (Tb.standsAt s l p)) from rfl)
 have hbig := hr.2
 have HW := hide (Below.refl w.heap.size w)
 have HR := hide hr
 have HSZ := hide (S_size s)
 obtain ⟨ad, rfl, hadb, hcl, _⟩ := reads_sym' hr p hp
 clear hr
 generalize hn : l.length = n at *
 obtain ⟨m, hm⟩ : ∃ m, m = s.length := ⟨_, rfl⟩
 have HN := hide hn
 have HM := hide hm
 rw [← hm] at HI hs1 hs2
 clear hn
 generalize Tb.stands s l p = res at *
 have hw1 : wrap64 ((n : Int) - (p : Int)) = (n : Int) - (p : Int) := by unfold wrap64; omega
 by_cases hlong : (n : Int) - (p : Int) < (m : Int)
 ·have HF := hide (show res = false by rw [HI.out, decide_eq_false (by omega)]; rfl)
  have hsz : ((S s).size : Int) = (m : Int) := by rw [HSZ.out, ← hm]
  clear hm
  clear hcl HI
  generalize S s = sv at *
  go_enter Tryd.func78, Tryd.ntmps78
  go_wp2
  go_ret
  exact ⟨by rw [HF.out]; rfl, HW.out⟩
 ·have HI2 := hide (show res = (List.range m).all (Tb.standsAt s l p) by rw [HI.out, decide_eq_true (by omega), Bool.true_and])
  have hsz : (S s).size = m := by rw [HSZ.out, ← hm]
  have hpm : p + m ≤ n := by omega
  have hw2 : wrap64 ((p : Int) + (m : Int)) = (p : Int) + (m : Int) := by unfold wrap64; omega
  have hcp : ¬ c = p := by omega
  have hlo1 : (0 : Int) ≤ (p : Int) := by omega
  have hlo2 : (p : Int) ≤ (p : Int) + (m : Int) := by omega
  have hlo3 : (p : Int) + (m : Int) ≤ (c : Int) := by omega
  clear hm HI hlong
  have HSX := hide (fun (i : Nat) (hi : i < m) (W : World) => run_index_S s i (by have := HM.out; omega) W)
  generalize hsv : S s = sv at *
  have HSV := hide hsv
  clear hsv
  go_enter Tryd.func78, Tryd.ntmps78
  go_wp2
  rw [Nat.add_sub_cancel_left]
  go_loopw [24] (fun q wr => ∃ i : Nat, i ≤ m ∧ q = .int .i64 (i : Int) ∧ Hid ((List.range i).all (Tb.standsAt s l p) = true) ∧ Below w.heap.size w wr) (fun q _ => m - (intOf q).toNat)
  case atStart => exact ⟨0, by omega, rfl, rfl, HW.out⟩
  case round =>
   obtain ⟨i, hi, rfl, HT, hbel⟩ := hrel
   obtain ⟨wd, rfl⟩ : ∃ wd, wd = wr := ⟨wr, rfl⟩
   have HB := hide hbel
   by_cases hlt : i < m
   ·obtain ⟨ad', he, _, hd0, hd1⟩ := reads_sym HR.out (p + i) (by rw [HN.out]; omega)
    injection he with he
    subst he
    have HEC := hide (show ∀ (j : Nat) (v : Value), ([.int .i64 (Tb.at_ l (p + i)).1, .int .u8 ((Tb.at_ l (p + i)).2.toNat : Int)] : List Value)[j]? = some v → wd.cell? (((ad.add (p * 2)).add (i * 2)).add j) = some v from fun j v hv => by
     rw [add_of_add ad (p * 2) (i * 2), show p * 2 + i * 2 = (p + i) * 2 by omega]
     exact sym_cells (Tb.at_ l (p + i)) wd ad (p + i) (by rw [HB.out.cell (by rw [block_of_add]; exact hadb)]; exact hd0) (by rw [HB.out.cell (by rw [block_of_add]; exact hadb)]; exact hd1) j v hv)
    have hi0 : (0 : Int) ≤ (i : Int) := by omega
    have hi2 : (i : Int) < (m : Int) := by omega
    have hix := fun W => HSX.out i hlt W
    have HLT := hide hlt
    have HTS := hide (stands_take s l p i)
    have HSA := hide (show Tb.standsAt s l p i = (decide ((if i = 0 then Tb.low (Tb.at_ l (p + i)).2 else (Tb.at_ l (p + i)).2) = s.getD i 0) && decide ((Tb.at_ l (p + i)).1 = (Tb.at_ l p).1)) from rfl)
    have HBAD := hide (show Tb.standsAt s l p i = false → res = false by
     intro h
     rw [HI2.out, List.all_eq_false]
     exact ⟨i, List.mem_range.2 hlt, by rw [h]; decide⟩)
    have CL := hide (fun W => letter_any (Tb.at_ l (p + i)).2 W)
    unfold VC at CL
    clear hd0 hd1 hlt hbel HSX
    generalize Tb.standsAt s l p i = ok at *
    generalize s.getD i 0 = sc at *
    generalize Tb.letter (Tb.at_ l (p + i)).2 = le at *
    generalize Tb.capital (Tb.at_ l (p + i)).2 = ca at *
    generalize hlow : Tb.low (Tb.at_ l (p + i)).2 = lo at *
    generalize (Tb.at_ l (p + i)).2 = cc at *
    generalize (Tb.at_ l (p + i)).1 = li at *
    generalize (Tb.at_ l p).1 = lp at *
    clear hlow
    go_upto_region 6 with (with_reducible refine wpList_load_at rfl 83 (.tmp 27) rfl ((ad.add (p * 2)).add (i * 2)) rfl [.int .i64 li, .int .u8 (cc.toNat : Int)] _ HEC.out Tryd.underlying83 rfl ?c1 ?_)
    case c1 => exact symInfo
    refine name_world fun X hX => ?_
    have XB := hide (show Blk X wd.heap.size 83 #[.int .i64 li, .int .u8 (cc.toNat : Int)] by rw [← hX.out]; exact Blk.new wd _ _)
    have HXB := hide (show Below wd.heap.size wd X by rw [← hX.out]; exact below_alloc wd _)
    have HXV := hide (show Below w.heap.size w X from HB.out.trans (HXB.out.mono HB.out.size))
    have hXc : X.cell? (ad.add (p * 2)) = some (.int .i64 lp) := by rw [HXV.out.cell (by rw [block_of_add]; exact hadb)]; exact hcl
    have hgx : w.heap.size ≤ wd.heap.size := HB.out.size
    have hgxX := XB.out.lt
    clear hX HEC
    by_cases hz : i = 0
    ·have hze : ((i : Int) == 0) = true := by rw [hz]; rfl
     have HSA2 := hide (show ok = (decide (lo = sc) && decide (li = lp)) by rw [HSA.out, if_pos hz])
     have f1 : X.cell? ⟨wd.heap.size, 1, none⟩ = some (.int .u8 (cc.toNat : Int)) := XB.out.cell 1
     have fz : X.frozen? ⟨wd.heap.size, 1, none⟩ = false := XB.out.frozen 1
     have CLX := hide (CL.out X)
     clear HSA CL hz
     go_upto_region 8 with (go_at_call 63; refine (unhide CLX).mono ?_; rintro e w1 ⟨rfl, rfl⟩)
     refine name_world fun Z hZ => ?_
     have ZB := hide (show Blk Z wd.heap.size 83 #[.int .i64 li, .int .u8 (lo.toNat : Int)] by rw [← hZ.out]; exact XB.out.set_ 1 _)
     have ZW := hide (show Below w.heap.size w Z by rw [← hZ.out]; exact HXV.out.setCell hgx _)
     have hzc : Z.cell? (ad.add (p * 2)) = some (.int .i64 lp) := by rw [ZW.out.cell (by rw [block_of_add]; exact hadb)]; exact hcl
     clear f1 fz hXc hZ CLX
     have z0 : Z.cell? ⟨wd.heap.size, 0, none⟩ = some (.int .i64 li) := ZB.out.cell 0
     have z1 : Z.cell? ⟨wd.heap.size, 1, none⟩ = some (.int .u8 (lo.toNat : Int)) := ZB.out.cell 1
     have hzi : ∀ k, (Instr.index 9 (.string sv) (.int .i64 (i : Int))).run Tryd.prog (Z.drewN k) = .ok (.int .u8 (sc.toNat : Int)) (Z.drewN k) := fun k => hix _
     have E1 := hide (u8_ne lo sc)
     have E2 := hide (int_ne li lp)
     generalize wd.heap.size = gw at *
     by_cases e1 : lo = sc
     ·have E1' := E1.out
      rw [decide_eq_true e1] at E1'
      by_cases e2 : li = lp
      ·have E2' := E2.out
       rw [decide_eq_true e2] at E2'
       have HOK := hide (show (List.range (i + 1)).all (Tb.standsAt s l p) = true by rw [HTS.out, HT.out, HSA2.out, decide_eq_true e1, decide_eq_true e2]; rfl)
       clear E1 E2 HSA2 HBAD HTS HT e1 e2
       generalize (lo.toNat : Int) = cv at *
       generalize (sc.toNat : Int) = scv at *
       go_wp2
       go_quiet (fail)
       go_wp2
       exact ⟨⟨i + 1, HLT.out, by go_num, HOK, below_drewN ZW.out _⟩, by have := HLT.out; simp [intOf]; omega⟩
      ·have E2' := E2.out
       rw [decide_eq_false e2] at E2'
       have HF := hide (show res = false from HBAD.out (by rw [HSA2.out, decide_eq_false e2, Bool.and_false]))
       clear E1 E2 HSA2 HBAD HTS HT e1 e2
       generalize (lo.toNat : Int) = cv at *
       generalize (sc.toNat : Int) = scv at *
       go_wp2
       go_quiet (fail)
       go_wp2
       go_ret
       exact ⟨by rw [HF.out]; rfl, below_drewN ZW.out _⟩
     ·have E1' := E1.out
      rw [decide_eq_false e1] at E1'
      have HF := hide (show res = false from HBAD.out (by rw [HSA2.out, decide_eq_false e1, Bool.false_and]))
      clear E1 E2 HSA2 HBAD HTS HT e1
      generalize (lo.toNat : Int) = cv at *
      generalize (sc.toNat : Int) = scv at *
      go_wp2
      go_quiet (fail)
      go_wp2
      go_ret
      exact ⟨by rw [HF.out]; rfl, below_drewN ZW.out _⟩
    ·have hze : ((i : Int) == 0) = false := by rw [beq_eq_false_iff_ne]; omega
     have HSA2 := hide (show ok = (decide (cc = sc) && decide (li = lp)) by rw [HSA.out, if_neg hz])
     clear HSA CL hz
     obtain ⟨Z, hZ⟩ : ∃ Z, Z = X := ⟨_, rfl⟩
     rw [← hZ] at XB HXV hXc hgxX HXB ⊢
     have ZB := XB
     have ZW := HXV
     have hzc := hXc
     clear hZ XB HXV hXc
     have z0 : Z.cell? ⟨wd.heap.size, 0, none⟩ = some (.int .i64 li) := ZB.out.cell 0
     have z1 : Z.cell? ⟨wd.heap.size, 1, none⟩ = some (.int .u8 (cc.toNat : Int)) := ZB.out.cell 1
     have hzi : ∀ k, (Instr.index 9 (.string sv) (.int .i64 (i : Int))).run Tryd.prog (Z.drewN k) = .ok (.int .u8 (sc.toNat : Int)) (Z.drewN k) := fun k => hix _
     have E1 := hide (u8_ne cc sc)
     have E2 := hide (int_ne li lp)
     generalize wd.heap.size = gw at *
     by_cases e1 : cc = sc
     ·have E1' := E1.out
      rw [decide_eq_true e1] at E1'
      by_cases e2 : li = lp
      ·have E2' := E2.out
       rw [decide_eq_true e2] at E2'
       have HOK := hide (show (List.range (i + 1)).all (Tb.standsAt s l p) = true by rw [HTS.out, HT.out, HSA2.out, decide_eq_true e1, decide_eq_true e2]; rfl)
       clear E1 E2 HSA2 HBAD HTS HT e1 e2
       generalize (cc.toNat : Int) = cv at *
       generalize (sc.toNat : Int) = scv at *
       go_wp2
       go_quiet (fail)
       go_wp2
       exact ⟨⟨i + 1, HLT.out, by go_num, HOK, below_drewN ZW.out _⟩, by have := HLT.out; simp [intOf]; omega⟩
      ·have E2' := E2.out
       rw [decide_eq_false e2] at E2'
       have HF := hide (show res = false from HBAD.out (by rw [HSA2.out, decide_eq_false e2, Bool.and_false]))
       clear E1 E2 HSA2 HBAD HTS HT e1 e2
       generalize (cc.toNat : Int) = cv at *
       generalize (sc.toNat : Int) = scv at *
       go_wp2
       go_quiet (fail)
       go_wp2
       go_ret
       exact ⟨by rw [HF.out]; rfl, below_drewN ZW.out _⟩
     ·have E1' := E1.out
      rw [decide_eq_false e1] at E1'
      have HF := hide (show res = false from HBAD.out (by rw [HSA2.out, decide_eq_false e1, Bool.false_and]))
      clear E1 E2 HSA2 HBAD HTS HT e1
      generalize (cc.toNat : Int) = cv at *
      generalize (sc.toNat : Int) = scv at *
      go_wp2
      go_quiet (fail)
      go_wp2
      go_ret
      exact ⟨by rw [HF.out]; rfl, below_drewN ZW.out _⟩
   ·obtain rfl : i = m := by omega
    have HF := hide (show res = true by rw [HI2.out]; exact HT.out)
    have hnt : ¬ ((i : Int) < (i : Int)) := by omega
    clear HT hlt hbel HSX HI2
    go_wp2
    go_ret
    exact ⟨by rw [HF.out]; rfl, HB.out⟩
def fitF (g0 g1 g2 : Nat) : Value := .func (.func 77) #[] #[.pointer (some ⟨g0, 0, none⟩), .pointer (some ⟨g1, 0, none⟩), .pointer (some ⟨g2, 0, none⟩)]
structure FitAt (w : World) (B g0 g1 g2 : Nat) (A : Option Addr) (n c p : Nat) (b : Bool) : Prop where
 l0 : Blk w g0 46 #[.slice A n c]
 l1 : Blk w g1 3 #[.int .i64 (p : Int)]
 l2 : Blk w g2 4 #[.bool b]
 b0 : B ≤ g0
 b1 : B ≤ g1
 b2 : B ≤ g2
theorem FitAt.below {w w' : World} {B B' g0 g1 g2 : Nat} {A : Option Addr} {n c p : Nat} {b : Bool} (h : FitAt w B g0 g1 g2 A n c p b) (hb : Below B' w w') (h0 : g0 < B') (h1 : g1 < B') (h2 : g2 < B') : FitAt w' B g0 g1 g2 A n c p b :=
 ⟨h.l0.below hb h0, h.l1.below hb h1, h.l2.below hb h2, h.b0, h.b1, h.b2⟩
set_option maxHeartbeats 2000000 in
set_option maxRecDepth 100000 in
theorem fitting_any (A : Option Addr) (c : Nat) (l : Tb.Text) (p : Nat) (w : World) (hr : TextAt w w.heap.size A l) (hp : p < l.length) :
  Calls Tryd.prog 64 #[.slice A l.length c, .int .i64 (p : Int)] w fun e w' => ∃ g0 g1 g2, e = .returned (fitF g0 g1 g2) ∧ FitAt w' w.heap.size g0 g1 g2 A l.length c p (!Tb.inside l p) ∧ Below w.heap.size w w' := by
 have CI := hide (fun (W : World) (hb : Below w.heap.size w W) => inside_any A c l p W (hr.same hb) (by omega))
 generalize Tb.inside l p = ins at *
 generalize l.length = n at *
 clear hr hp
 go_enter Tryd.func64, Tryd.ntmps64
 go_upto_region 1 with fail
 refine name_world fun V hV => ?_
 have V0 := hide (show Blk V w.heap.size 46 #[.slice A n c] by rw [← hV.out]; exact (Blk.new w _ _).alloc _)
 have V1 := hide (show Blk V (w.heap.size + 1) 3 #[.int .i64 (p : Int)] by
  rw [← hV.out]
  have := Blk.new (w.alloc (.cells #[.slice A n c] 46)) 3 #[.int .i64 (p : Int)]
  rwa [show (w.alloc (.cells #[.slice A n c] 46)).heap.size = w.heap.size + 1 by simp] at this)
 have HV := hide (show Below w.heap.size w V by rw [← hV.out]; exact ((Below.refl _ _).alloc (Nat.le_refl _) _).alloc (by simp) _)
 have hgV := V1.out.lt
 have c0 : V.cell? ⟨w.heap.size, 0, none⟩ = some (.slice A n c) := V0.out.cell 0
 have c1 : V.cell? ⟨w.heap.size + 1, 0, none⟩ = some (.int .i64 (p : Int)) := V1.out.cell 0
 have C := hide (CI.out V HV.out)
 clear hV
 go_upto_region 2 with (go_at_call 76; refine (unhide C).mono ?_; rintro e w1 ⟨rfl, hb1⟩; have B1 := hide hb1; clear hb1)
 refine name_world fun X hX => ?_
 have X2 := hide (show Blk X w1.heap.size 4 #[.bool (!ins)] by rw [← hX.out]; exact Blk.new w1 _ _)
 have HX := hide (show Below w1.heap.size w1 X by rw [← hX.out]; exact below_alloc w1 _)
 have X0 := hide ((V0.out.below B1.out (by omega)).below HX.out (by have := B1.out.size; omega))
 have X1 := hide ((V1.out.below B1.out hgV).below HX.out (by have := B1.out.size; omega))
 have HW := hide ((HV.out.trans (B1.out.mono HV.out.size)).trans (HX.out.mono (by have := B1.out.size; omega)))
 have hs1 := B1.out.size
 clear hX c0 c1
 go_wp2
 go_ret
 exact ⟨w.heap.size, w.heap.size + 1, w1.heap.size, rfl, ⟨X0.out, X1.out, X2.out, by omega, by omega, by omega⟩, HW.out⟩
theorem Tb.stands_le {s : List UInt8} {l : Tb.Text} {p : Nat} (h : Tb.stands s l p = true) : p + s.length ≤ l.length := by
 unfold Tb.stands at h
 rw [Bool.and_eq_true] at h
 exact of_decide_eq_true h.1
set_option maxHeartbeats 4000000 in
set_option maxRecDepth 100000 in
theorem fit_any (g0 g1 g2 : Nat) (A : Option Addr) (c : Nat) (l : Tb.Text) (p : Nat) (r : Tb.Rl) (w : World) (hr : TextAt w w.heap.size A l) (hp : p < l.length) (hc : l.length ≤ c) (hs1 : 1 ≤ r.text.length) (hs2 : r.text.length ≤ 1048576)
  (B : Nat) (hF : FitAt w B g0 g1 g2 A l.length c p (!Tb.inside l p)) :
  Calls Tryd.prog 77 #[.agg #[.string (S r.text), .int .i64 r.wh, .slice r.cells.ad r.cells.l.length r.cells.c], .pointer (some ⟨g0, 0, none⟩), .pointer (some ⟨g1, 0, none⟩), .pointer (some ⟨g2, 0, none⟩)] w
   fun e w' => e = .returned (.bool (Tb.fits r l p)) ∧ Below w.heap.size w w' := by
 have HF := hide (show Tb.fits r l p = (Tb.stands r.text l p && Tb.whereOk r.wh (Tb.inside l p) (Tb.inside l (p + r.text.length))) from rfl)
 have HWO := hide (fun (b e : Bool) => (show Tb.whereOk r.wh b e = if r.wh = 1 then !b && !e else if r.wh = 2 then !b && e else if r.wh = 3 then b else true from rfl))
 have CS := hide (fun (W : World) (hb : Below w.heap.size w W) => stands_any A c l r.text p W (hr.same hb) hp hc hs1 hs2)
 have CI := hide (fun (hle : p + r.text.length ≤ l.length) (W : World) (hb : Below w.heap.size w W) => inside_any A c l (p + r.text.length) W (hr.same hb) hle)
 have HLE := hide (fun (h : Tb.stands r.text l p = true) => Tb.stands_le h)
 have HSZ := S_size r.text
 have hbig := hr.2
 obtain ⟨T, wh, ⟨cl, ca, cc⟩⟩ := r
 simp only [] at *
 generalize Tb.fits _ l p = res at *
 generalize Tb.stands T l p = st at *
 generalize Tb.inside l p = ins at *
 generalize Tb.inside l (p + T.length) = ine at *
 generalize S T = sv at *
 generalize T.length = m at *
 generalize l.length = n at *
 generalize cl.length = cn at *
 have hg0 := hF.l0.lt
 have hg1 := hF.l1.lt
 have hg2 := hF.l2.lt
 have FA := hide hF
 clear hr hF
 go_enter Tryd.func77, Tryd.ntmps77
 go_upto_region 1 with fail
 refine name_world fun X hX => ?_
 have XB := hide (show Blk X w.heap.size 45 #[.string sv, .int .i64 wh, .slice ca cn cc] by rw [← hX.out]; exact Blk.new w _ _)
 have HX := hide (show Below w.heap.size w X by rw [← hX.out]; exact below_alloc w _)
 have XF := hide (FA.out.below HX.out hg0 hg1 hg2)
 have hgX := XB.out.lt
 have e0 : X.cell? ⟨w.heap.size, 0, none⟩ = some (.string sv) := XB.out.cell 0
 have e1 : X.cell? ⟨w.heap.size, 1, none⟩ = some (.int .i64 wh) := XB.out.cell 1
 have a0 : X.cell? ⟨g0, 0, none⟩ = some (.slice A n c) := XF.out.l0.cell 0
 have a1 : X.cell? ⟨g1, 0, none⟩ = some (.int .i64 (p : Int)) := XF.out.l1.cell 0
 have C := hide (CS.out X HX.out)
 clear hX FA CS
 cases st with
 | false =>
  have HR := hide (show res = false by rw [HF.out]; rfl)
  clear HF HWO CI HLE
  go_wp2_with (go_at_call 78; refine (unhide C).mono ?_; rintro e w1 ⟨rfl, hb1⟩; have B1 := hide (HX.out.trans (hb1.mono HX.out.size)); clear hb1)
  go_ret
  exact ⟨by rw [HR.out]; rfl, B1.out⟩
 | true =>
  have hle := HLE.out rfl
  have HR := hide (show res = if wh = 1 then !ins && !ine else if wh = 2 then !ins && ine else if wh = 3 then ins else true by rw [HF.out, HWO.out]; rfl)
  have CI2 := hide (CI.out hle)
  have hpm : ((p + m : Nat) : Int) = (p : Int) + (m : Int) := by omega
  rw [hpm] at CI2
  have hni : (n : Int) ≤ 1048576 := by omega
  have hpi : (p : Int) + (m : Int) ≤ 1048576 := by omega
  clear HF HWO CI HLE hpm
  go_upto_region 3 with (go_at_call 78; refine (unhide C).mono ?_; rintro e w1 ⟨rfl, hb1⟩; have B1 := hide hb1; clear hb1)
  have YB := XB.out.below B1.out hgX
  have hb1s := B1.out.size
  have YF := XF.out.below B1.out (by omega) (by omega) (by omega)
  have HY := hide (HX.out.trans (B1.out.mono HX.out.size))
  clear e0 e1 a0 a1
  have e0 : w1.cell? ⟨w.heap.size, 0, none⟩ = some (.string sv) := YB.cell 0
  have a0 : w1.cell? ⟨g0, 0, none⟩ = some (.slice A n c) := YF.l0.cell 0
  have a1 : w1.cell? ⟨g1, 0, none⟩ = some (.int .i64 (p : Int)) := YF.l1.cell 0
  have C2 := hide (CI2.out w1 HY.out)
  have YBH := hide YB
  have YFH := hide YF
  clear YB YF CI2
  go_upto_region 4 with (go_at_call 76; refine (unhide C2).mono ?_; rintro e w2 ⟨rfl, hb2⟩; have B2 := hide hb2; clear hb2)
  have ZB := YBH.out.below B2.out (by omega)
  have ZF := YFH.out.below B2.out (by omega) (by omega) (by omega)
  have HZ := hide (HY.out.trans (B2.out.mono HY.out.size))
  clear e0 a0 a1
  have e1 : w2.cell? ⟨w.heap.size, 1, none⟩ = some (.int .i64 wh) := ZB.cell 1
  have a2 : w2.cell? ⟨g2, 0, none⟩ = some (.bool (!ins)) := ZF.l2.cell 0
  clear ZB ZF YBH YFH
  by_cases h1 : wh = 1
  ·subst h1
   cases ins <;> cases ine <;>
   ·go_wp2
    go_ret
    exact ⟨by rw [HR.out]; rfl, HZ.out⟩
  ·have n1 : (wh == 1) = false := by rw [beq_eq_false_iff_ne]; exact h1
   by_cases h2 : wh = 2
   ·subst h2
    cases ins <;> cases ine <;>
    ·go_wp2
     go_ret
     exact ⟨by rw [HR.out]; rfl, HZ.out⟩
   ·have n2 : (wh == 2) = false := by rw [beq_eq_false_iff_ne]; exact h2
    by_cases h3 : wh = 3
    ·subst h3
     cases ins <;>
     ·go_wp2
      go_ret
      exact ⟨by rw [HR.out]; rfl, HZ.out⟩
    ·have n3 : (wh == 3) = false := by rw [beq_eq_false_iff_ne]; exact h3
     have HR2 := hide (show res = true by rw [HR.out, if_neg h1, if_neg h2, if_neg h3])
     clear HR
     go_wp2
     go_ret
     exact ⟨by rw [HR2.out]; rfl, HZ.out⟩
theorem byteInfo' : (Tryd.prog.info? 5).map (fun i => (i.zero, i.size, i.bytes)) = some (some (.int .u8 0), 1, 1) := by kernel_rfl
theorem bs_of_own {w : World} {b n : Nat} {v : Value} {l : List UInt8} (h : w.ownsRow b 5 1 v n (BV l)) (hl : l.length ≤ 1048576) :
  ∃ A c, v = .slice A l.length c ∧ BsAt w w.heap.size ⟨l, A, c⟩ ∧ ∀ a, A = some a → b ≤ a.block := by
 obtain ⟨A, c, rfl, hnc, _⟩ := own_slice h
 have hn : n = l.length := by have := h.1; rw [BV_len] at this; omega
 subst hn
 refine ⟨A, c, rfl, ⟨Reads.of_own h, hnc, hl⟩, fun a ha => ?_⟩
 subst ha
 rcases h.2 with ⟨h0, _⟩ | ⟨g, cap, cur, hv, hb, _⟩
 ·cases h0
 ·injection hv with hv
  injection hv with hv
  subst hv
  exact hb
set_option maxHeartbeats 2000000 in
set_option maxRecDepth 100000 in
theorem clone_any (ad : Addr) (c : Nat) (l : List UInt8) (w : World) (hr : Reads w w.heap.size 1 (some ad) l.length (BV l)) (hl : l.length ≤ 1048576) :
  Calls Tryd.prog 42 #[.slice (some ad) l.length c] w fun e w' => ∃ A c', e = .returned (.slice A l.length c') ∧ BsAt w' w'.heap.size ⟨l, A, c'⟩ ∧ Below w.heap.size w w' := by
 obtain ⟨i0, hi, hz0, hz1, hz2⟩ := info_parts byteInfo'
 have HI := hide hi
 have HZ0 := hide hz0
 have HZ1 := hide hz1
 have HZ2 := hide hz2
 have HR := hide (fun (W : World) (hb : Below w.heap.size w W) => (hr.below hb).more hb.size)
 have q22 : ∀ (w : World) (a : Option Addr) (n c n' c' : Nat), (binOp .eql 23 (.slice a n c) (.slice none n' c')).run Tryd.prog w = .ok (.bool a.isNone) w := fun w a n c n' c' => Lib.run_eql_slice_nil w _ _ a n c n' c' Tryd.underlying23
 obtain ⟨n, hn⟩ : ∃ n, n = l.length := ⟨_, rfl⟩
 have HN := hide hn
 rw [← hn] at HR hl ⊢
 clear hi hz0 hz1 hz2 hr hn
 go_enter Tryd.func42, Tryd.ntmps42
 go_wp2_with (at_builtin; refine wpList_append_any _ rfl (.tmp 5) (.tmp 6) 23 rfl w.heap.size 5 i0 (.int .u8 0) 1 1 Tryd.underlying23 HI.out HZ0.out HZ1.out HZ2.out rfl (by omega) _ 0 [] rfl (own_empty w) _ (some ad) n c (BV l) rfl (HR.out _ (below_alloc w _)) (BV_one l) (by unfold maxLen; omega) (by omega) (by simp) ?_; intro v2 w2 hown2 hgrow2 hat2; have HO2 := hide hown2; have HB2 := hide ((below_alloc w _).trans (below_grown hgrow2 (own_empty w) (by simp))); clear hown2 hgrow2 hat2)
 go_ret
 have ho := HO2.out
 simp only [List.nil_append] at ho
 obtain ⟨A, c', rfl, hbs, _⟩ := bs_of_own ho (by have := HN.out; omega)
 exact ⟨A, c', by have := HN.out; subst this; rfl, hbs, HB2.out⟩
set_option maxHeartbeats 2000000 in
set_option maxRecDepth 100000 in
theorem grow_any (n : Nat) (w : World) (h1 : 1 ≤ n) (h2 : n ≤ 1048576) :
  Calls Tryd.prog 79 #[.slice none 0 0, .int .i64 (n : Int)] w fun e w' => ∃ v, e = .returned v ∧ w'.ownsRow w.heap.size 5 1 v 0 [] ∧ Below w.heap.size w w' := by
 obtain ⟨i0, hi, hz0, hz1, hz2⟩ := info_parts byteInfo'
 have hrz : ∀ ty, (Builtin.append_ #[23, 3] ty #[.slice none 0 0, .int .i64 (n : Int)]).run Tryd.prog w = .ok (.slice (some ⟨w.heap.size, 0, none⟩) (0 + n) (grownCap w (0 + n) 0 5))
   (w.drew.alloc (.cells (([] : List Value).toArray ++ Builtin.zeroCells (Value.int .u8 0).cells n ++ Builtin.zeroCells (Value.int .u8 0).cells (grownCap w (0 + n) 0 5 - (0 + n))) 5)) := fun ty => by
  exact Lib.run_append_grow_zeros (P := Tryd.prog) w 23 3 ty 5 i0 (.int .u8 0) .i64 .i64 Tryd.underlying23 Tryd.underlying3 hi hz0 none 0 0 []
   (run_firstCells_none w.drew i0.size 0 0 0) n (by omega) (by rw [hz1]; omega) (by omega) (by omega) (by rw [hz2]; omega) (by
    rw [hz2]
    unfold Builtin.nextslicecap
    rw [if_pos (by omega)]
    omega)
 have hge := grownCap_ge w (0 + n) 0 5
 have hcm : grownCap w (0 + n) 0 5 ≤ maxLen := grownCap_le_maxLen w (0 + n) 0 5 (by unfold maxLen; omega)
 have HOWN := hide (show (w.drew.alloc (.cells (([] : List Value).toArray ++ Builtin.zeroCells (Value.int .u8 0).cells n ++ Builtin.zeroCells (Value.int .u8 0).cells (grownCap w (0 + n) 0 5 - (0 + n))) 5)).ownsRow w.heap.size 5 1 (.slice (some ⟨w.heap.size, 0, none⟩) 0 (grownCap w (0 + n) 0 5)) 0 [] from
  ⟨rfl, .inr ⟨w.heap.size, _, _, rfl, Nat.le_refl _, heap_alloc_new w.drew _, Nat.zero_le _, hcm, by
   simp only [Array.size_append, List.size_toArray, size_zeroCells, List.length_nil]
   show 0 + n * 1 + _ * 1 = _ * 1
   omega, rfl⟩⟩)
 have HB := hide (show Below w.heap.size w (w.drew.alloc (.cells (([] : List Value).toArray ++ Builtin.zeroCells (Value.int .u8 0).cells n ++ Builtin.zeroCells (Value.int .u8 0).cells (grownCap w (0 + n) 0 5 - (0 + n))) 5)) from below_drawn (below_alloc w.drew _))
 have h3 : ¬ ((n : Int) < 0) := by omega
 have h6 : (0 : Int) < (n : Int) := by omega
 have h8 : (n : Int) ≤ 1048576 := by omega
 clear hi hz0 hz1 hz2 hcm hge h1 h2
 generalize w.drew.alloc _ = V at *
 generalize grownCap w (0 + n) 0 5 = cap at *
 go_enter Tryd.func79, Tryd.ntmps79
 go_wp2_with (at_builtin; refine Lib.wpList_append_run _ rfl _ _ _ _ rfl _ _ rfl rfl _ _ (hrz _) ?_)
 go_ret
 exact ⟨_, rfl, HOWN.out, HB.out⟩
set_option maxHeartbeats 4000000 in
set_option maxRecDepth 100000 in
theorem concat_any (g : Nat) (A B : Option Addr) (ca cb : Nat) (a b : List UInt8) (w : World) (hg : Blk w g 23 #[.slice A a.length ca, .slice B b.length cb])
  (ha : Reads w w.heap.size 1 A a.length (BV a)) (hb : Reads w w.heap.size 1 B b.length (BV b)) (h1 : 1 ≤ a.length + b.length) (h2 : a.length + b.length ≤ 1000) :
  Calls Tryd.prog 65 #[.slice (some ⟨g, 0, none⟩) 2 2] w fun e w' => ∃ A' c', e = .returned (.slice A' (a ++ b).length c') ∧ BsAt w' w'.heap.size ⟨a ++ b, A', c'⟩ ∧ (∀ ad, A' = some ad → w.heap.size ≤ ad.block) ∧ Below w.heap.size w w' := by
 obtain ⟨i0, hi, hz0, hz1, hz2⟩ := info_parts byteInfo'
 have HI := hide hi
 have HZ0 := hide hz0
 have HZ1 := hide hz1
 have HZ2 := hide hz2
 have HA := hide (fun (W : World) (hb : Below w.heap.size w W) => (ha.below hb).more hb.size)
 have HB := hide (fun (W : World) (hc : Below w.heap.size w W) => (hb.below hc).more hc.size)
 have HN := hide (show (a ++ b).length = a.length + b.length from List.length_append)
 have HV := hide (BV_append a b)
 obtain ⟨n, hn⟩ : ∃ n, n = a.length := ⟨_, rfl⟩
 obtain ⟨m, hm⟩ : ∃ m, m = b.length := ⟨_, rfl⟩
 rw [← hn, ← hm] at HN
 rw [← hn] at HA
 rw [← hm] at HB
 rw [← hn, ← hm] at h1 h2 hg
 clear hi hz0 hz1 hz2 ha hb hn hm
 have d0 : w.cell? ⟨g, 0, none⟩ = some (.slice A n ca) := hg.cell 0
 have d1 : w.cell? ⟨g, 1, none⟩ = some (.slice B m cb) := hg.cell 1
 have hgl := hg.lt
 have hn0 : (0 : Int) ≤ (n : Int) := by omega
 have hm0 : (0 : Int) ≤ (m : Int) := by omega
 have hnm : (n : Int) + (m : Int) ≤ 1000 := by omega
 have HG := hide hg
 have HW := hide (Below.refl w.heap.size w)
 have CG := hide (grow_any (n + m) w h1 (by omega))
 have hcst : ((n + m : Nat) : Int) = (n : Int) + (m : Int) := by omega
 rw [hcst] at CG
 clear hcst hg
 go_enter Tryd.func65, Tryd.ntmps65
 go_wp2
 go_loopw [3, 11] (fun s3 s wr => ∃ i : Nat, i ≤ 2 ∧ s = .int .i64 (i : Int) ∧ s3 = .int .i64 (if i = 0 then 0 else if i = 1 then (n : Int) else (n : Int) + (m : Int)) ∧ w = wr) (fun _ s _ => 2 - (intOf s).toNat)
 case atStart => exact ⟨0, by omega, rfl, rfl, rfl⟩
 case round =>
  obtain ⟨i, hi, rfl, rfl, rfl⟩ := hrel
  obtain rfl | rfl | rfl : i = 0 ∨ i = 1 ∨ i = 2 := by omega
  ·rw [show ((0 : Nat) : Int) = 0 from rfl, if_pos rfl]
   go_wp2
   exact ⟨⟨1, by omega, by rfl, by rfl, trivial⟩, by simp [intOf]⟩
  ·rw [show ((1 : Nat) : Int) = 1 from rfl, if_neg (by omega), if_pos rfl]
   go_wp2
   exact ⟨⟨2, by omega, by rfl, by rfl, trivial⟩, by simp [intOf]⟩
  ·rw [show ((2 : Nat) : Int) = 2 from rfl, if_neg (by omega), if_neg (by omega)]
   go_upto_region 10 with (go_at_call 79; refine (unhide CG).mono ?_; rintro e w1 ⟨v1, rfl, hown1, hb1⟩; have HO1 := hide hown1; have B1 := hide hb1; clear hown1 hb1)
   have hgs := B1.out.size
   clear d0 d1 CG
   go_wp2
   go_loopw [6, 27] (fun v s wr => ∃ i : Nat, i ≤ 2 ∧ s = .int .i64 (i : Int) ∧ wr.ownsRow w.heap.size 5 1 v (if i = 0 then 0 else if i = 1 then n else n + m) (BV (if i = 0 then [] else if i = 1 then a else a ++ b)) ∧ Below w.heap.size w wr) (fun _ s _ => 2 - (intOf s).toNat)
   case atStart => exact ⟨0, by omega, rfl, HO1.out, B1.out⟩
   case round =>
    obtain ⟨i, hi, rfl, hown, hbel⟩ := hrel
    obtain ⟨wd, rfl⟩ : ∃ wd, wd = wr := ⟨wr, rfl⟩
    have HBL := hide hbel
    have hG := HG.out.below hbel hgl
    have d0 : wd.cell? ⟨g, 0, none⟩ = some (.slice A n ca) := hG.cell 0
    have d1 : wd.cell? ⟨g, 1, none⟩ = some (.slice B m cb) := hG.cell 1
    have hws := hbel.size
    have RA := hide (HA.out wd hbel)
    have RB := hide (HB.out wd hbel)
    clear hG hbel
    obtain rfl | rfl | rfl : i = 0 ∨ i = 1 ∨ i = 2 := by omega
    ·rw [if_pos rfl, if_pos rfl] at hown
     rw [show ((0 : Nat) : Int) = 0 from rfl]
     have HO := hide hown
     clear hown
     go_wp2_with (at_builtin; refine wpList_append_any _ rfl (.tmp 31) (.tmp 32) 23 rfl w.heap.size 5 i0 (.int .u8 0) 1 1 Tryd.underlying23 HI.out HZ0.out HZ1.out HZ2.out rfl (by omega) _ 0 (BV []) rfl HO.out _ A n ca (BV a) rfl RA.out (BV_one a) (by unfold maxLen; omega) (by omega) hws ?_; intro v2 w2 hown2 hgrow2 hat2; have HO2 := hide hown2; have HB2 := hide (HBL.out.trans (below_grown hgrow2 HO.out hws)); clear hown2 hgrow2 hat2)
     exact ⟨⟨1, by omega, by rfl, by have := HO2.out; rw [Nat.zero_add] at this; exact this, HB2.out⟩, by simp [intOf]⟩
    ·rw [if_neg (by omega), if_pos rfl, if_neg (by omega), if_pos rfl] at hown
     rw [show ((1 : Nat) : Int) = 1 from rfl]
     have HO := hide hown
     clear hown
     go_wp2_with (at_builtin; refine wpList_append_any _ rfl (.tmp 31) (.tmp 32) 23 rfl w.heap.size 5 i0 (.int .u8 0) 1 1 Tryd.underlying23 HI.out HZ0.out HZ1.out HZ2.out rfl (by omega) _ n (BV a) rfl HO.out _ B m cb (BV b) rfl RB.out (BV_one b) (by unfold maxLen; omega) (by omega) hws ?_; intro v2 w2 hown2 hgrow2 hat2; have HO2 := hide hown2; have HB2 := hide (HBL.out.trans (below_grown hgrow2 HO.out hws)); clear hown2 hgrow2 hat2)
     exact ⟨⟨2, by omega, by rfl, by have := HO2.out; rw [← HV.out] at this; exact this, HB2.out⟩, by simp [intOf]⟩
    ·rw [if_neg (by omega), if_neg (by omega), if_neg (by omega), if_neg (by omega)] at hown
     rw [show ((2 : Nat) : Int) = 2 from rfl]
     have HO := hide hown
     clear hown
     go_wp2
     go_ret
     have ho := HO.out
     obtain ⟨A', c', rfl, hbs, hab⟩ := bs_of_own ho (by have := HN.out; omega)
     exact ⟨A', c', rfl, hbs, hab, HBL.out⟩
theorem results_cell0 {P : Program} {fn : Func} {p : Tmp} {ty : TypeId} (h : fn.results = #[.cell p ty]) (tmps : Array Value) (w : World) (a : Addr) (v : Value)
  (hp : tmps.getD p undef = .pointer (some a)) (hl : (loadVar ty a).run P w = .ok v w) : (results fn tmps).run P w = .ok v w := by
 have hp' : tmps[p]?.getD undef = .pointer (some a) := by simpa using hp
 simp [results, h, hp', asAddr, hl]
theorem below_setRow {B g : Nat} {w0 w : World} (h : Below B w0 w) (hg : B ≤ g) (cs : Array Value) : Below B w0 (w.setRow g cs) :=
 ⟨h.os, h.tape, h.output, by simpa using h.size, fun i hi => (setRow_other w g i cs (by omega)).trans (h.block i hi)⟩
theorem stepInfo : (Tryd.prog.info? 88).map (·.size) = some 6 := by kernel_rfl
theorem size_alloc (w : World) (o : Obj) : (w.alloc o).heap.size = w.heap.size + 1 := by simp
theorem Blk.new2 (w : World) (a : Obj) (t : TypeId) (cs : Array Value) : Blk ((w.alloc a).alloc (.cells cs t)) (w.heap.size + 1) t cs := by
 have := Blk.new (w.alloc a) t cs
 rwa [size_alloc] at this
theorem Blk.new3 (w : World) (a b : Obj) (t : TypeId) (cs : Array Value) : Blk (((w.alloc a).alloc b).alloc (.cells cs t)) (w.heap.size + 1 + 1) t cs := by
 have := Blk.new2 (w.alloc a) b t cs
 rwa [size_alloc] at this
theorem own_nil (w : World) (b e size : Nat) : w.ownsRow b e size (.slice none 0 0) 0 [] := ⟨by simp, .inl ⟨rfl, rfl⟩⟩
theorem own_setRow {w : World} {b e size n : Nat} {v : Value} {xs : List Value} (h : w.ownsRow b e size v n xs) {g : Nat} (hg : g < b) (cs : Array Value) : (w.setRow g cs).ownsRow b e size v n xs := by
 refine ⟨h.1, ?_⟩
 rcases h.2 with h0 | ⟨g', cap, cur, h1, h2, h3, h4⟩
 ·exact .inl h0
 ·exact .inr ⟨g', cap, cur, h1, h2, (setRow_other w g g' cs (by omega)).trans h3, h4⟩
theorem own_count {w : World} {b n : Nat} {v : Value} {l : List UInt8} (h : w.ownsRow b 5 1 v n (BV l)) : w.ownsRow b 5 1 v l.length (BV l) := by
 have hn : n = l.length := by have := h.1; rw [BV_len] at this; omega
 rwa [hn] at h
theorem BV_snoc (l : List UInt8) (c : UInt8) : BV l ++ [Value.int .u8 (c.toNat : Int)] = BV (l ++ [c]) := by rw [BV_append]; rfl
def stV (s : Tb.St) : Value := .agg #[.int .i64 s.lang, .bool s.num, .bool s.inn]
set_option maxHeartbeats 4000000 in
set_option maxRecDepth 100000 in
theorem number_any (v : Value) (t : Tb.Tab) (s : Tb.St) (ch : UInt8) (w : World) (h : TabAt w w.heap.size v t) (hnl : t.num.l.length ≤ 4) (hdl : t.dig.l.length = 10) (hch : Tb.digit ch = true) :
  Calls Tryd.prog 44 #[v, stV s, VC ch] w fun e w' => ∃ A' c', e = .returned (.agg #[.int .i64 s.lang, .bool true, .bool false, .int .i64 1, .slice A' (Tb.number t s ch).cells.length c', .int .i64 (-1)]) ∧ BsAt w' w'.heap.size ⟨(Tb.number t s ch).cells, A', c'⟩ ∧ Below w.heap.size w w' := by
 obtain ⟨i0, hi, hz0, hz1, hz2⟩ := info_parts byteInfo'
 have HI := hide hi
 have HZ0 := hide hz0
 have HZ1 := hide hz1
 have HZ2 := hide hz2
 have hdg : 48 ≤ ch.toNat ∧ ch.toNat ≤ 57 := of_decide_eq_true hch
 obtain ⟨k, hk⟩ : ∃ k, ch.toNat = 48 + k := ⟨ch.toNat - 48, by omega⟩
 have hk10 : k < 10 := by omega
 obtain ⟨A0, A1, c0, c1, rfl, _, _, _, _, hd, _, hn, _, _⟩ := h
 obtain ⟨dad, u, hdad, hdb, hu, hcu⟩ := Reads.at_ hd.1 (k := k) (by omega)
 have hkl : k < t.dig.l.length := by omega
 have HDC := hide (show w.cell? (dad.add k) = some (.int .u8 ((t.dig.l.getD k 0).toNat : Int)) by
  rw [hcu, ← hu, BV_get t.dig.l k hkl]
  simp [List.getD, hkl])
 have HCELLS := hide (show (Tb.number t s ch).cells = (if s.num then [] else t.num.l) ++ [t.dig.l.getD k 0] by unfold Tb.number; rw [hk, Nat.add_sub_cancel_left])
 have HR := hide (fun (W : World) (hb : Below w.heap.size w W) => (hn.1.below hb).more hb.size)
 unfold stV VC
 rw [hk, hdl]
 have hkc : ((48 + k : Nat) : Int) = 48 + (k : Int) := by omega
 rw [hkc]
 generalize t.dig.l.getD k 0 = dc at *
 generalize (Tb.number t s ch).cells = cells at *
 generalize t.num.l = nl at *
 generalize t.r0.length = n0 at *
 generalize t.r1.length = n1 at *
 generalize t.cap.l.length = n3 at *
 generalize t.fin.l.length = n5 at *
 generalize t.sw.l.length = n6 at *
 obtain ⟨n4, hn4⟩ : ∃ n4, n4 = nl.length := ⟨_, rfl⟩
 rw [← hn4] at HR hnl ⊢
 have HN4 := hide hn4
 have hk0 : (0 : Int) ≤ (k : Int) := by omega
 have hk1 : (k : Int) < 10 := by omega
 have hzs : True := trivial
 clear hi hz0 hz1 hz2 hd hn hu hcu hkl hdl hch hdg hkc hk hn4 hzs
 go_enter Tryd.func44, Tryd.ntmps44
 go_upto_region 1 with fail
 refine name_world fun V hV => ?_
 have V3 := hide (show Blk V w.heap.size 29 #[.slice A0 n0 c0, .slice A1 n1 c1, .slice t.dig.ad 10 t.dig.c, .slice t.cap.ad n3 t.cap.c, .slice t.num.ad n4 t.num.c, .slice t.fin.ad n5 t.fin.c, .slice t.sw.ad n6 t.sw.c] by rw [← hV.out, ← hdad]; exact ((Blk.new w _ _).alloc _).alloc _)
 have V4 := hide (show Blk V (w.heap.size + 1) 54 #[.int .i64 s.lang, .bool s.num, .bool s.inn] by rw [← hV.out]; exact (Blk.new2 w _ _ _).alloc _)
 have V6 := hide (show Blk V (w.heap.size + 1 + 1) 88 #[.int .i64 0, .bool false, .bool false, .int .i64 0, .slice none 0 0, .int .i64 0] by rw [← hV.out]; exact Blk.new3 w _ _ _ _)
 have HV := hide (show Below w.heap.size w V by rw [← hV.out]; exact (((Below.refl _ _).alloc (Nat.le_refl _) _).alloc (by simp) _).alloc (by simp; omega) _)
 have hgV := V6.out.lt
 have RV := hide (fun (W : World) (hb : Below V.heap.size V W) => HR.out W (HV.out.trans (hb.mono HV.out.size)))
 have DV := hide (fun (W : World) (hb : Below V.heap.size V W) => (show W.cell? (dad.add k) = some (.int .u8 (dc.toNat : Int)) by rw [(HV.out.trans (hb.mono HV.out.size)).cell (by rw [block_of_add]; exact hdb)]; exact HDC.out))
 have k3 : V.cell? ⟨w.heap.size, 4, none⟩ = some (.slice t.num.ad n4 t.num.c) := V3.out.cell 4
 have k1 : V.cell? ⟨w.heap.size, 2, none⟩ = some (.slice t.dig.ad 10 t.dig.c) := V3.out.cell 2
 have k4 : V.cell? ⟨w.heap.size + 1, 1, none⟩ = some (.bool s.num) := V4.out.cell 1
 have k5 : V.cell? ⟨w.heap.size + 1, 0, none⟩ = some (.int .i64 s.lang) := V4.out.cell 0
 have kd := DV.out V (Below.refl _ _)
 rw [hdad] at k1 V3
 have HVV := hide (Below.refl V.heap.size V)
 clear hV
 generalize hsn : s.num = sn at *
 cases sn with
 | true =>
  have HC := hide (show cells = [dc] by rw [HCELLS.out]; rfl)
  clear HCELLS
  go_upto_region 5 with (at_builtin; refine wpList_append_any _ rfl (.tmp 15) (.tmp 22) 23 rfl V.heap.size 5 i0 (.int .u8 0) 1 1 Tryd.underlying23 HI.out HZ0.out HZ1.out HZ2.out rfl (by omega) _ 0 [] rfl (own_nil _ _ _ _) _ (some ⟨V.heap.size, 0, none⟩) 1 1 [.int .u8 (dc.toNat : Int)] rfl (reads_new V _ _) (by simp [Value.oneCell']) (by unfold maxLen; omega) (by omega) (by simp) ?_; intro v4 w4 hown4 hgrow4 hat4; have HO4 := hide hown4; have HB4 := hide ((below_alloc V _).trans (below_grown hgrow4 (own_nil _ V.heap.size 5 1) (by simp))); clear hown4 hgrow4 hat4)
  have HO5 := hide (own_count (show w4.ownsRow V.heap.size 5 1 v4 (0 + 1) (BV cells) by rw [HC.out]; exact HO4.out))
  clear HO4
  have hcl : cells.length ≤ 5 := by have := HC.out; rw [this]; simp; try (have := HN4.out; omega)
  obtain ⟨A', c', hv4, hbs, _⟩ := bs_of_own HO5.out (by omega)
  rw [hv4] at HO5
  subst hv4
  have HBS := hide hbs
  have hs4 := HB4.out.size
  have k7 : w4.cell? ⟨w.heap.size + 1, 0, none⟩ = some (.int .i64 s.lang) := (V4.out.below HB4.out (by omega)).cell 0
  have HB6 := hide (show w4.heap[w.heap.size + 1 + 1]? = some (.cells #[.int .i64 0, .bool false, .bool false, .int .i64 0, .slice none 0 0, .int .i64 0] 88 (0, 0)) from V6.out.below HB4.out (by omega))
  have HW4 := hide (HV.out.trans (HB4.out.mono HV.out.size))
  obtain ⟨cl, hcl2⟩ : ∃ cl, cl = cells.length := ⟨_, rfl⟩
  rw [← hcl2]
  have HCL := hide hcl2
  clear hbs hcl2 k1 k5 kd
  go_wp2_with (with_reducible refine wpList_store_row rfl 88 (.tmp 6) (.tmp 28) rfl (w.heap.size + 1 + 1) #[.int .i64 s.lang, .bool true, .bool false, .int .i64 1, .slice A' cl c', .int .i64 (-1)] rfl ?b2 88 _ HB6.out ?g1 ?g2 ?g3 ?_)
  case b2 => rfl
  case g1 => exact stepInfo
  case g2 => rfl
  case g3 => simp [Value.oneCell']
  have hload : (loadVar 88 ⟨w.heap.size + 1 + 1, 0, none⟩).run Tryd.prog (w4.setRow (w.heap.size + 1 + 1) #[.int .i64 s.lang, .bool true, .bool false, .int .i64 1, .slice A' cl c', .int .i64 (-1)]) = .ok (.agg #[.int .i64 s.lang, .bool true, .bool false, .int .i64 1, .slice A' cl c', .int .i64 (-1)]) (w4.setRow (w.heap.size + 1 + 1) #[.int .i64 s.lang, .bool true, .bool false, .int .i64 1, .slice A' cl c', .int .i64 (-1)]) :=
   run_loadVar_row _ _ _ _ _ _ _ (setRow_heap _ (w.heap.size + 1 + 1) _ _ _ _ HB6.out) Tryd.underlying88 rfl stepInfo
  refine bodyPost_ret (v := .agg #[.int .i64 s.lang, .bool true, .bool false, .int .i64 1, .slice A' cl c', .int .i64 (-1)]) (results_cell0 Tryd.results44 _ _ ⟨w.heap.size + 1 + 1, 0, none⟩ _ rfl hload) rfl ⟨A', c', by rw [HCL.out], ?_, below_setRow HW4.out (by omega) _⟩
  have hbs := HBS.out
  refine ⟨?_, hbs.2⟩
  exact Reads.of_own (own_setRow HO5.out (by omega) _)
 | false =>
  have HC := hide (show cells = nl ++ [dc] by rw [HCELLS.out]; rfl)
  clear HCELLS
  go_upto_region 4 with (at_builtin; refine wpList_append_any _ rfl (.tmp 11) (.tmp 13) 23 rfl V.heap.size 5 i0 (.int .u8 0) 1 1 Tryd.underlying23 HI.out HZ0.out HZ1.out HZ2.out rfl (by omega) _ 0 [] rfl (own_nil _ _ _ _) _ t.num.ad n4 t.num.c (BV nl) rfl (RV.out V HVV.out) (BV_one nl) (by unfold maxLen; omega) (by omega) (by simp) ?_; intro v2 w2 hown2 hgrow2 hat2; have HO2 := hide hown2; have HB2 := hide (below_grown hgrow2 (own_nil _ V.heap.size 5 1) (by simp)); clear hown2 hgrow2 hat2)
  have hs2 := HB2.out.size
  clear k1 k3 k4 k5 kd
  have k1 : w2.cell? ⟨w.heap.size, 2, none⟩ = some (.slice (some dad) 10 t.dig.c) := (V3.out.below HB2.out (by omega)).cell 2
  have k5 : w2.cell? ⟨w.heap.size + 1, 0, none⟩ = some (.int .i64 s.lang) := (V4.out.below HB2.out (by omega)).cell 0
  have kd := DV.out w2 HB2.out
  go_upto_region 5 with (at_builtin; refine wpList_append_any _ rfl (.tmp 15) (.tmp 22) 23 rfl V.heap.size 5 i0 (.int .u8 0) 1 1 Tryd.underlying23 HI.out HZ0.out HZ1.out HZ2.out rfl (by omega) _ (0 + n4) _ rfl (HO2.out.alloc _) _ (some ⟨w2.heap.size, 0, none⟩) 1 1 [.int .u8 (dc.toNat : Int)] rfl (reads_new w2 _ _) (by simp [Value.oneCell']) (by unfold maxLen; omega) (by omega) (by simp; omega) ?_; intro v4 w4 hown4 hgrow4 hat4; have HO4 := hide hown4; have HB4 := hide (HB2.out.trans ((below_alloc' w2 _ hs2).trans (below_grown hgrow4 (HO2.out.alloc _) (by simp; omega)))); clear hown4 hgrow4 hat4)
  have HO5 := hide (own_count (show w4.ownsRow V.heap.size 5 1 v4 (0 + n4 + 1) (BV cells) by rw [HC.out, ← BV_snoc]; exact HO4.out))
  clear HO4 HO2
  have hcl : cells.length ≤ 5 := by have := HC.out; rw [this]; simp; try (have := HN4.out; omega)
  obtain ⟨A', c', hv4, hbs, _⟩ := bs_of_own HO5.out (by omega)
  rw [hv4] at HO5
  subst hv4
  have HBS := hide hbs
  have hs4 := HB4.out.size
  have k7 : w4.cell? ⟨w.heap.size + 1, 0, none⟩ = some (.int .i64 s.lang) := (V4.out.below HB4.out (by omega)).cell 0
  have HB6 := hide (show w4.heap[w.heap.size + 1 + 1]? = some (.cells #[.int .i64 0, .bool false, .bool false, .int .i64 0, .slice none 0 0, .int .i64 0] 88 (0, 0)) from V6.out.below HB4.out (by omega))
  have HW4 := hide (HV.out.trans (HB4.out.mono HV.out.size))
  obtain ⟨cl, hcl2⟩ : ∃ cl, cl = cells.length := ⟨_, rfl⟩
  rw [← hcl2]
  have HCL := hide hcl2
  clear hbs hcl2 k1 k5 kd
  go_wp2_with (with_reducible refine wpList_store_row rfl 88 (.tmp 6) (.tmp 28) rfl (w.heap.size + 1 + 1) #[.int .i64 s.lang, .bool true, .bool false, .int .i64 1, .slice A' cl c', .int .i64 (-1)] rfl ?b2 88 _ HB6.out ?g1 ?g2 ?g3 ?_)
  case b2 => rfl
  case g1 => exact stepInfo
  case g2 => rfl
  case g3 => simp [Value.oneCell']
  have hload : (loadVar 88 ⟨w.heap.size + 1 + 1, 0, none⟩).run Tryd.prog (w4.setRow (w.heap.size + 1 + 1) #[.int .i64 s.lang, .bool true, .bool false, .int .i64 1, .slice A' cl c', .int .i64 (-1)]) = .ok (.agg #[.int .i64 s.lang, .bool true, .bool false, .int .i64 1, .slice A' cl c', .int .i64 (-1)]) (w4.setRow (w.heap.size + 1 + 1) #[.int .i64 s.lang, .bool true, .bool false, .int .i64 1, .slice A' cl c', .int .i64 (-1)]) :=
   run_loadVar_row _ _ _ _ _ _ _ (setRow_heap _ (w.heap.size + 1 + 1) _ _ _ _ HB6.out) Tryd.underlying88 rfl stepInfo
  refine bodyPost_ret (v := .agg #[.int .i64 s.lang, .bool true, .bool false, .int .i64 1, .slice A' cl c', .int .i64 (-1)]) (results_cell0 Tryd.results44 _ _ ⟨w.heap.size + 1 + 1, 0, none⟩ _ rfl hload) rfl ⟨A', c', by rw [HCL.out], ?_, below_setRow HW4.out (by omega) _⟩
  have hbs := HBS.out
  refine ⟨?_, hbs.2⟩
  exact Reads.of_own (own_setRow HO5.out (by omega) _)
section
variable {P : Program} {md : Region.Mode} {ops : Array Oper} {Q : Exit → Act → World → Prop} {S : World → Prop}
def heldTill (P : Program) (md : Region.Mode) (ops : Array Oper) (Q : Exit → Act → World → Prop) (S : World → Prop) (n : Nat) : Nat → Array Bool → Act → World → Prop
 | 0, ls, a, w => Region.ready md ops ls = [] ∧ Q .normal a w
 | f + 1, ls, a, w => (Region.ready md ops ls = [] → Q .normal a w) ∧ ∀ i ∈ Region.ready md ops ls, wpOp P ops Q i (fun b v => (i ≠ n → S v) ∧ heldTill P md ops Q S n f (ls.setIfInBounds i true) b v) a w
theorem heldTill_any {n : Nat} : ∀ (f : Nat) (ls : Array Bool) (a : Act) (w : World), heldTill P md ops Q S n f ls a w → wpAny P md ops Q f ls a w
 | 0, _, _, _, h => h
 | f + 1, _, _, _, h => ⟨h.1, fun i hi => wpOp_mono (fun b v hb => heldTill_any f _ b v hb.2) (h.2 i hi)⟩
theorem heldTill_first {n i : Nat} {o : Oper} {v : Value} (ho : ops[i]? = some o) (hsel : Region.noSelect ops = true) (hn : Region.waitsFor md ops n i = true)
  (hQ : ∀ c a w, Q (.panic c) (a.put o.dst v) w → Q (.panic c) a w) (f : Nat) :
  ∀ (ls : Array Bool) (a : Act) (w : World),
   (∀ j p, ops[j]? = some p → j ≠ i → ls.getD j true = false → (∀ e ∈ p.after, Region.binds md e = true → e.on ≠ i) → o.apart ops p = true) →
   i ∈ Region.ready md ops ls → YieldsIf P ops S o v a → S w →
   heldTill P md ops Q S n f (ls.setIfInBounds i true) (a.put o.dst v) w → heldTill P md ops Q S n (f + 1) ls a w := by
 have nope : ∀ ls : Array Bool, i ∈ Region.ready md ops ls → n ∉ Region.ready md ops ls := fun ls hi hr => by
  obtain ⟨p, hp, e, he, hb, hon⟩ := Region.waitsFor_spec hn
  obtain ⟨_, q, hq, hall⟩ := mem_ready.1 hr
  have e1 : p = q := Option.some.inj (hp.symm.trans hq)
  subst e1
  have h1 := hall e he hb
  rw [hon, getD_both (mem_ready.1 hi).1] at h1
  cases h1
 have hin : i ≠ n ∨ i = n := by omega
 induction f with
 | zero =>
  intro ls a w hap hr hy hS H
  refine ⟨fun h => absurd h (List.ne_nil_of_mem hr), fun j hj => ?_⟩
  by_cases he : j = i
  ·subst he; exact hy.wpOp ho hS ⟨fun _ => hS, H⟩
  ·have := ready_mono hj he
   rw [H.1] at this
   cases this
 | succ f ih =>
  intro ls a w hap hr hy hS H
  refine ⟨fun h => absurd h (List.ne_nil_of_mem hr), fun j hj => ?_⟩
  by_cases he : j = i
  ·subst he; exact hy.wpOp ho hS ⟨fun _ => hS, H⟩
  ·have hjn : j ≠ n := fun h => nope ls hr (h ▸ hj)
   obtain ⟨hju, p, hp, hall⟩ := mem_ready.1 hj
   have hfar : o.apart ops p = true := hap j p hp he hju (fun e hm hb hon => by
    have h1 := hall e hm hb
    rw [hon, getD_both (mem_ready.1 hr).1] at h1
    cases h1)
   have hq := wpOp_putIf hp hfar (fun cs b => Region.noSelect_spec hsel i o cs b ho) (fun cs b => Region.noSelect_spec hsel j p cs b hp) hQ hy (H.2 j (ready_mono hj he))
   refine wpOp_mono (fun b v hb => ⟨fun _ => hb.2.1 hjn, ih (ls.setIfInBounds j true) b v (fun k r hk hki hku hno => ?_) (ready_mono hr (Ne.symm he)) hb.1 (hb.2.1 hjn) ?_⟩) hq
   ·refine hap k r hk hki ?_ hno
    by_cases hjk : j = k
    ·subst hjk; exact hju
    ·rw [getD_set_ne true hjk] at hku; exact hku
   ·rw [Array.setIfInBounds_comm _ _ he]
    exact hb.2.2
theorem heldTill_take (i : Nat) (v : Value) {n : Nat} {o : Oper} {f : Nat} {ls : Array Bool} {a : Act} {w : World} (ho : ops[i]? = some o) (hsel : Region.noSelect ops = true) (hn : Region.waitsFor md ops n i = true)
  (hf : Region.free md ops ls i = true) (hr : (Region.ready md ops ls).contains i = true) (hQ : ∀ c a w, Q (.panic c) (a.put o.dst v) w → Q (.panic c) a w)
  (hy : if Region.wanted o (yielded ops a.tmps) = true then (∀ w, S w → (execOp a.eval o).run P w = .ok (.value v) w) else v = undef) (hS : S w)
  (h : heldTill P md ops Q S n f (ls.setIfInBounds i true) (a.put o.dst v) w) : heldTill P md ops Q S n (f + 1) ls a w := by
 refine heldTill_first ho hsel hn hQ f ls a w (Region.free_spec ho hf) (by simpa using hr) ?_ hS h
 by_cases hw : Region.wanted o (yielded ops a.tmps) = true
 ·rw [if_pos hw] at hy; exact .inl ⟨hw, hy⟩
 ·rw [if_neg hw] at hy; exact .inr ⟨by simpa using hw, hy⟩
theorem heldTill_only (i : Nat) {n : Nat} {f : Nat} {ls : Array Bool} {a : Act} {w : World} (hr : Region.ready md ops ls = [i])
  (h : wpOp P ops Q i (fun b v => (i ≠ n → S v) ∧ heldTill P md ops Q S n f (ls.setIfInBounds i true) b v) a w) : heldTill P md ops Q S n (f + 1) ls a w :=
 ⟨fun h0 => (by rw [hr] at h0; cases h0), fun j hj => by
  rw [hr] at hj
  have : j = i := by simpa using hj
  subst this
  exact h⟩
theorem heldTill_done {n : Nat} {f : Nat} {ls : Array Bool} {a : Act} {w : World} (hr : Region.ready md ops ls = []) (h : Q .normal a w) : heldTill P md ops Q S n f ls a w := by
 cases f with
 | zero => exact ⟨hr, h⟩
 | succ f => exact ⟨fun _ => h, fun i hi => by rw [hr] at hi; cases hi⟩
theorem wp_region_held_till (S : World → Prop) (n : Nat) {id : Nat} {a : Act} {w : World} (hm : P.follows .mixedOrders = true)
  (h : heldTill P .any ops Q S n ops.size (Array.replicate ops.size false) a w.drew) : (Code.region id ops true).wp P Q a w :=
 wp_region_any hm (heldTill_any _ _ _ _ h)
theorem step_run_append {o : Oper} {a : Act} {w : World} {K : Act → World → Prop} {E : Prop} (hw : Region.wanted o (yielded ops a.tmps) = true) (s x : Operand) (t : TypeId) (ho : o.op = .call { callee := .builtin .append, args := #[s, x], argTypes := #[t, t] })
  (v1 v2 : Value) (hs : a.eval s = v1) (hx : a.eval x = v2) (v' : Value) (w' : World) (hrun : (Builtin.append_ #[t, t] o.type #[v1, v2]).run P w = .ok v' w') (h : K (a.put o.dst v') w') :
  if Region.wanted o (yielded ops a.tmps) = true then Oper.wp P o a w K Q else E := by
 rw [if_pos hw]
 unfold Oper.wp execOp
 simp only [ho, resolve, invoke, builtin, Sem.run_bind, Sem.run_pure, Result.andThen_ok, List.map_toArray, List.map_cons, List.map_nil, hs, hx, hrun]
 exact h
end
end Go.Proofs.YtjnnohghgkjhcaaDoor
