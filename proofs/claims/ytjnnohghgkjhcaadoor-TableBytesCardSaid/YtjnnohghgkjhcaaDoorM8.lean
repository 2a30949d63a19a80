/-
  Tables: those of the examples of the law, by contract.
-/
import Derived.Test.YtjnnohghgkjhcaaDoorM7
namespace Go.Proofs.YtjnnohghgkjhcaaDoor
open Go.RowKit
set_option linter.unusedVariables false
set_option linter.unusedSimpArgs false
def exRule (i : Nat) : Tb.Rl := Tb.mkR [UInt8.ofNat (97 + i)] 0 [UInt8.ofNat (1 + i)]
theorem conv_new8 {W : World} {g : Nat} {c : UInt8} (h : Blk W g 5 (BV [c]).toArray) : (convert 23 9 (.slice (some ⟨g, 0, none⟩) 1 1)).run Tryd.prog W = .ok (.string (S [c])) W :=
 run_conv_reads (P := Tryd.prog) (reads_bytes W g [c] h) _ _ _ _ Tryd.underlying23 Tryd.underlying5 Tryd.underlying9
theorem get_set7 (cs : Array Value) (k : Nat) (v : Value) (h : k < cs.size) : (cs.setIfInBounds k v)[k]? = some v := by rw [Array.getElem?_setIfInBounds_self_of_lt h]
theorem set_set7 (cs : Array Value) (k : Nat) (u v : Value) : (cs.setIfInBounds k u).setIfInBounds k v = cs.setIfInBounds k v := by simp
def exKs (g1 lang i b0 : Nat) (mk : Value) (c d : UInt8) (wd we : World) : List (World → Value → Prop) := [gIs (.int .i64 (lang : Int)), gIs (.int .i64 (lang : Int)), gIs (.pointer (some ⟨g1, 0, none⟩)), gIs (.pointer (some ⟨g1, lang, none⟩)), gIs (.pointer (some ⟨g1, lang, none⟩)), gIs (mk), gIs (.int .i64 (i : Int)), gIs (.int .i64 (97 + (i : Int))), gIs (.int .u8 (c.toNat : Int)), gNew b0 5 (BV [c]), gIs (.string (S [c])), gIs (.int .i64 (i : Int)), gIs (.int .i64 (1 + (i : Int))), gIs (.int .u8 (d.toNat : Int)), gNew b0 5 (BV [d]), gRl b0 [c] 0 [d], gRls b0 [c] 0 [d], (fun W v => OwnR W wd.heap.size v ((List.range (i + 1)).map exRule) ∧ we.grownBy W mk.ownBlock), gIs (.pointer (some ⟨g1, 0, none⟩)), gIs (.pointer (some ⟨g1, lang, none⟩)), gIs (.pointer (some ⟨g1, lang, none⟩))]
theorem exKs_n (g1 lang i b0 : Nat) (mk : Value) (c d : UInt8) (wd we : World) : ∀ j, j ≠ 17 → StabN b0 ((exKs g1 lang i b0 mk c d wd we).getD j gAny)
 | 0, _ => stabn_is _ _
 | 1, _ => stabn_is _ _
 | 2, _ => stabn_is _ _
 | 3, _ => stabn_is _ _
 | 4, _ => stabn_is _ _
 | 5, _ => stabn_is _ _
 | 6, _ => stabn_is _ _
 | 7, _ => stabn_is _ _
 | 8, _ => stabn_is _ _
 | 9, _ => stabn_new _ _ _
 | 10, _ => stabn_is _ _
 | 11, _ => stabn_is _ _
 | 12, _ => stabn_is _ _
 | 13, _ => stabn_is _ _
 | 14, _ => stabn_new _ _ _
 | 15, _ => stabn_rl _ _ _ _
 | 16, _ => stabn_rls _ _ _ _
 | 17, h => absurd rfl h
 | 18, _ => stabn_is _ _
 | 19, _ => stabn_is _ _
 | 20, _ => stabn_is _ _
 | _ + 21, _ => stabn_any _
theorem exKs_b (g1 lang i b0 : Nat) (mk : Value) (c d : UInt8) (wd we : World) (j : Nat) : Stab ((exKs g1 lang i b0 mk c d wd we).getD j gAny) := by
 by_cases h : j = 17
 ·subst h
  exact fun W W' v hb ⟨h1, h2⟩ => ⟨h1.below hb, grown_below h2 hb⟩
 ·exact (exKs_n g1 lang i b0 mk c d wd we j h).stab
set_option maxHeartbeats 8000000 in
set_option maxRecDepth 100000 in
theorem example_any : ExampleC := by
 intro w
 go_enter Tryd.func46, Tryd.ntmps46
 go_upto_region 2 with fail
 refine name_world fun V hV => ?_
 have V2 := hide (show Blk V w.heap.size 29 #[.slice none 0 0, .slice none 0 0, .slice none 0 0, .slice none 0 0, .slice none 0 0, .slice none 0 0, .slice none 0 0] by rw [← hV.out]; exact (Blk.new w _ _).alloc _)
 have V3 := hide (show Blk V (w.heap.size + 1) 29 #[.slice none 0 0, .slice none 0 0, .slice none 0 0, .slice none 0 0, .slice none 0 0, .slice none 0 0, .slice none 0 0] by rw [← hV.out]; exact Blk.new2 w _ _ _)
 have HV := hide (show Below w.heap.size w V by rw [← hV.out]; exact ((Below.refl _ _).alloc (Nat.le_refl _) _).alloc (by simp) _)
 have hvs : V.heap.size = w.heap.size + 1 + 1 := by rw [← hV.out]; simp
 clear hV
 obtain ⟨g1, hg1⟩ : ∃ g1, g1 = w.heap.size + 1 := ⟨_, rfl⟩
 rw [← hg1] at V3 ⊢
 obtain ⟨g0, hg0⟩ : ∃ g0, g0 = w.heap.size := ⟨_, rfl⟩
 rw [← hg0] at V2 ⊢
 have hgV : g1 < V.heap.size := by omega
 have HG1 := hide (show w.heap.size ≤ g1 ∧ w.heap.size ≤ g0 ∧ g0 < V.heap.size ∧ g0 ≠ g1 by omega)
 clear hg1 hg0 hvs
 go_wp2
 go_loopw [2] (fun s wr => ∃ (lang : Nat) (m0 m1 : Value), lang ≤ 2 ∧ s = .int .i64 (lang : Int) ∧ Blk wr g1 29 #[m0, m1, .slice none 0 0, .slice none 0 0, .slice none 0 0, .slice none 0 0, .slice none 0 0] ∧
  Hid ((lang = 0 → m0 = .slice none 0 0) ∧ (lang ≤ 1 → m1 = .slice none 0 0)) ∧ Hid (1 ≤ lang → OwnR wr V.heap.size m0 Tb.exL) ∧ Hid (2 ≤ lang → ∃ B1, V.heap.size ≤ B1 ∧ (∀ g, m0.ownBlock = some g → g < B1) ∧ OwnR wr B1 m1 Tb.exL) ∧ V.grownBy wr (some g1)) (fun s _ => 2 - (intOf s).toNat)
 case atStart => exact ⟨0, _, _, by omega, rfl, V3.out, ⟨fun _ => rfl, fun _ => rfl⟩, fun h => absurd h (by omega), fun h => absurd h (by omega), World.grownBy.refl _ _⟩
 case round =>
  obtain ⟨lang, m0, m1, hla, rfl, hblk3, HMN, HM0, HM1, hgrV⟩ := hrel
  obtain ⟨wd, rfl⟩ : ∃ wd, wd = wr := ⟨wr, rfl⟩
  have B3 := hide hblk3
  have GV := hide hgrV
  have hg1d : g1 < wd.heap.size := hblk3.lt
  have hVd := hgrV.size
  clear hblk3 hgrV
  have hl0 : (0 : Int) ≤ (lang : Int) := by omega
  by_cases hl2 : (lang : Int) < 2
  ·obtain ⟨cs, hcs⟩ : ∃ cs : Array Value, cs = #[m0, m1, .slice none 0 0, .slice none 0 0, .slice none 0 0, .slice none 0 0, .slice none 0 0] := ⟨_, rfl⟩
   have hl7 : lang < cs.size := by rw [hcs]; show lang < 7; omega
   have hcs0 : cs.setIfInBounds lang (.slice none 0 0) = cs := by
    have : lang = 0 ∨ lang = 1 := by omega
    rcases this with h | h
    ·rw [hcs, h, HMN.out.1 h]; rfl
    ·rw [hcs, h, HMN.out.2 (by omega)]; rfl
   have HCS := hide hcs
   rw [← hcs] at B3
   have B3' := hide (show Blk wd g1 29 (cs.setIfInBounds lang (.slice none 0 0)) by rw [hcs0]; exact B3.out)
   clear hcs hcs0
   go_wp2
   go_loopw [3] (fun s wr => ∃ (i : Nat) (mk : Value), i ≤ 26 ∧ s = .int .i64 (i : Int) ∧ Blk wr g1 29 (cs.setIfInBounds lang mk) ∧ OwnR wr wd.heap.size mk ((List.range i).map exRule) ∧ wd.grownBy wr (some g1)) (fun s _ => 26 - (intOf s).toNat)
   case atStart => exact ⟨0, _, by omega, rfl, B3'.out, OwnR.nil _ _, World.grownBy.refl _ _⟩
   case round =>
    obtain ⟨i, mk, hi, rfl, hblk, hown, hgr⟩ := hrel
    obtain ⟨we, rfl⟩ : ∃ we, we = wr := ⟨wr, rfl⟩
    have hi0 : (0 : Int) ≤ (i : Int) := by omega
    by_cases hi26 : (i : Int) < 26
    ·go_upto_region 8 with fail
     have hmk1 := hown.ne hblk (by decide)
     have hwd := hgr.size
     have CB := hide hblk
     have HO := hide hown
     have HG := hide hgr
     clear hblk hown hgr
     obtain ⟨b0, hb0⟩ : ∃ b0, b0 = we.heap.size := ⟨_, rfl⟩
     obtain ⟨c, hcc⟩ : ∃ c, c = UInt8.ofNat (97 + i) := ⟨_, rfl⟩
     obtain ⟨d, hdd⟩ : ∃ d, d = UInt8.ofNat (1 + i) := ⟨_, rfl⟩
     have hcn : (c.toNat : Int) = 97 + (i : Int) := by rw [hcc]; simp only [UInt8.toNat_ofNat']; omega
     have hdn : (d.toNat : Int) = 1 + (i : Int) := by rw [hdd]; simp only [UInt8.toNat_ofNat']; omega
     have HLR := hide (show (List.range (i + 1)).map exRule = (List.range i).map exRule ++ [Tb.mkR [c] 0 [d]] by rw [List.range_succ, List.map_append, hcc, hdd]; rfl)
     clear hcc hdd
     have hw7 : IntKind.i64.wrap (97 + (i : Int)) = 97 + (i : Int) := by rw [IntKind.wrap_i64]; omega
     have hw8 : IntKind.u8.wrap (97 + (i : Int)) = (c.toNat : Int) := by rw [hcn]; unfold IntKind.wrap; simp [IntKind.bits, IntKind.signed]; omega
     have hw12 : IntKind.i64.wrap (1 + (i : Int)) = 1 + (i : Int) := by rw [IntKind.wrap_i64]; omega
     have hw13 : IntKind.u8.wrap (1 + (i : Int)) = (d.toNat : Int) := by rw [hdn]; unfold IntKind.wrap; simp [IntKind.bits, IntKind.signed]; omega
     clear hcn hdn
     refine wp_region_threeT 17 21 [some 13, some 14, some 15, some 16, some 17, some 18, some 19, some 20, some 21, some 22, some 23, some 24, some 25, some 26, some 27, some 28, some 29, some 30, some 31, some 32, some 33] (gAll (exKs g1 lang i b0 mk c d wd we))
      (fun b W => (b = false → Below we.heap.size we W) ∧ we.grownBy W mk.ownBlock ∧ b0 ≤ W.heap.size) (by decide) (by kernel_rfl) (by kernel_rfl) (by kernel_rfl) (by rfl) (by decide) (by rfl) ⟨fun _ => (Below.refl _ _).drew, only_drew (World.grownBy.refl _ _), by rw [hb0]; exact Nat.le_refl _⟩ ?_ ?_ ?_
     ·intro j hj hjm b A x W hC hd hr
      have stay : ∀ W', Below W.heap.size W W' → (b = false → Below we.heap.size we W') ∧ we.grownBy W' mk.ownBlock ∧ b0 ≤ W'.heap.size := fun W' hb => ⟨fun h => (hC.1 h).trans (hb.mono (hC.1 h).size), grown_below hC.2.1 hb, Nat.le_trans hC.2.2 hb.size⟩
      have KSB : ∀ k' u {W'}, Below W.heap.size W W' → gAll (exKs g1 lang i b0 mk c d wd we) k' u W → gAll (exKs g1 lang i b0 mk c d wd we) k' u W' := fun k' u W' hb h => exKs_b g1 lang i b0 mk c d wd we k' W W' u hb h
      have KSN : ∀ k', k' ≠ 17 → ∀ u {W' row}, W.grownBy W' row → (∀ g, row = some g → g < b0) → gAll (exKs g1 lang i b0 mk c d wd we) k' u W → gAll (exKs g1 lang i b0 mk c d wd we) k' u W' := fun k' hk u W' row hg hr h => exKs_n g1 lang i b0 mk c d wd we k' hk W W' row u hg hr h
      have hj' : j = 0 ∨ j = 1 ∨ j = 2 ∨ j = 3 ∨ j = 4 ∨ j = 5 ∨ j = 6 ∨ j = 7 ∨ j = 8 ∨ j = 9 ∨ j = 10 ∨ j = 11 ∨ j = 12 ∨ j = 13 ∨ j = 14 ∨ j = 15 ∨ j = 16 ∨ j = 18 ∨ j = 19 ∨ j = 20 := by omega
      rcases hj' with rfl | rfl | rfl | rfl | rfl | rfl | rfl | rfl | rfl | rfl | rfl | rfl | rfl | rfl | rfl | rfl | rfl | rfl | rfl | rfl
      ·have e2 : A.tmps[2]?.getD undef = .int .i64 (lang : Int) := hr 2 (by decide)
       refine wpOp_step rfl (fun K' hK => ?_)
       go_simp
       exact hK _ _ ⟨_, rfl, rfl, fun _ _ _ h => h, hC⟩
      ·have e2 : A.tmps[2]?.getD undef = .int .i64 (lang : Int) := hr 2 (by decide)
       refine wpOp_step rfl (fun K' hK => ?_)
       go_simp
       exact hK _ _ ⟨_, rfl, rfl, fun _ _ _ h => h, hC⟩
      ·have e1 : A.tmps[1]?.getD undef = .pointer (some ⟨g1, 0, none⟩) := hr 1 (by decide)
       refine wpOp_step rfl (fun K' hK => ?_)
       go_simp
       exact hK _ _ ⟨_, rfl, rfl, fun _ _ _ h => h, hC⟩
      ·have d2 : A.tmps[15]?.getD undef = .pointer (some ⟨g1, 0, none⟩) := fI hd 2 15
       have d1 : A.tmps[14]?.getD undef = .int .i64 (lang : Int) := fI hd 1 14
       refine wpOp_step rfl (fun K' hK => ?_)
       go_simp
       exact hK _ _ ⟨_, rfl, rfl, fun _ _ _ h => h, hC⟩
      ·have d3 : A.tmps[16]?.getD undef = .pointer (some ⟨g1, lang, none⟩) := fI hd 3 16
       refine wpOp_step rfl (fun K' hK => ?_)
       go_simp
       exact hK _ _ ⟨_, rfl, rfl, fun _ _ _ h => h, hC⟩
      ·have d4 : A.tmps[17]?.getD undef = .pointer (some ⟨g1, lang, none⟩) := fI hd 4 17
       refine wpOp_step rfl (fun K' hK => ?_)
       have hcl : W.cell? ⟨g1, lang, none⟩ = some mk := by
        rw [((CB.out).grown hC.2.1 (Ne.symm hmk1)).cell lang, get_set7 _ _ _ hl7]
       go_simp
       exact hK _ _ ⟨_, rfl, rfl, fun _ _ _ h => h, hC⟩
      ·have e3 : A.tmps[3]?.getD undef = .int .i64 (i : Int) := hr 3 (by decide)
       refine wpOp_step rfl (fun K' hK => ?_)
       go_simp
       exact hK _ _ ⟨_, rfl, rfl, fun _ _ _ h => h, hC⟩
      ·have d6 : A.tmps[19]?.getD undef = .int .i64 (i : Int) := fI hd 6 19
       refine wpOp_step rfl (fun K' hK => ?_)
       go_simp
       exact hK _ _ ⟨_, rfl, rfl, fun _ _ _ h => h, hC⟩
      ·have d7 : A.tmps[20]?.getD undef = .int .i64 (97 + (i : Int)) := fI hd 7 20
       refine wpOp_step rfl (fun K' hK => ?_)
       go_simp
       exact hK _ _ ⟨_, rfl, rfl, fun _ _ _ h => h, hC⟩
      ·have d8 : A.tmps[21]?.getD undef = .int .u8 (c.toNat : Int) := fI hd 8 21
       refine wpOp_step rfl (fun K' hK => ?_)
       go_simp
       exact hK _ _ ⟨_, rfl, ⟨W.heap.size, rfl, hC.2.2, Blk.new W _ _⟩, fun k' hk' u h => KSB k' u (below_alloc W _) h, stay _ (below_alloc W _)⟩
      ·obtain ⟨g9, hx9, hg9, hb9⟩ : gNew b0 5 (BV [c]) W (x 9) := (hd 9 (by decide)).2
       have d9 : A.tmps[22]?.getD undef = .slice (some ⟨g9, 0, none⟩) 1 1 := ((hd 9 (by decide)).1 22 rfl).trans hx9
       refine wpOp_step rfl (fun K' hK => ?_)
       have hcv := conv_new8 hb9
       go_simp
       exact hK _ _ ⟨_, rfl, rfl, fun _ _ _ h => h, hC⟩
      ·have e3 : A.tmps[3]?.getD undef = .int .i64 (i : Int) := hr 3 (by decide)
       refine wpOp_step rfl (fun K' hK => ?_)
       go_simp
       exact hK _ _ ⟨_, rfl, rfl, fun _ _ _ h => h, hC⟩
      ·have d11 : A.tmps[24]?.getD undef = .int .i64 (i : Int) := fI hd 11 24
       refine wpOp_step rfl (fun K' hK => ?_)
       go_simp
       exact hK _ _ ⟨_, rfl, rfl, fun _ _ _ h => h, hC⟩
      ·have d12 : A.tmps[25]?.getD undef = .int .i64 (1 + (i : Int)) := fI hd 12 25
       refine wpOp_step rfl (fun K' hK => ?_)
       go_simp
       exact hK _ _ ⟨_, rfl, rfl, fun _ _ _ h => h, hC⟩
      ·have d13 : A.tmps[26]?.getD undef = .int .u8 (d.toNat : Int) := fI hd 13 26
       refine wpOp_step rfl (fun K' hK => ?_)
       go_simp
       exact hK _ _ ⟨_, rfl, ⟨W.heap.size, rfl, hC.2.2, Blk.new W _ _⟩, fun k' hk' u h => KSB k' u (below_alloc W _) h, stay _ (below_alloc W _)⟩
      ·have d10 : A.tmps[23]?.getD undef = .string (S [c]) := fI hd 10 23
       obtain ⟨g14, hx14, hg14, hb14⟩ : gNew b0 5 (BV [d]) W (x 14) := (hd 14 (by decide)).2
       have d14 : A.tmps[27]?.getD undef = .slice (some ⟨g14, 0, none⟩) 1 1 := ((hd 14 (by decide)).1 27 rfl).trans hx14
       refine wpOp_step rfl (fun K' hK => ?_)
       go_simp
       exact hK _ _ ⟨_, rfl, ⟨g14, rfl, hg14, hb14⟩, fun _ _ _ h => h, hC⟩
      ·obtain ⟨g15, hx15, hg15, hb15⟩ : gRl b0 [c] 0 [d] W (x 15) := (hd 15 (by decide)).2
       have d15 : A.tmps[28]?.getD undef = .agg #[.string (S [c]), .int .i64 0, .slice (some ⟨g15, 0, none⟩) 1 1] := ((hd 15 (by decide)).1 28 rfl).trans hx15
       refine wpOp_step rfl (fun K' hK => ?_)
       go_simp
       exact hK _ _ ⟨_, rfl, ⟨g15, W.heap.size, rfl, hC.2.2, Blk.new W _ _, hg15, hb15.alloc _⟩, fun k' hk' u h => KSB k' u (below_alloc W _) h, stay _ (below_alloc W _)⟩
      ·have e1 : A.tmps[1]?.getD undef = .pointer (some ⟨g1, 0, none⟩) := hr 1 (by decide)
       refine wpOp_step rfl (fun K' hK => ?_)
       go_simp
       exact hK _ _ ⟨_, rfl, rfl, fun _ _ _ h => h, hC⟩
      ·have d18 : A.tmps[31]?.getD undef = .pointer (some ⟨g1, 0, none⟩) := fI hd 18 31
       have d0 : A.tmps[13]?.getD undef = .int .i64 (lang : Int) := fI hd 0 13
       refine wpOp_step rfl (fun K' hK => ?_)
       go_simp
       exact hK _ _ ⟨_, rfl, rfl, fun _ _ _ h => h, hC⟩
      ·have d19 : A.tmps[32]?.getD undef = .pointer (some ⟨g1, lang, none⟩) := fI hd 19 32
       refine wpOp_step rfl (fun K' hK => ?_)
       go_simp
       exact hK _ _ ⟨_, rfl, rfl, fun _ _ _ h => h, hC⟩
     ·intro A x W hC hd hr
      have stay : ∀ W', Below W.heap.size W W' → (false = false → Below we.heap.size we W') ∧ we.grownBy W' mk.ownBlock ∧ b0 ≤ W'.heap.size := fun W' hb => ⟨fun h => (hC.1 h).trans (hb.mono (hC.1 h).size), grown_below hC.2.1 hb, Nat.le_trans hC.2.2 hb.size⟩
      have KSB : ∀ k' u {W'}, Below W.heap.size W W' → gAll (exKs g1 lang i b0 mk c d wd we) k' u W → gAll (exKs g1 lang i b0 mk c d wd we) k' u W' := fun k' u W' hb h => exKs_b g1 lang i b0 mk c d wd we k' W W' u hb h
      have KSN : ∀ k', k' ≠ 17 → ∀ u {W' row}, W.grownBy W' row → (∀ g, row = some g → g < b0) → gAll (exKs g1 lang i b0 mk c d wd we) k' u W → gAll (exKs g1 lang i b0 mk c d wd we) k' u W' := fun k' hk u W' row hg hr h => exKs_n g1 lang i b0 mk c d wd we k' hk W W' row u hg hr h
      obtain ⟨g, h, hx, hh0, hhb, hg0, hgb⟩ : gRls b0 [c] 0 [d] W (x 16) := (hd 16 (by decide)).2
      have d16 : A.tmps[29]?.getD undef = .slice (some ⟨h, 0, none⟩) 1 1 := ((hd 16 (by decide)).1 29 rfl).trans hx
      have d5 : A.tmps[18]?.getD undef = mk := fI hd 5 18
      have hbw := hC.1 rfl
      obtain ⟨v', W', hrun, hown', hgrow', hat'⟩ := OwnR.push (b0 := b0) (HO.out.below hbw) [c] 0 [d] hhb hgb (by simp) inI_zero (by simp) (by simp) (by have h1 : b0 ≤ g := hg0; omega) (fun k hk => by rw [hb0]; exact (HO.out.lt k hk).2) hg0 (by have := hC.2.2; omega) (by simp; omega) 24
      refine wpOp_step rfl (fun K' hK => ?_)
      refine step_run_append (by rfl) (.tmp 18) (.tmp 29) 24 rfl mk (.slice (some ⟨h, 0, none⟩) 1 1) (by show A.tmps.getD 18 undef = _; simpa using d5) (by show A.tmps.getD 29 undef = _; simpa using d16) v' W' hrun ?_
      refine hK _ _ ⟨v', rfl, ⟨by rw [HLR.out]; exact hown', grown_tr hC.2.1 hgrow'⟩, fun k' hk' u h => KSN k' hk' u hgrow' (fun g' hg' => by rw [hb0]; exact (HO.out.lt g' hg').2) h, ⟨fun h => (by cases h), grown_tr hC.2.1 hgrow', Nat.le_trans hC.2.2 hgrow'.size⟩⟩
     ·intro x W hC hR
      obtain ⟨hown', hgr'⟩ : OwnR W wd.heap.size (x 17) ((List.range (i + 1)).map exRule) ∧ we.grownBy W mk.ownBlock := hR 17 (by decide)
      obtain ⟨A17, n17, c17, hx17⟩ : ∃ A n c, x 17 = .slice A n c := by
       obtain ⟨rs, h1, _⟩ := hown'
       obtain ⟨A, c, h, _⟩ := own_slice h1
       exact ⟨A, _, c, h⟩
      rw [hx17] at hown'
      have hx20 : x 20 = .pointer (some ⟨g1, lang, none⟩) := hR 20 (by decide)
      have hCB := (CB.out).grown hgr' (Ne.symm hmk1)
      have HO2 := hide hown'
      have HG2 := hide (grown_own HG.out hgr' (fun g' hg' => (HO.out.lt g' hg').1))
      refine wpOp_step rfl (fun K' hK => ?_)
      simp only [putL, Act.put, Nat.zero_add, Nat.reduceAdd, List.setIfInBounds_toArray, List.set_cons_succ, List.set_cons_zero]
      rw [hx20, hx17]
      have hfz := hCB.frozen lang
      have hcl : W.cell? ⟨g1, lang, none⟩ = some mk := by rw [hCB.cell lang, get_set7 _ _ _ hl7]
      have HCB := hide hCB
      clear hown' hgr' hx20 hx17 hR hC hCB
      generalize x 0 = y0
      generalize x 1 = y1
      generalize x 2 = y2
      generalize x 3 = y3
      generalize x 4 = y4
      generalize x 5 = y5
      generalize x 6 = y6
      generalize x 7 = y7
      generalize x 8 = y8
      generalize x 9 = y9
      generalize x 10 = y10
      generalize x 11 = y11
      generalize x 12 = y12
      generalize x 13 = y13
      generalize x 14 = y14
      generalize x 15 = y15
      generalize x 16 = y16
      generalize x 18 = y18
      generalize x 19 = y19
      go_simp
      refine hK _ _ ?_
      clear hK K'
      have HB3 := hide (by have h := HCB.out.set_ lang (.slice A17 n17 c17); rw [set_set7] at h; exact h)
      have HO3 := hide (HO2.out.grownOff (grown_set (World.grownBy.refl W (some g1)) lang (.slice A17 n17 c17)) hg1d)
      have HG3 := hide (grown_set HG2.out lang (.slice A17 n17 c17))
      go_wp2
      exact ⟨⟨i + 1, _, by omega, by go_num, HB3.out, HO3.out, HG3.out⟩, by simp [intOf]; omega⟩
    ·obtain rfl : i = 26 := by omega
     have HXT := hide (show ∃ m0' m1', Blk we g1 29 #[m0', m1', .slice none 0 0, .slice none 0 0, .slice none 0 0, .slice none 0 0, .slice none 0 0] ∧ (lang + 1 = 0 → m0' = .slice none 0 0) ∧ (lang + 1 ≤ 1 → m1' = .slice none 0 0) ∧
       (1 ≤ lang + 1 → OwnR we V.heap.size m0' Tb.exL) ∧ (2 ≤ lang + 1 → ∃ B1, V.heap.size ≤ B1 ∧ (∀ g, m0'.ownBlock = some g → g < B1) ∧ OwnR we B1 m1' Tb.exL) by
      have h01 : lang = 0 ∨ lang = 1 := by omega
      rcases h01 with h | h
      ·subst h
       refine ⟨mk, m1, ?_, fun h => by omega, fun _ => HMN.out.2 (by omega), fun _ => hown.lower hVd, fun h => by omega⟩
       have h2 := hblk
       rw [HCS.out] at h2
       exact h2
      ·subst h
       have hm0 := HM0.out (by omega)
       refine ⟨m0, mk, ?_, fun h => by omega, fun h => by omega, fun _ => hm0.grownOff hgr hgV, fun _ => ⟨wd.heap.size, hVd, fun g hg => (hm0.lt g hg).2, hown⟩⟩
       have h2 := hblk
       rw [HCS.out] at h2
       exact h2)
     have HGR := hide (show V.grownBy we (some g1) from ⟨hgr.os.trans GV.out.os, hgr.tape.trans GV.out.tape, hgr.output.trans GV.out.output, Nat.le_trans hVd hgr.size, fun k hk hne => (hgr.block k (by omega) hne).trans (GV.out.block k hk hne)⟩)
     clear hblk hown hgr hi hi0 hi26 B3' HCS
     go_wp2
     obtain ⟨m0', m1', x1, x2, x3, x4, x5⟩ := HXT.out
     exact ⟨⟨lang + 1, m0', m1', by omega, by go_num, x1, ⟨x2, x3⟩, x4, x5, HGR.out⟩, by simp [intOf]; omega⟩
  ·obtain rfl : lang = 2 := by omega
   have M0 := hide (HM0.out (by omega))
   obtain ⟨B1, hVB1, hmB1, hm1⟩ := HM1.out (by omega)
   have M1 := hide hm1
   obtain ⟨A8, n8, c8, hv8⟩ : ∃ A n c, m1 = .slice A n c := by
    obtain ⟨rs, h1, _⟩ := hm1
    obtain ⟨A, c, h, _⟩ := own_slice h1
    exact ⟨A, _, c, h⟩
   subst hv8
   clear HM0 HM1 HMN hm1 hl0 hl2 hla
   go_upto_region 10 with fail
   refine name_world fun X hX => ?_
   have hXs : X.heap.size = wd.heap.size + 5 := by rw [← hX.out]; simp
   have R0 := hide (show Blk X wd.heap.size 5 #[.int .u8 30] by rw [← hX.out]; exact ((((alloc_at _ _ _ _ rfl).alloc _).alloc _).alloc _).alloc _)
   have R1 := hide (show Blk X (wd.heap.size + 1) 5 #[.int .u8 31] by rw [← hX.out]; exact (((alloc_at _ _ _ _ (by simp)).alloc _).alloc _).alloc _)
   have R2 := hide (show Blk X (wd.heap.size + 1 + 1) 5 #[.int .u8 32] by rw [← hX.out]; exact ((alloc_at _ _ _ _ (by simp)).alloc _).alloc _)
   have R3 := hide (show Blk X (wd.heap.size + 1 + 1 + 1) 5 #[.int .u8 33] by rw [← hX.out]; exact (alloc_at _ _ _ _ (by simp)).alloc _)
   have R4 := hide (show Blk X (wd.heap.size + 1 + 1 + 1 + 1) 45 #[.string (S [97, 110]), .int .i64 0, .slice (some ⟨wd.heap.size, 0, none⟩) 1 1, .string (S [97, 110]), .int .i64 1, .slice (some ⟨wd.heap.size + 1, 0, none⟩) 1 1,
    .string (S [110]), .int .i64 3, .slice (some ⟨wd.heap.size + 1 + 1, 0, none⟩) 1 1, .string (S [46]), .int .i64 0, .slice (some ⟨wd.heap.size + 1 + 1 + 1, 0, none⟩) 1 1] by rw [← hX.out]; exact alloc_at _ _ _ _ (by simp))
   have HXB := hide (show Below wd.heap.size wd X by rw [← hX.out]; exact (((((Below.refl _ _).alloc (Nat.le_refl _) _).alloc (by simp; try omega) _).alloc (by simp; try omega) _).alloc (by simp; try omega) _).alloc (by simp; try omega) _)
   clear hX
   have hq := hXs
   generalize hqq : wd.heap.size = q at *
   have X1 := hide (B3.out.below HXB.out hg1d)
   have X0 := hide (M0.out.below (by rw [hqq]; exact HXB.out))
   have hm0q : ∀ g, m0.ownBlock = some g → g < q := fun g hg => by rw [← hqq]; exact (M0.out.lt g hg).2
   obtain ⟨v', W', hrun, hown', hgrow', _⟩ := OwnR.app X0.out
    [⟨[97, 110], 0, ⟨[30], some ⟨q, 0, none⟩, 1⟩⟩, ⟨[97, 110], 1, ⟨[31], some ⟨q + 1, 0, none⟩, 1⟩⟩, ⟨[110], 3, ⟨[32], some ⟨q + 1 + 1, 0, none⟩, 1⟩⟩, ⟨[46], 0, ⟨[33], some ⟨q + 1 + 1 + 1, 0, none⟩, 1⟩⟩] (fun y hy => by
     simp only [List.mem_cons, List.not_mem_nil, or_false] at hy
     rcases hy with rfl | rfl | rfl | rfl
     ·exact ⟨⟨bs_of_blk X q [30] R0.out (by simp), by simp, by simp, inI_zero⟩, fun a ha => by injection ha with ha; subst ha; exact ⟨fun e => by have := hm0q _ e.symm; exact absurd this (Nat.lt_irrefl _), by show V.heap.size ≤ q; omega⟩⟩
     ·exact ⟨⟨bs_of_blk X (q + 1) [31] R1.out (by simp), by simp, by simp, by show Wr.inI 1; unfold Wr.inI; omega⟩, fun a ha => by injection ha with ha; subst ha; exact ⟨fun e => by have h9 : q + 1 < q := hm0q _ e.symm; omega, by show V.heap.size ≤ q + 1; omega⟩⟩
     ·exact ⟨⟨bs_of_blk X (q + 1 + 1) [32] R2.out (by simp), by simp, by simp, by show Wr.inI 3; unfold Wr.inI; omega⟩, fun a ha => by injection ha with ha; subst ha; exact ⟨fun e => by have h9 : q + 1 + 1 < q := hm0q _ e.symm; omega, by show V.heap.size ≤ q + 1 + 1; omega⟩⟩
     ·exact ⟨⟨bs_of_blk X (q + 1 + 1 + 1) [33] R3.out (by simp), by simp, by simp, inI_zero⟩, fun a ha => by injection ha with ha; subst ha; exact ⟨fun e => by have h9 : q + 1 + 1 + 1 < q := hm0q _ e.symm; omega, by show V.heap.size ≤ q + 1 + 1 + 1; omega⟩⟩)
    R4.out (by omega) (by show Tb.exL.length ≤ 1000; decide) (by simp) 24
   have hne1 := X0.out.ne X1.out (by decide)
   have xl0 : X.cell? ⟨g1, 0, none⟩ = some m0 := X1.out.cell 0
   have HRUN := hide hrun
   obtain ⟨A9, n9, c9, hv9⟩ : ∃ A n c, v' = .slice A n c := by
    obtain ⟨rs, h1, _⟩ := hown'
    obtain ⟨A, c, h, _⟩ := own_slice h1
    exact ⟨A, _, c, h⟩
   subst hv9
   have hW1 := hide (X1.out.grown hgrow' (Ne.symm hne1))
   have xf0 := hW1.out.frozen 0
   have xm0 : W'.cell? ⟨g1, 0, none⟩ = some m0 := hW1.out.cell 0
   have hWs := hgrow'.size
   have HL0 := hide (hown'.langB (by simp [Tb.exL]))
   have HL1 := hide (((M1.out.below (by rw [hqq]; exact HXB.out)).grownLow hgrow' hmB1).langB (by simp [Tb.exL]))
   have HGW := hide (grown_own (grown_below GV.out (by rw [hqq]; exact HXB.out)) hgrow' (fun g hg => (M0.out.lt g hg).1))
   clear hrun hown' hgrow' R0 R1 R2 R3 R4 M1 X0
   go_upto_region 11 with (at_builtin; refine Lib.wpList_append_run _ rfl _ _ _ _ rfl _ _ rfl rfl _ _ HRUN.out ?_)
   refine name_world fun Y hY => ?_
   have Y1 := hide (show Blk Y g1 29 #[.slice A9 n9 c9, .slice A8 n8 c8, .slice none 0 0, .slice none 0 0, .slice none 0 0, .slice none 0 0, .slice none 0 0] by rw [← hY.out]; exact hW1.out.set_ 0 _)
   have YG := hide (show W'.grownBy Y (some g1) by rw [← hY.out]; exact grown_set (World.grownBy.refl _ _) 0 _)
   have hlow : ∀ g, some g1 = some g → g < V.heap.size := fun g hg => by injection hg with hg; omega
   have L0 := hide (HL0.out.grown YG.out hlow)
   have L1 := hide ((HL1.out.lower hVB1).grown YG.out hlow)
   have VG := hide (grown_tr HGW.out YG.out)
   clear hY HL0 HL1 HGW YG hW1 xf0 xm0 xl0 hWs X1 HXB HRUN hne1 hm0q hXs hq
   have yc : ∀ o, (Y.alloc o).cell? ⟨g1, 2, none⟩ = some (.slice none 0 0) := fun o => (Y1.out.alloc o).cell 2
   have yf := fun o => (Y1.out.alloc o).frozen 2
   go_upto_region 12 with fail
   refine name_world fun Z1 hZ1 => ?_
   obtain ⟨q1, q2, q3⟩ := field_set Y V.heap.size g1 2 _ [41, 42, 43, 44, 45, 46, 47, 48, 49, 50] Y1.out (by simp) (VG.out.size)
   have hz : (Y.alloc (.cells (BV [41, 42, 43, 44, 45, 46, 47, 48, 49, 50]).toArray 5)).setCell ⟨g1, 2, none⟩ (.slice (some ⟨Y.heap.size, 0, none⟩) 10 10) = Z1 := hZ1.out
   have hq1 := Eq.mp (congrArg (fun W => Blk W g1 _ _) hz) q1
   have hq2 := Eq.mp (congrArg (fun W => Y.grownBy W (some g1)) hz) q2
   have hq3 := Eq.mp (congrArg (fun W => BsB W V.heap.size (.slice (some ⟨Y.heap.size, 0, none⟩) 10 10) [41, 42, 43, 44, 45, 46, 47, 48, 49, 50]) hz) q3
   clear q1 q2 q3 hz hZ1
   generalize Y.heap.size = p0 at hq1 hq3 ⊢
   have Z11 := hide (show Blk Z1 g1 29 #[.slice A9 n9 c9, .slice A8 n8 c8, .slice (some ⟨p0, 0, none⟩) 10 10, .slice none 0 0, .slice none 0 0, .slice none 0 0, .slice none 0 0] from hq1)
   have L0 := hide (L0.out.grown hq2 hlow)
   have L1 := hide (L1.out.grown hq2 hlow)
   have VG := hide (grown_tr VG.out hq2)
   have D0 := hide hq3
   clear hq1 hq2 hq3 yc yf Y1
   have yc : ∀ o, (Z1.alloc o).cell? ⟨g1, 3, none⟩ = some (.slice none 0 0) := fun o => (Z11.out.alloc o).cell 3
   have yf := fun o => (Z11.out.alloc o).frozen 3
   go_upto_region 13 with fail
   refine name_world fun Z2 hZ2 => ?_
   obtain ⟨q1, q2, q3⟩ := field_set Z1 V.heap.size g1 3 _ [60] Z11.out (by simp) (VG.out.size)
   have hz : (Z1.alloc (.cells (BV [60]).toArray 5)).setCell ⟨g1, 3, none⟩ (.slice (some ⟨Z1.heap.size, 0, none⟩) 1 1) = Z2 := hZ2.out
   have hq1 := Eq.mp (congrArg (fun W => Blk W g1 _ _) hz) q1
   have hq2 := Eq.mp (congrArg (fun W => Z1.grownBy W (some g1)) hz) q2
   have hq3 := Eq.mp (congrArg (fun W => BsB W V.heap.size (.slice (some ⟨Z1.heap.size, 0, none⟩) 1 1) [60]) hz) q3
   clear q1 q2 q3 hz hZ2
   generalize Z1.heap.size = p1 at hq1 hq3 ⊢
   have Z21 := hide (show Blk Z2 g1 29 #[.slice A9 n9 c9, .slice A8 n8 c8, .slice (some ⟨p0, 0, none⟩) 10 10, .slice (some ⟨p1, 0, none⟩) 1 1, .slice none 0 0, .slice none 0 0, .slice none 0 0] from hq1)
   have L0 := hide (L0.out.grown hq2 hlow)
   have L1 := hide (L1.out.grown hq2 hlow)
   have VG := hide (grown_tr VG.out hq2)
   have D0 := hide (D0.out.grown hq2 hlow)
   have D1 := hide hq3
   clear hq1 hq2 hq3 yc yf Z11
   have yc : ∀ o, (Z2.alloc o).cell? ⟨g1, 4, none⟩ = some (.slice none 0 0) := fun o => (Z21.out.alloc o).cell 4
   have yf := fun o => (Z21.out.alloc o).frozen 4
   go_upto_region 14 with fail
   refine name_world fun Z3 hZ3 => ?_
   obtain ⟨q1, q2, q3⟩ := field_set Z2 V.heap.size g1 4 _ [61] Z21.out (by simp) (VG.out.size)
   have hz : (Z2.alloc (.cells (BV [61]).toArray 5)).setCell ⟨g1, 4, none⟩ (.slice (some ⟨Z2.heap.size, 0, none⟩) 1 1) = Z3 := hZ3.out
   have hq1 := Eq.mp (congrArg (fun W => Blk W g1 _ _) hz) q1
   have hq2 := Eq.mp (congrArg (fun W => Z2.grownBy W (some g1)) hz) q2
   have hq3 := Eq.mp (congrArg (fun W => BsB W V.heap.size (.slice (some ⟨Z2.heap.size, 0, none⟩) 1 1) [61]) hz) q3
   clear q1 q2 q3 hz hZ3
   generalize Z2.heap.size = p2 at hq1 hq3 ⊢
   have Z31 := hide (show Blk Z3 g1 29 #[.slice A9 n9 c9, .slice A8 n8 c8, .slice (some ⟨p0, 0, none⟩) 10 10, .slice (some ⟨p1, 0, none⟩) 1 1, .slice (some ⟨p2, 0, none⟩) 1 1, .slice none 0 0, .slice none 0 0] from hq1)
   have L0 := hide (L0.out.grown hq2 hlow)
   have L1 := hide (L1.out.grown hq2 hlow)
   have VG := hide (grown_tr VG.out hq2)
   have D0 := hide (D0.out.grown hq2 hlow)
   have D1 := hide (D1.out.grown hq2 hlow)
   have D2 := hide hq3
   clear hq1 hq2 hq3 yc yf Z21
   have yc : ∀ o, (Z3.alloc o).cell? ⟨g1, 5, none⟩ = some (.slice none 0 0) := fun o => (Z31.out.alloc o).cell 5
   have yf := fun o => (Z31.out.alloc o).frozen 5
   go_upto_region 15 with fail
   refine name_world fun Z4 hZ4 => ?_
   obtain ⟨q1, q2, q3⟩ := field_set Z3 V.heap.size g1 5 _ [62] Z31.out (by simp) (VG.out.size)
   have hz : (Z3.alloc (.cells (BV [62]).toArray 5)).setCell ⟨g1, 5, none⟩ (.slice (some ⟨Z3.heap.size, 0, none⟩) 1 1) = Z4 := hZ4.out
   have hq1 := Eq.mp (congrArg (fun W => Blk W g1 _ _) hz) q1
   have hq2 := Eq.mp (congrArg (fun W => Z3.grownBy W (some g1)) hz) q2
   have hq3 := Eq.mp (congrArg (fun W => BsB W V.heap.size (.slice (some ⟨Z3.heap.size, 0, none⟩) 1 1) [62]) hz) q3
   clear q1 q2 q3 hz hZ4
   generalize Z3.heap.size = p3 at hq1 hq3 ⊢
   have Z41 := hide (show Blk Z4 g1 29 #[.slice A9 n9 c9, .slice A8 n8 c8, .slice (some ⟨p0, 0, none⟩) 10 10, .slice (some ⟨p1, 0, none⟩) 1 1, .slice (some ⟨p2, 0, none⟩) 1 1, .slice (some ⟨p3, 0, none⟩) 1 1, .slice none 0 0] from hq1)
   have L0 := hide (L0.out.grown hq2 hlow)
   have L1 := hide (L1.out.grown hq2 hlow)
   have VG := hide (grown_tr VG.out hq2)
   have D0 := hide (D0.out.grown hq2 hlow)
   have D1 := hide (D1.out.grown hq2 hlow)
   have D2 := hide (D2.out.grown hq2 hlow)
   have D3 := hide hq3
   clear hq1 hq2 hq3 yc yf Z31
   have yc : ∀ o, (Z4.alloc o).cell? ⟨g1, 6, none⟩ = some (.slice none 0 0) := fun o => (Z41.out.alloc o).cell 6
   have yf := fun o => (Z41.out.alloc o).frozen 6
   go_upto_region 16 with fail
   refine name_world fun Z5 hZ5 => ?_
   obtain ⟨q1, q2, q3⟩ := field_set Z4 V.heap.size g1 6 _ [63] Z41.out (by simp) (VG.out.size)
   have hz : (Z4.alloc (.cells (BV [63]).toArray 5)).setCell ⟨g1, 6, none⟩ (.slice (some ⟨Z4.heap.size, 0, none⟩) 1 1) = Z5 := hZ5.out
   have hq1 := Eq.mp (congrArg (fun W => Blk W g1 _ _) hz) q1
   have hq2 := Eq.mp (congrArg (fun W => Z4.grownBy W (some g1)) hz) q2
   have hq3 := Eq.mp (congrArg (fun W => BsB W V.heap.size (.slice (some ⟨Z4.heap.size, 0, none⟩) 1 1) [63]) hz) q3
   clear q1 q2 q3 hz hZ5
   generalize Z4.heap.size = p4 at hq1 hq3 ⊢
   have Z51 := hide (show Blk Z5 g1 29 #[.slice A9 n9 c9, .slice A8 n8 c8, .slice (some ⟨p0, 0, none⟩) 10 10, .slice (some ⟨p1, 0, none⟩) 1 1, .slice (some ⟨p2, 0, none⟩) 1 1, .slice (some ⟨p3, 0, none⟩) 1 1, .slice (some ⟨p4, 0, none⟩) 1 1] from hq1)
   have L0 := hide (L0.out.grown hq2 hlow)
   have L1 := hide (L1.out.grown hq2 hlow)
   have VG := hide (grown_tr VG.out hq2)
   have D0 := hide (D0.out.grown hq2 hlow)
   have D1 := hide (D1.out.grown hq2 hlow)
   have D2 := hide (D2.out.grown hq2 hlow)
   have D3 := hide (D3.out.grown hq2 hlow)
   have D4 := hide hq3
   clear hq1 hq2 hq3 yc yf Z41
   have z0 : Z5.cell? ⟨g1, 0, none⟩ = some (.slice A9 n9 c9) := Z51.out.cell 0
   have z1 : Z5.cell? ⟨g1, 1, none⟩ = some (.slice A8 n8 c8) := Z51.out.cell 1
   have z2 : Z5.cell? ⟨g1, 2, none⟩ = some (.slice (some ⟨p0, 0, none⟩) 10 10) := Z51.out.cell 2
   have z3 : Z5.cell? ⟨g1, 3, none⟩ = some (.slice (some ⟨p1, 0, none⟩) 1 1) := Z51.out.cell 3
   have z4 : Z5.cell? ⟨g1, 4, none⟩ = some (.slice (some ⟨p2, 0, none⟩) 1 1) := Z51.out.cell 4
   have z5 : Z5.cell? ⟨g1, 5, none⟩ = some (.slice (some ⟨p3, 0, none⟩) 1 1) := Z51.out.cell 5
   have z6 : Z5.cell? ⟨g1, 6, none⟩ = some (.slice (some ⟨p4, 0, none⟩) 1 1) := Z51.out.cell 6
   have ZG0 := hide (show Blk Z5 g0 29 #[.slice none 0 0, .slice none 0 0, .slice none 0 0, .slice none 0 0, .slice none 0 0, .slice none 0 0, .slice none 0 0] from V2.out.grown VG.out (fun e => by injection e with e; exact HG1.out.2.2.2 e))
   have hlow0 : ∀ g, some g0 = some g → g < V.heap.size := fun g hg => by injection hg with hg; have := HG1.out.2.2.1; omega
   obtain ⟨t, ht1, ht2⟩ := tab_parts (L0.out.grown (grown_setRow Z5 g0 #[.slice A9 n9 c9, .slice A8 n8 c8, .slice (some ⟨p0, 0, none⟩) 10 10, .slice (some ⟨p1, 0, none⟩) 1 1, .slice (some ⟨p2, 0, none⟩) 1 1, .slice (some ⟨p3, 0, none⟩) 1 1, .slice (some ⟨p4, 0, none⟩) 1 1]) hlow0) (L1.out.grown (grown_setRow Z5 g0 _) hlow0) (D0.out.grown (grown_setRow Z5 g0 _) hlow0) (D1.out.grown (grown_setRow Z5 g0 _) hlow0) (D2.out.grown (grown_setRow Z5 g0 _) hlow0) (D3.out.grown (grown_setRow Z5 g0 _) hlow0) (D4.out.grown (grown_setRow Z5 g0 _) hlow0)
   have HT := hide ht1
   have HTE := hide ht2
   have hB : Below w.heap.size w (Z5.setRow g0 #[.slice A9 n9 c9, .slice A8 n8 c8, .slice (some ⟨p0, 0, none⟩) 10 10, .slice (some ⟨p1, 0, none⟩) 1 1, .slice (some ⟨p2, 0, none⟩) 1 1, .slice (some ⟨p3, 0, none⟩) 1 1, .slice (some ⟨p4, 0, none⟩) 1 1]) := by
    have h1 : Below w.heap.size w Z5 := ((HV.out).grown VG.out HV.out.size (fun g hg => by injection hg with hg; have := HG1.out.1; omega))
    exact h1.grown (grown_setRow Z5 g0 _) h1.size (fun g hg => by injection hg with hg; have := HG1.out.2.1; omega)
   have HBB := hide hB
   clear ht1 ht2 hB L0 L1 D0 D1 D2 D3 D4 VG Z51
   go_wp2_with (first | (with_reducible refine wpList_store_tab rfl (.tmp 0) (.tmp 62) rfl g0 _ _ _ _ _ _ _ rfl rfl _ ZG0.out ?s1 ?s2 ?_))
   case s1 => rfl
   case s2 => simp [Value.oneCell']
   exact bodyPost_ret (results_cell0 Tryd.results46 _ _ ⟨g0, 0, none⟩ _ rfl (load_tab Z5 g0 _ _ _ _ _ _ _ _ ZG0.out)) rfl ⟨_, t, rfl, HT.out, HTE.out.trans rfl, HBB.out⟩
end Go.Proofs.YtjnnohghgkjhcaaDoor
