/-
  sanity: the examples hold in every world, and what was there stays.
-/
import Derived.Test.YtbkpnfejhaedhaaSane1
namespace Go.Proofs.Ytbkpnfejhaedhaa
open Go.RowKit
set_option linter.unusedVariables false
set_option linter.unusedSimpArgs false

theorem dig_cell {X : World} {g : Nat} (h : Blk X g 57 #[.int .u8 1, .int .u8 2, .int .u8 0, .int .u8 0, .int .u8 0, .int .u8 0, .int .u8 0, .int .u8 0, .int .u8 0, .int .u8 0, .int .u8 0, .int .u8 0, .int .u8 0, .int .u8 0, .int .u8 0, .int .u8 0]) : X.cell? ⟨g, 0, none⟩ = some (.int .u8 1) ∧ X.cell? ⟨g, 1, none⟩ = some (.int .u8 2) ∧ X.cell? ⟨g, 2, none⟩ = some (.int .u8 0) ∧ X.cell? ⟨g, 3, none⟩ = some (.int .u8 0) ∧ X.cell? ⟨g, 4, none⟩ = some (.int .u8 0) ∧ X.cell? ⟨g, 5, none⟩ = some (.int .u8 0) ∧ X.cell? ⟨g, 6, none⟩ = some (.int .u8 0) ∧ X.cell? ⟨g, 7, none⟩ = some (.int .u8 0) ∧ X.cell? ⟨g, 8, none⟩ = some (.int .u8 0) ∧ X.cell? ⟨g, 9, none⟩ = some (.int .u8 0) ∧ X.cell? ⟨g, 10, none⟩ = some (.int .u8 0) ∧ X.cell? ⟨g, 11, none⟩ = some (.int .u8 0) ∧ X.cell? ⟨g, 12, none⟩ = some (.int .u8 0) ∧ X.cell? ⟨g, 13, none⟩ = some (.int .u8 0) ∧ X.cell? ⟨g, 14, none⟩ = some (.int .u8 0) ∧ X.cell? ⟨g, 15, none⟩ = some (.int .u8 0) := by
  refine ⟨?_, ?_, ?_, ?_, ?_, ?_, ?_, ?_, ?_, ?_, ?_, ?_, ?_, ?_, ?_, ?_⟩ <;> (rw [h.cell]; rfl)

set_option maxHeartbeats 2000000 in
set_option maxRecDepth 100000 in
theorem sanity_any (w : World) : Calls Try.prog 12 #[] w fun e w' => e = .returned (.bool true) ∧ Below w.heap.size w w' := by
  go_enter Try.func12, Try.ntmps12
  go_wp2_with fail
  refine (sane1 w).mono ?_
  rintro e w1 ⟨rfl, hb1⟩
  go_wp2_with fail
  refine (sane2 w1).mono ?_
  rintro e w2 ⟨rfl, hb2⟩
  have hB2 := hb1.trans (hb2.mono hb1.size)
  clear hb1 hb2
  go_wp2_with fail
  refine (sane3 w2).mono ?_
  rintro e w3 ⟨rfl, hb3⟩
  have hB3 := hB2.trans (hb3.mono hB2.size)
  clear hB2 hb3
  go_wp2_with fail
  refine (sane4 w3).mono ?_
  rintro e w4 ⟨rfl, hb4⟩
  have hB4 := hB3.trans (hb4.mono hB3.size)
  clear hB3 hb4
  go_wp2_with fail
  refine (sane5 w4).mono ?_
  rintro e w5 ⟨A5, c5, rfl, r5, hb5⟩
  have hB5 := hB4.trans (hb5.mono hB4.size)
  clear hB4 hb5
  have R5 := hide r5
  clear r5
  go_wp2_with fail
  have s6 := sane6 (w5.alloc (.cells #[.int .u8 1, .int .u8 2, .int .u8 0, .int .u8 0, .int .u8 0, .int .u8 0, .int .u8 0, .int .u8 0, .int .u8 0, .int .u8 0, .int .u8 0, .int .u8 0, .int .u8 0, .int .u8 0, .int .u8 0, .int .u8 0] 57))
  have hs6 : (w5.alloc (.cells #[.int .u8 1, .int .u8 2, .int .u8 0, .int .u8 0, .int .u8 0, .int .u8 0, .int .u8 0, .int .u8 0, .int .u8 0, .int .u8 0, .int .u8 0, .int .u8 0, .int .u8 0, .int .u8 0, .int .u8 0, .int .u8 0] 57)).heap.size = w5.heap.size + 1 := by simp
  rw [hs6] at s6
  have S6 := hide s6
  clear s6 hs6
  refine (unhide S6).mono ?_
  rintro e w6 ⟨A6, c6, rfl, hc6, r6, hb6⟩
  have hD6 : Blk w6 w5.heap.size 57 #[.int .u8 1, .int .u8 2, .int .u8 0, .int .u8 0, .int .u8 0, .int .u8 0, .int .u8 0, .int .u8 0, .int .u8 0, .int .u8 0, .int .u8 0, .int .u8 0, .int .u8 0, .int .u8 0, .int .u8 0, .int .u8 0] := (Blk.new w5 _ _).below hb6 (by omega)
  have hB56 : Below w5.heap.size w5 w6 := ((Below.refl _ _).alloc (Nat.le_refl _) _).trans (hb6.mono (by omega))
  have hB6 := hB5.trans (hB56.mono hB5.size)
  replace R5 := hide ((R5.out.below hB56).more hB56.size)
  have R6 := hide r6
  have HC6 := hide hc6
  generalize w5.heap.size = gd at *
  clear hB5 hB56 hb6 S6 r6 hc6
  go_wp2_with fail
  refine (sane7 w6 A6 c6 HC6.out R6.out).mono ?_
  rintro e w7 ⟨A7, c7, rfl, hc7, r7, hb7⟩
  have hB7 := hB6.trans (hb7.mono hB6.size)
  have hD7 := hD6.below hb7 hD6.lt
  replace R5 := hide ((R5.out.below hb7).more hb7.size)
  have R7 := hide r7
  have HC7 := hide hc7
  clear hB6 hD6 hb7 r7 hc7 R6 HC6
  go_wp2_with fail
  refine (sane8 w7).mono ?_
  rintro e w8 ⟨A8, c8, rfl, r8, hb8⟩
  have hB8 := hB7.trans (hb8.mono hB7.size)
  have hD8 := hD7.below hb8 hD7.lt
  replace R5 := hide ((R5.out.below hb8).more hb8.size)
  have R7 := hide ((R7.out.below hb8).more hb8.size)
  clear hB7 hD7 hb8
  have R8 := hide r8
  clear r8
  go_wp2_with fail
  refine (sameT w8 _ _ R8.out).mono ?_
  rintro e w9 ⟨rfl, hb9⟩
  have hB9 := hB8.trans (hb9.mono hB8.size)
  have hD9 := hD8.below hb9 hD8.lt
  replace R5 := hide ((R5.out.below hb9).more hb9.size)
  have R7 := hide ((R7.out.below hb9).more hb9.size)
  clear hB8 hD8 hb9
  clear R8
  go_wp2_with fail
  refine (sane12 w9).mono ?_
  rintro e w10 ⟨A10, c10, rfl, r10, hb10⟩
  have hB10 := hB9.trans (hb10.mono hB9.size)
  have hD10 := hD9.below hb10 hD9.lt
  replace R5 := hide ((R5.out.below hb10).more hb10.size)
  have R7 := hide ((R7.out.below hb10).more hb10.size)
  clear hB9 hD9 hb10
  have R10 := hide r10
  clear r10
  go_wp2_with fail
  refine (same6 w10 _ _ R10.out).mono ?_
  rintro e w11 ⟨rfl, hb11⟩
  have hB11 := hB10.trans (hb11.mono hB10.size)
  have hD11 := hD10.below hb11 hD10.lt
  replace R5 := hide ((R5.out.below hb11).more hb11.size)
  have R7 := hide ((R7.out.below hb11).more hb11.size)
  clear hB10 hD10 hb11
  clear R10
  go_wp2_with fail
  refine (sane9 w11).mono ?_
  rintro e w12 ⟨A12, c12, rfl, r12, hb12⟩
  have hB12 := hB11.trans (hb12.mono hB11.size)
  have hD12 := hD11.below hb12 hD11.lt
  replace R5 := hide ((R5.out.below hb12).more hb12.size)
  have R7 := hide ((R7.out.below hb12).more hb12.size)
  clear hB11 hD11 hb12
  have R12 := hide r12
  clear r12
  go_wp2_with fail
  refine (same3 w12 _ _ R12.out).mono ?_
  rintro e w13 ⟨rfl, hb13⟩
  have hB13 := hB12.trans (hb13.mono hB12.size)
  have hD13 := hD12.below hb13 hD12.lt
  replace R5 := hide ((R5.out.below hb13).more hb13.size)
  have R7 := hide ((R7.out.below hb13).more hb13.size)
  clear hB12 hD12 hb13
  clear R12
  go_wp2_with fail
  refine (sameI w13 _ _ R5.out).mono ?_
  rintro e w14 ⟨rfl, hb14⟩
  have hB14 := hB13.trans (hb14.mono hB13.size)
  have hD14 := hD13.below hb14 hD13.lt
  have R7 := hide ((R7.out.below hb14).more hb14.size)
  clear hB13 hD13 hb14
  go_wp2_with fail
  refine (sane10 w14).mono ?_
  rintro e w15 ⟨A15, c15, rfl, r15, hb15⟩
  have hB15 := hB14.trans (hb15.mono hB14.size)
  have hD15 := hD14.below hb15 hD14.lt
  have R7 := hide ((R7.out.below hb15).more hb15.size)
  clear hB14 hD14 hb15
  have R15 := hide r15
  clear r15
  go_wp2_with fail
  refine (same4 w15 _ _ R15.out).mono ?_
  rintro e w16 ⟨rfl, hb16⟩
  have hB16 := hB15.trans (hb16.mono hB15.size)
  have hD16 := hD15.below hb16 hD15.lt
  have R7 := hide ((R7.out.below hb16).more hb16.size)
  clear hB15 hD15 hb16
  clear R15
  go_wp2_with fail
  refine (sane11 w16).mono ?_
  rintro e w17 ⟨A17, c17, rfl, r17, hb17⟩
  have hB17 := hB16.trans (hb17.mono hB16.size)
  have hD17 := hD16.below hb17 hD16.lt
  have R7 := hide ((R7.out.below hb17).more hb17.size)
  clear hB16 hD16 hb17
  have R17 := hide r17
  clear r17
  go_wp2_with fail
  refine (same5 w17 _ _ R17.out).mono ?_
  rintro e w18 ⟨rfl, hb18⟩
  have hB18 := hB17.trans (hb18.mono hB17.size)
  have hD18 := hD17.below hb18 hD17.lt
  have R7 := hide ((R7.out.below hb18).more hb18.size)
  clear hB17 hD17 hb18
  clear R17
  obtain ⟨z0, z1, z2, z3, z4, z5, z6, z7, z8, z9, z10, z11, z12, z13, z14, z15⟩ := dig_cell hD18
  go_wp2_with fail
  refine (sameD w18 _ _ HC7.out R7.out).mono ?_
  rintro e w19 ⟨rfl, hb19⟩
  have hB19 := hB18.trans (hb19.mono hB18.size)
  clear hB18 hD18 hb19 z0 z1 z2 z3 z4 z5 z6 z7 z8 z9 z10 z11 z12 z13 z14 z15
  go_wp2
  go_ret
  exact ⟨rfl, hB19⟩

end Go.Proofs.Ytbkpnfejhaedhaa
