/-
  Tables: those that the reference makes of a number, by contract.
-/
import Derived.Test.YtjnnohghgkjhcaaDoorM7
import Derived.Test.YtjnnohghgkjhcaaDoorM8
import Derived.Test.YtjnnohghgkjhcaaDoorM6
import Derived.Test.YtjnnohghgkjhcaaDoorM4
namespace Go.Proofs.YtjnnohghgkjhcaaDoor
open Go.RowKit
set_option linter.unusedVariables false
set_option linter.unusedSimpArgs false
theorem slice_mark (i : Nat) (hi : i < 6) (W : World) : (Instr.slice 9 (.string (S Tb.markB)) (some (.int .i64 (i : Int))) (some (.int .i64 ((i : Int) + 1))) none).run Tryd.prog W = .ok (.string (S [Tb.markB.getD i 0])) W := by
 have H : ∀ j : Fin 6, (S Tb.markB).extract j.val (j.val + 1) = S [Tb.markB.getD j.val 0] := by decide +kernel
 have h1 := H ⟨i, hi⟩
 simp only [] at h1
 rw [← h1]
 have hs : (S Tb.markB).size = 6 := rfl
 have e1 : (i : Int).toNat = i := by omega
 have e2 : ((i : Int) + 1).toNat = i + 1 := by omega
 rw [run_slice_string (P := Tryd.prog) W 9 (S Tb.markB) .i64 .i64 (i : Int) ((i : Int) + 1) Tryd.underlying9 (by omega) (by omega) (by rw [hs]; omega), e1, e2]
theorem around_lit (x : Int) (m : Nat) (k : Int) (hk : k = (m : Int)) (W : World) (hx : Wr.inI x) (hm : 0 < m) (hm2 : m ≤ 1099511627776) :
  Calls Tryd.prog 12 #[.int .i64 x, .int .i64 k] W fun e w' => e = .returned (.int .i64 ((Ce.around x m : Nat) : Int)) ∧ W = w' := by
 subst hk
 exact around_any x m W hx hm hm2
theorem cell_lit (n : Int) (k : Nat) (z : Int) (hz : z = (k : Int)) (w : World) (hn : Wr.inI n) (hk : k ≤ 1000) :
  Calls Tryd.prog 21 #[.int .i64 n, .int .i64 z] w fun e w' => e = .returned (VC (Tb.cellC n k)) ∧ Below w.heap.size w w' := by
 subst hz
 exact cell_any n k w hn hk
theorem tdiv_bounds (n : Int) (hn : Wr.inI n) (d : Int) (hd : 7 ≤ d) : -1400000000000000000 ≤ n.tdiv d ∧ n.tdiv d ≤ 1400000000000000000 := by
 unfold Wr.inI at hn
 have h2 : (n.tdiv d).natAbs = n.natAbs / d.natAbs := by rw [Int.natAbs_tdiv]; rfl
 have h3 : n.natAbs / d.natAbs ≤ n.natAbs / 7 := Nat.div_le_div_left (by omega) (by decide)
 omega
theorem words_at (k : Nat) (hk : k < 12) : (Tb.words.map VS).toArray[k]? = some (.string (S (Tb.words.getD k []))) := by
 have hl : Tb.words.length = 12 := rfl
 rw [List.getElem?_toArray, List.getElem?_map, List.getElem?_eq_getElem (by omega)]
 simp [VS, List.getD, hl, hk]
theorem words_len (k : Nat) : (Tb.words.getD k []).length ≤ 8 := by
 by_cases hk : k < 12
 ·have H : ∀ j : Fin 12, (Tb.words.getD j.val []).length ≤ 8 := by decide
  exact H ⟨k, hk⟩
 ·have : Tb.words.getD k [] = [] := by simp [List.getD, List.getElem?_eq_none (show Tb.words.length ≤ k by show 12 ≤ k; omega)]
  rw [this]
  simp
def gPtr (b0 : Nat) (T : TypeId) (cs : Array Value) : World → Value → Prop := fun W v => ∃ g, v = .pointer (some ⟨g, 0, none⟩) ∧ b0 ≤ g ∧ Blk W g T cs
theorem stabn_ptr (b0 : Nat) (T : TypeId) (cs : Array Value) : StabN b0 (gPtr b0 T cs) := fun _ _ _ _ hg hr ⟨g, h1, h2, h3⟩ => ⟨g, h1, h2, h3.grown hg fun e => by have := hr g e.symm; omega⟩
theorem bytes_push (W : World) (base g : Nat) (v : Value) (l : List UInt8) (c : UInt8) (hown : W.ownsRow base 5 1 v l.length (BV l)) (hg : Blk W g 5 (BV [c]).toArray) (hbase : base ≤ W.heap.size) (hlen : l.length ≤ 100000) (ty : TypeId) :
  ∃ v' W', (Builtin.append_ #[23, 23] ty #[v, .slice (some ⟨g, 0, none⟩) 1 1]).run Tryd.prog W = .ok v' W' ∧ W'.ownsRow base 5 1 v' (l ++ [c]).length (BV (l ++ [c])) ∧ W.grownBy W' v.ownBlock ∧ (v'.ownBlock = v.ownBlock ∨ v'.ownBlock = some W.heap.size) := by
 obtain ⟨j0, hj, hy0, hy1, hy2⟩ := info_parts byteInfo
 obtain ⟨v', w', hrun, hown', hgrow', hat'⟩ := run_append_any (P := Tryd.prog) W base 23 ty 5 j0 (.int .u8 0) 1 1 Tryd.underlying23 hj hy0 hy1 hy2 rfl (by omega)
  v l.length (BV l) hown W.heap.size (some ⟨g, 0, none⟩) 1 1 (BV [c]) (reads_bytes W g [c] hg) (fun u hu => BV_one [c] u hu) (by unfold maxLen; omega) (by omega) hbase
 refine ⟨v', w', hrun, ?_, hgrow', hat'⟩
 rw [BV_append, List.length_append]
 exact hown'
theorem bsB_of_own {w : World} {b : Nat} {v : Value} {l : List UInt8} (h : w.ownsRow b 5 1 v l.length (BV l)) (hl : l.length ≤ 1000) : BsB w b v l := by
 obtain ⟨A, c, hv, hc, _⟩ := own_slice h
 subst hv
 refine ⟨A, c, rfl, ⟨Reads.of_own h, hc, by show l.length ≤ _; omega⟩, fun a ha => ?_⟩
 subst ha
 exact (h.lt a.block rfl).1
theorem once_call (A : Option Addr) (c : Nat) (rs : List Tb.Rl) (w : World) (B : Nat) (R : List Tb.Rl) (hr : RulesAt w w.heap.size A rs) (hr0 : ∀ r ∈ rs, 0 < r.cells.l.length) (hn : rs.length ≤ 1000) (he : rs.map Tb.eR = R) (hB : B ≤ w.heap.size) (hc : ∀ r ∈ rs, ∀ a, r.cells.ad = some a → B ≤ a.block) (hR : (Tb.once R).length ≤ 1000) :
  Calls Tryd.prog 22 #[.slice A rs.length c] w fun e z => ∃ A' m c', e = .returned (.slice A' m c') ∧ LangB z B (.slice A' m c') (Tb.once R) ∧ Below w.heap.size w z := by
 refine (once_any A c rs w hr hr0 hn).mono ?_
 rintro e z ⟨v, out, rfl, q1, q2, q3, q4, q5⟩
 have ho : OwnR z B v (Tb.once R) := ⟨out, own_lower q1 hB, q2, by rw [q3, he], fun r hm a ha => hc r (q4 r hm) a ha⟩
 have hl := ho.langB hR
 obtain ⟨A6, c6, hv6, _⟩ := own_slice q1
 subst hv6
 exact ⟨A6, _, c6, rfl, hl, q5⟩
def ksL (base : Nat) (y5 : Value) (R : List Tb.Rl) (n : Int) (lang i k b0 : Nat) (c : UInt8) : List (World → Value → Prop) := [gIs (y5), gIs (.int .i64 (i : Int)), gIs (.int .i64 (97 + (i : Int))), gIs (.int .u8 (c.toNat : Int)), gNew b0 5 (BV [c]), gIs (.string (S [c])), gIs (.int .i64 n), gIs (.int .i64 (i : Int)), gIs (.int .i64 (lang : Int)), gIs (.int .i64 (3 * (lang : Int))), gIs (.int .i64 ((i : Int) + 3 * (lang : Int))), gIs (.int .i64 (k : Int)), gIs (VC (Tb.cellC n k)), gNew b0 5 (BV [Tb.cellC n k]), gRl b0 [c] 0 [Tb.cellC n k], gRls b0 [c] 0 [Tb.cellC n k], (fun W v => OwnR W base v (R ++ [Tb.mkR [c] 0 [Tb.cellC n k]]))]
theorem ksL_n (base : Nat) (y5 : Value) (R : List Tb.Rl) (n : Int) (lang i k b0 : Nat) (c : UInt8) : ∀ j, j ≠ 16 → StabN b0 ((ksL base y5 R n lang i k b0 c).getD j gAny)
 | 0, _ => stabn_is _ _
 | 1, _ => stabn_is _ _
 | 2, _ => stabn_is _ _
 | 3, _ => stabn_is _ _
 | 4, _ => stabn_new _ _ _
 | 5, _ => stabn_is _ _
 | 6, _ => stabn_is _ _
 | 7, _ => stabn_is _ _
 | 8, _ => stabn_is _ _
 | 9, _ => stabn_is _ _
 | 10, _ => stabn_is _ _
 | 11, _ => stabn_is _ _
 | 12, _ => stabn_is _ _
 | 13, _ => stabn_new _ _ _
 | 14, _ => stabn_rl _ _ _ _
 | 15, _ => stabn_rls _ _ _ _
 | 16, h => absurd rfl h
 | _ + 17, _ => stabn_any _
theorem ksL_b (base : Nat) (y5 : Value) (R : List Tb.Rl) (n : Int) (lang i k b0 : Nat) (c : UInt8) (j : Nat) : Stab ((ksL base y5 R n lang i k b0 c).getD j gAny) := by
 by_cases h : j = 16
 ·subst h
  exact stab_own _ _
 ·exact (ksL_n base y5 R n lang i k b0 c j h).stab
def ksM (base : Nat) (y5 : Value) (R : List Tb.Rl) (n : Int) (i k b0 : Nat) (c : UInt8) : List (World → Value → Prop) := [gIs (y5), gIs (.string (S Tb.markB)), gIs (.int .i64 (i : Int)), gIs (.int .i64 (i : Int)), gIs (.int .i64 ((i : Int) + 1)), gIs (.string (S [c])), gIs (.int .i64 n), gIs (.int .i64 (i : Int)), gIs (.int .i64 (k : Int)), gIs (VC (Tb.cellC n k)), gNew b0 5 (BV [Tb.cellC n k]), gRl b0 [c] 0 [Tb.cellC n k], gRls b0 [c] 0 [Tb.cellC n k], (fun W v => OwnR W base v (R ++ [Tb.mkR [c] 0 [Tb.cellC n k]]))]
theorem ksM_n (base : Nat) (y5 : Value) (R : List Tb.Rl) (n : Int) (i k b0 : Nat) (c : UInt8) : ∀ j, j ≠ 13 → StabN b0 ((ksM base y5 R n i k b0 c).getD j gAny)
 | 0, _ => stabn_is _ _
 | 1, _ => stabn_is _ _
 | 2, _ => stabn_is _ _
 | 3, _ => stabn_is _ _
 | 4, _ => stabn_is _ _
 | 5, _ => stabn_is _ _
 | 6, _ => stabn_is _ _
 | 7, _ => stabn_is _ _
 | 8, _ => stabn_is _ _
 | 9, _ => stabn_is _ _
 | 10, _ => stabn_new _ _ _
 | 11, _ => stabn_rl _ _ _ _
 | 12, _ => stabn_rls _ _ _ _
 | 13, h => absurd rfl h
 | _ + 14, _ => stabn_any _
theorem ksM_b (base : Nat) (y5 : Value) (R : List Tb.Rl) (n : Int) (i k b0 : Nat) (c : UInt8) (j : Nat) : Stab ((ksM base y5 R n i k b0 c).getD j gAny) := by
 by_cases h : j = 13
 ·subst h
  exact stab_own _ _
 ·exact (ksM_n base y5 R n i k b0 c j h).stab
def ksC (g9 : Nat) (n : Int) (k1 k2 i a6 wh b0 : Nat) (tx : List UInt8) : List (World → Value → Prop) := [gIs (.slice (some ⟨g9, 0, none⟩) 12 12), gIs (.int .i64 (k1 : Int)), gIs (.pointer (some ⟨g9, k1, none⟩)), gIs (.string (S tx)), gIs (.int .i64 n), gIs (.int .i64 (n.tdiv 7)), gIs (.int .i64 (i : Int)), gIs (.int .i64 (i : Int)), gIs (.int .i64 ((i : Int) * (i : Int))), gIs (.int .i64 (n.tdiv 7 + (i : Int) * (i : Int))), gIs (.int .i64 (a6 : Int)), gIs (.int .i64 (wh : Int)), gIs (.int .i64 n), gIs (.int .i64 (i : Int)), gIs (.int .i64 (k2 : Int)), gIs (VC (Tb.cellC n k2)), gNew b0 5 (BV [Tb.cellC n k2]), gRl b0 tx (wh : Int) [Tb.cellC n k2], gPtr b0 45 #[.string { data := #[] }, .int .i64 0, .slice none 0 0]]
theorem ksC_n (g9 : Nat) (n : Int) (k1 k2 i a6 wh b0 : Nat) (tx : List UInt8) : ∀ j, StabN b0 ((ksC g9 n k1 k2 i a6 wh b0 tx).getD j gAny)
 | 0 => stabn_is _ _
 | 1 => stabn_is _ _
 | 2 => stabn_is _ _
 | 3 => stabn_is _ _
 | 4 => stabn_is _ _
 | 5 => stabn_is _ _
 | 6 => stabn_is _ _
 | 7 => stabn_is _ _
 | 8 => stabn_is _ _
 | 9 => stabn_is _ _
 | 10 => stabn_is _ _
 | 11 => stabn_is _ _
 | 12 => stabn_is _ _
 | 13 => stabn_is _ _
 | 14 => stabn_is _ _
 | 15 => stabn_is _ _
 | 16 => stabn_new _ _ _
 | 17 => stabn_rl _ _ _ _
 | 18 => stabn_ptr _ _ _
 | _ + 19 => stabn_any _
theorem ksC_b (g9 : Nat) (n : Int) (k1 k2 i a6 wh b0 : Nat) (tx : List UInt8) (j : Nat) : Stab ((ksC g9 n k1 k2 i a6 wh b0 tx).getD j gAny) := (ksC_n g9 n k1 k2 i a6 wh b0 tx j).stab
def ksD (base g1 : Nat) (mk : Value) (l : List UInt8) (n : Int) (i b0 : Nat) (we : World) : List (World → Value → Prop) := [gIs (.pointer (some ⟨g1, 2, none⟩)), gIs (mk), gIs (.int .i64 n), gIs (.int .i64 (i : Int)), gIs (VC (Tb.cellC n i)), gNew b0 5 (BV [Tb.cellC n i]), (fun W v => W.ownsRow base 5 1 v (l ++ [Tb.cellC n i]).length (BV (l ++ [Tb.cellC n i])) ∧ we.grownBy W mk.ownBlock), gIs (.pointer (some ⟨g1, 2, none⟩))]
theorem ksD_n (base g1 : Nat) (mk : Value) (l : List UInt8) (n : Int) (i b0 : Nat) (we : World) : ∀ j, j ≠ 6 → StabN b0 ((ksD base g1 mk l n i b0 we).getD j gAny)
 | 0, _ => stabn_is _ _
 | 1, _ => stabn_is _ _
 | 2, _ => stabn_is _ _
 | 3, _ => stabn_is _ _
 | 4, _ => stabn_is _ _
 | 5, _ => stabn_new _ _ _
 | 6, h => absurd rfl h
 | 7, _ => stabn_is _ _
 | _ + 8, _ => stabn_any _
theorem ksD_b (base g1 : Nat) (mk : Value) (l : List UInt8) (n : Int) (i b0 : Nat) (we : World) (j : Nat) : Stab ((ksD base g1 mk l n i b0 we).getD j gAny) := by
 by_cases h : j = 6
 ·subst h
  exact fun W W' v hb ⟨h1, h2⟩ => ⟨own_below h1 hb, grown_below h2 hb⟩
 ·exact (ksD_n base g1 mk l n i b0 we j h).stab
set_option maxHeartbeats 16000000 in
set_option maxRecDepth 100000 in
theorem tables_any (n : Int) (hn : Wr.inI n) : TablesC n := by
 intro w
 have CC := hide (fun (k : Nat) (hk : k ≤ 1000) (W : World) => cell_any n k W hn hk)
 go_enter Tryd.func5, Tryd.ntmps5
 go_upto_region 2 with fail
 refine name_world fun V hV => ?_
 have V2 := hide (show Blk V w.heap.size 29 #[.slice none 0 0, .slice none 0 0, .slice none 0 0, .slice none 0 0, .slice none 0 0, .slice none 0 0, .slice none 0 0] by rw [← hV.out]; exact (Blk.new w _ _).alloc _)
 have V3 := hide (show Blk V (w.heap.size + 1) 29 #[.slice none 0 0, .slice none 0 0, .slice none 0 0, .slice none 0 0, .slice none 0 0, .slice none 0 0, .slice none 0 0] by rw [← hV.out]; exact Blk.new2 w _ _ _)
 have HV := hide (show Below w.heap.size w V by rw [← hV.out]; exact ((Below.refl _ _).alloc (Nat.le_refl _) _).alloc (by simp) _)
 have hvs : V.heap.size = w.heap.size + 1 + 1 := by rw [← hV.out]; simp
 clear hV
 obtain ⟨g1, hg1⟩ : ∃ g1, g1 = w.heap.size + 1 := ⟨_, rfl⟩
 rw [← hg1] at V3 ⊢
 obtain ⟨g0, hg0⟩ : ∃ g0, g0 = w.heap.size := ⟨_, rfl⟩
 rw [← hg0] at V2 ⊢
 have hgV : g1 < V.heap.size := by omega
 have HG1 := hide (show w.heap.size ≤ g1 ∧ w.heap.size ≤ g0 ∧ g0 < V.heap.size ∧ g0 ≠ g1 by omega)
 clear hg1 hg0 hvs
 go_wp2
 go_loopw [4] (fun s wr => ∃ (lang : Nat) (m0 m1 : Value), lang ≤ 2 ∧ s = .int .i64 (lang : Int) ∧ Blk wr g1 29 #[m0, m1, .slice none 0 0, .slice none 0 0, .slice none 0 0, .slice none 0 0, .slice none 0 0] ∧
  Hid (1 ≤ lang → LangB wr V.heap.size m0 (Tb.once (Tb.rawR n 0))) ∧ Hid (2 ≤ lang → LangB wr V.heap.size m1 (Tb.once (Tb.rawR n 1))) ∧ V.grownBy wr (some g1)) (fun s _ => 2 - (intOf s).toNat)
 case atStart => exact ⟨0, _, _, by omega, rfl, V3.out, fun h => absurd h (by omega), fun h => absurd h (by omega), World.grownBy.refl _ _⟩
 case round =>
  obtain ⟨lang, m0, m1, hla, rfl, hblk3, HM0, HM1, hgrV⟩ := hrel
  obtain ⟨wd, rfl⟩ : ∃ wd, wd = wr := ⟨wr, rfl⟩
  have B3 := hide hblk3
  have GV := hide hgrV
  have hg1d : g1 < wd.heap.size := hblk3.lt
  have hVd := hgrV.size
  clear hblk3 hgrV
  have hl0 : (0 : Int) ≤ (lang : Int) := by omega
  by_cases hl2 : (lang : Int) < 2
  ·have HWW := hide (Below.refl wd.heap.size wd)
   go_wp2
   go_loopw [5, 6] (fun s5 s wr => ∃ (i : Nat) (y5 : Value), i ≤ 26 ∧ s = .int .i64 (i : Int) ∧ y5 = s5 ∧ OwnR wr wd.heap.size y5 ((List.range i).map (Tb.letterR n lang)) ∧ Below wd.heap.size wd wr) (fun _ s _ => 26 - (intOf s).toNat)
   case atStart => exact ⟨0, _, by omega, rfl, rfl, OwnR.nil _ _, HWW.out⟩
   case round =>
    obtain ⟨i, y5, hi, rfl, rfl, hown, hbel2⟩ := hrel
    obtain ⟨we, rfl⟩ : ∃ we, we = wr := ⟨wr, rfl⟩
    have hi0 : (0 : Int) ≤ (i : Int) := by omega
    by_cases hi26 : (i : Int) < 26
    ·go_upto_region 9 with fail
     have HB2 := hide hbel2
     have hws := hbel2.size
     obtain ⟨b0, hb0⟩ : ∃ b0, b0 = we.heap.size := ⟨_, rfl⟩
     obtain ⟨R, hR⟩ : ∃ R, R = (List.range i).map (Tb.letterR n lang) := ⟨_, rfl⟩
     rw [← hR] at hown
     have hlen : R.length ≤ 1000 := by rw [hR, List.length_map, List.length_range]; omega
     have HO := hide hown
     have hcm : ((i : Int) + 3 * (lang : Int)) % 26 = (((i + 3 * lang) % 26 : Nat) : Int) := by omega
     have CCK := hide (fun W => CC.out ((i + 3 * lang) % 26) (by omega) W)
     obtain ⟨k, hkk⟩ : ∃ k, k = (i + 3 * lang) % 26 := ⟨_, rfl⟩
     obtain ⟨c, hcc⟩ : ∃ c, c = UInt8.ofNat (97 + i) := ⟨_, rfl⟩
     have hcn : (c.toNat : Int) = 97 + (i : Int) := by rw [hcc]; simp only [UInt8.toNat_ofNat']; omega
     rw [← hkk] at hcm CCK
     have HLR := hide (show (List.range (i + 1)).map (Tb.letterR n lang) = R ++ [Tb.mkR [c] 0 [Tb.cellC n k]] by rw [List.range_succ, List.map_append, hR, hkk, hcc]; rfl)
     clear hkk hcc hR hown hbel2
     have hw2 : IntKind.i64.wrap (97 + (i : Int)) = 97 + (i : Int) := by rw [IntKind.wrap_i64]; omega
     have hw3 : IntKind.u8.wrap (97 + (i : Int)) = (c.toNat : Int) := by rw [hcn]; unfold IntKind.wrap; simp [IntKind.bits, IntKind.signed]; omega
     have hw9 : IntKind.i64.wrap (3 * (lang : Int)) = 3 * (lang : Int) := by rw [IntKind.wrap_i64]; omega
     have hw10 : IntKind.i64.wrap ((i : Int) + 3 * (lang : Int)) = (i : Int) + 3 * (lang : Int) := by rw [IntKind.wrap_i64]; omega
     have hw11 : ((i : Int) + 3 * (lang : Int)).tmod 26 = (k : Int) := by rw [Int.tmod_eq_emod_of_nonneg (by omega)]; exact hcm
     have hw12 : IntKind.i64.wrap (k : Int) = (k : Int) := by rw [IntKind.wrap_i64]; omega
     clear hcm hcn
     refine wp_region_threeT 16 17 [some 23, some 24, some 25, some 26, some 27, some 28, some 29, some 30, some 31, some 32, some 33, some 34, some 35, some 36, some 37, some 38, some 39] (gAll (ksL wd.heap.size y5 R n lang i k b0 c))
      (fun b W => (b = false → Below we.heap.size we W) ∧ Below wd.heap.size wd W ∧ b0 ≤ W.heap.size) (by decide) (by kernel_rfl) (by kernel_rfl) (by kernel_rfl) (by rfl) (by decide) (by rfl) ⟨fun _ => (Below.refl _ _).drew, HB2.out.drew, by rw [hb0]; exact Nat.le_refl _⟩ ?_ ?_ ?_
     ·intro j hj hjm b A x W hC hd hr
      have stay : ∀ W', Below W.heap.size W W' → (b = false → Below we.heap.size we W') ∧ Below wd.heap.size wd W' ∧ b0 ≤ W'.heap.size := fun W' hb => ⟨fun h => (hC.1 h).trans (hb.mono (hC.1 h).size), hC.2.1.trans (hb.mono hC.2.1.size), Nat.le_trans hC.2.2 hb.size⟩
      have KSB : ∀ k' u {W'}, Below W.heap.size W W' → gAll (ksL wd.heap.size y5 R n lang i k b0 c) k' u W → gAll (ksL wd.heap.size y5 R n lang i k b0 c) k' u W' := fun k' u W' hb h => ksL_b wd.heap.size y5 R n lang i k b0 c k' W W' u hb h
      have KSN : ∀ k', k' ≠ 16 → ∀ u {W' row}, W.grownBy W' row → (∀ g, row = some g → g < b0) → gAll (ksL wd.heap.size y5 R n lang i k b0 c) k' u W → gAll (ksL wd.heap.size y5 R n lang i k b0 c) k' u W' := fun k' hk u W' row hg hr h => ksL_n wd.heap.size y5 R n lang i k b0 c k' hk W W' row u hg hr h
      have hj' : j = 0 ∨ j = 1 ∨ j = 2 ∨ j = 3 ∨ j = 4 ∨ j = 5 ∨ j = 6 ∨ j = 7 ∨ j = 8 ∨ j = 9 ∨ j = 10 ∨ j = 11 ∨ j = 12 ∨ j = 13 ∨ j = 14 ∨ j = 15 := by omega
      rcases hj' with rfl | rfl | rfl | rfl | rfl | rfl | rfl | rfl | rfl | rfl | rfl | rfl | rfl | rfl | rfl | rfl
      ·have e5 : A.tmps[5]?.getD undef = y5 := hr 5 (by decide)
       refine wpOp_step rfl (fun K' hK => ?_)
       go_simp
       exact hK _ _ ⟨_, rfl, rfl, fun _ _ _ h => h, hC⟩
      ·have e6 : A.tmps[6]?.getD undef = .int .i64 (i : Int) := hr 6 (by decide)
       refine wpOp_step rfl (fun K' hK => ?_)
       go_simp
       exact hK _ _ ⟨_, rfl, rfl, fun _ _ _ h => h, hC⟩
      ·have d1 : A.tmps[24]?.getD undef = .int .i64 (i : Int) := fI hd 1 24
       refine wpOp_step rfl (fun K' hK => ?_)
       go_simp
       exact hK _ _ ⟨_, rfl, rfl, fun _ _ _ h => h, hC⟩
      ·have d2 : A.tmps[25]?.getD undef = .int .i64 (97 + (i : Int)) := fI hd 2 25
       refine wpOp_step rfl (fun K' hK => ?_)
       go_simp
       exact hK _ _ ⟨_, rfl, rfl, fun _ _ _ h => h, hC⟩
      ·have d3 : A.tmps[26]?.getD undef = .int .u8 (c.toNat : Int) := fI hd 3 26
       refine wpOp_step rfl (fun K' hK => ?_)
       go_simp
       exact hK _ _ ⟨_, rfl, ⟨W.heap.size, rfl, hC.2.2, Blk.new W _ _⟩, fun k' _ u h => KSB k' u (below_alloc W _) h, stay _ (below_alloc W _)⟩
      ·obtain ⟨g4, hx4, hg4, hb4⟩ : gNew b0 5 (BV [c]) W (x 4) := (hd 4 (by decide)).2
       have d4 : A.tmps[27]?.getD undef = .slice (some ⟨g4, 0, none⟩) 1 1 := ((hd 4 (by decide)).1 27 rfl).trans hx4
       refine wpOp_step rfl (fun K' hK => ?_)
       have hcv := conv_new8 hb4
       go_simp
       exact hK _ _ ⟨_, rfl, rfl, fun _ _ _ h => h, hC⟩
      ·have e0 : A.tmps[0]?.getD undef = .int .i64 n := hr 0 (by decide)
       refine wpOp_step rfl (fun K' hK => ?_)
       go_simp
       exact hK _ _ ⟨_, rfl, rfl, fun _ _ _ h => h, hC⟩
      ·have e6 : A.tmps[6]?.getD undef = .int .i64 (i : Int) := hr 6 (by decide)
       refine wpOp_step rfl (fun K' hK => ?_)
       go_simp
       exact hK _ _ ⟨_, rfl, rfl, fun _ _ _ h => h, hC⟩
      ·have e4 : A.tmps[4]?.getD undef = .int .i64 (lang : Int) := hr 4 (by decide)
       refine wpOp_step rfl (fun K' hK => ?_)
       go_simp
       exact hK _ _ ⟨_, rfl, rfl, fun _ _ _ h => h, hC⟩
      ·have d8 : A.tmps[31]?.getD undef = .int .i64 (lang : Int) := fI hd 8 31
       refine wpOp_step rfl (fun K' hK => ?_)
       go_simp
       exact hK _ _ ⟨_, rfl, rfl, fun _ _ _ h => h, hC⟩
      ·have d7 : A.tmps[30]?.getD undef = .int .i64 (i : Int) := fI hd 7 30
       have d9 : A.tmps[32]?.getD undef = .int .i64 (3 * (lang : Int)) := fI hd 9 32
       refine wpOp_step rfl (fun K' hK => ?_)
       go_simp
       exact hK _ _ ⟨_, rfl, rfl, fun _ _ _ h => h, hC⟩
      ·have d10 : A.tmps[33]?.getD undef = .int .i64 ((i : Int) + 3 * (lang : Int)) := fI hd 10 33
       refine wpOp_step rfl (fun K' hK => ?_)
       go_simp
       exact hK _ _ ⟨_, rfl, rfl, fun _ _ _ h => h, hC⟩
      ·have d6 : A.tmps[29]?.getD undef = .int .i64 n := fI hd 6 29
       have d11 : A.tmps[34]?.getD undef = .int .i64 (k : Int) := fI hd 11 34
       refine wpOp_step rfl (fun K' hK => ?_)
       go_simp
       go_at_call 21
       refine (unhide CCK W).mono ?_
       rintro e W' ⟨rfl, hb⟩
       exact hK _ _ ⟨_, rfl, rfl, fun k' _ u h => KSB k' u hb h, stay _ hb⟩
      ·have d12 : A.tmps[35]?.getD undef = VC (Tb.cellC n k) := fI hd 12 35
       refine wpOp_step rfl (fun K' hK => ?_)
       go_simp
       exact hK _ _ ⟨_, rfl, ⟨W.heap.size, rfl, hC.2.2, Blk.new W _ _⟩, fun k' _ u h => KSB k' u (below_alloc W _) h, stay _ (below_alloc W _)⟩
      ·have d5 : A.tmps[28]?.getD undef = .string (S [c]) := fI hd 5 28
       obtain ⟨g13, hx13, hg13, hb13⟩ : gNew b0 5 (BV [Tb.cellC n k]) W (x 13) := (hd 13 (by decide)).2
       have d13 : A.tmps[36]?.getD undef = .slice (some ⟨g13, 0, none⟩) 1 1 := ((hd 13 (by decide)).1 36 rfl).trans hx13
       refine wpOp_step rfl (fun K' hK => ?_)
       go_simp
       exact hK _ _ ⟨_, rfl, ⟨g13, rfl, hg13, hb13⟩, fun _ _ _ h => h, hC⟩
      ·obtain ⟨g14, hx14, hg14, hb14⟩ : gRl b0 [c] 0 [Tb.cellC n k] W (x 14) := (hd 14 (by decide)).2
       have d14 : A.tmps[37]?.getD undef = .agg #[.string (S [c]), .int .i64 0, .slice (some ⟨g14, 0, none⟩) 1 1] := ((hd 14 (by decide)).1 37 rfl).trans hx14
       refine wpOp_step rfl (fun K' hK => ?_)
       go_simp
       exact hK _ _ ⟨_, rfl, ⟨g14, W.heap.size, rfl, hC.2.2, Blk.new W _ _, hg14, hb14.alloc _⟩, fun k' _ u h => KSB k' u (below_alloc W _) h, stay _ (below_alloc W _)⟩
     ·intro A x W hC hd hr
      have stay : ∀ W', Below W.heap.size W W' → (false = false → Below we.heap.size we W') ∧ Below wd.heap.size wd W' ∧ b0 ≤ W'.heap.size := fun W' hb => ⟨fun h => (hC.1 h).trans (hb.mono (hC.1 h).size), hC.2.1.trans (hb.mono hC.2.1.size), Nat.le_trans hC.2.2 hb.size⟩
      have KSB : ∀ k' u {W'}, Below W.heap.size W W' → gAll (ksL wd.heap.size y5 R n lang i k b0 c) k' u W → gAll (ksL wd.heap.size y5 R n lang i k b0 c) k' u W' := fun k' u W' hb h => ksL_b wd.heap.size y5 R n lang i k b0 c k' W W' u hb h
      have KSN : ∀ k', k' ≠ 16 → ∀ u {W' row}, W.grownBy W' row → (∀ g, row = some g → g < b0) → gAll (ksL wd.heap.size y5 R n lang i k b0 c) k' u W → gAll (ksL wd.heap.size y5 R n lang i k b0 c) k' u W' := fun k' hk u W' row hg hr h => ksL_n wd.heap.size y5 R n lang i k b0 c k' hk W W' row u hg hr h
      obtain ⟨g, h, hx, hh0, hhb, hg0, hgb⟩ : gRls b0 [c] 0 [Tb.cellC n k] W (x 15) := (hd 15 (by decide)).2
      have dr : A.tmps[38]?.getD undef = .slice (some ⟨h, 0, none⟩) 1 1 := ((hd 15 (by decide)).1 38 rfl).trans hx
      have dy : A.tmps[23]?.getD undef = y5 := fI hd 0 23
      have hbw := hC.1 rfl
      obtain ⟨v', W', hrun, hown', hgrow', hat'⟩ := OwnR.push (b0 := b0) (HO.out.below hbw) [c] 0 [Tb.cellC n k] hhb hgb (by simp) inI_zero (by simp) (by simp) (by have h1 : b0 ≤ g := hg0; omega) (fun k hk => by rw [hb0]; exact (HO.out.lt k hk).2) hg0 (by have := hC.2.2; omega) hlen 24
      refine wpOp_step rfl (fun K' hK => ?_)
      refine step_run_append (by rfl) (.tmp 23) (.tmp 38) 24 rfl y5 (.slice (some ⟨h, 0, none⟩) 1 1) (by show A.tmps.getD 23 undef = _; simpa using dy) (by show A.tmps.getD 38 undef = _; simpa using dr) v' W' hrun ?_
      refine hK _ _ ⟨v', rfl, hown', fun k' hk' u h => KSN k' hk' u hgrow' (fun g' hg' => by rw [hb0]; exact (HO.out.lt g' hg').2) h, ⟨fun h => (by cases h), hC.2.1.grown hgrow' hC.2.1.size (fun g' hg' => (HO.out.lt g' hg').1), Nat.le_trans hC.2.2 hgrow'.size⟩⟩
     ·intro x W hC hR
      have hown' : OwnR W wd.heap.size (x 16) (R ++ [Tb.mkR [c] 0 [Tb.cellC n k]]) := hR 16 (by decide)
      have HO2 := hide (show OwnR W wd.heap.size (x 16) ((List.range (i + 1)).map (Tb.letterR n lang)) by rw [HLR.out]; exact hown')
      have HBW := hide hC.2.1
      clear hown' hC hR
      refine wpOp_step rfl (fun K' hK => ?_)
      simp only [putL, Act.put, Nat.zero_add, Nat.reduceAdd, List.setIfInBounds_toArray, List.set_cons_succ, List.set_cons_zero]
      generalize x 0 = x0
      generalize x 1 = x1
      generalize x 2 = x2
      generalize x 3 = x3
      generalize x 4 = x4
      generalize x 5 = x5
      generalize x 6 = x6
      generalize x 7 = x7
      generalize x 8 = x8
      generalize x 9 = x9
      generalize x 10 = x10
      generalize x 11 = x11
      generalize x 12 = x12
      generalize x 13 = x13
      generalize x 14 = x14
      generalize x 15 = x15
      generalize x 16 = x16 at *
      go_simp
      refine hK _ _ ?_
      clear hK K'
      go_wp2
      exact ⟨⟨i + 1, _, by omega, by go_num, rfl, HO2.out, HBW.out⟩, by simp [intOf]; omega⟩
    ·obtain rfl : i = 26 := by omega
     have HO9 := hide hown
     have HB9 := hide hbel2
     clear hown hbel2
     go_upto_region 11 with fail
     have hmk : (ByteArray.mk #[32, 46, 44, 63, 39, 45]) = S Tb.markB := rfl
     rw [hmk]
     have hmks : (S Tb.markB).size = 6 := rfl
     go_wp2
     go_loopw [5, 8] (fun s5 s wr => ∃ (i : Nat) (y5 : Value), i ≤ 6 ∧ s = .int .i64 (i : Int) ∧ y5 = s5 ∧ OwnR wr wd.heap.size y5 ((List.range 26).map (Tb.letterR n lang) ++ (List.range i).map (Tb.markR n)) ∧ Below wd.heap.size wd wr) (fun _ s _ => 6 - (intOf s).toNat)
     case atStart => exact ⟨0, _, by omega, rfl, rfl, by simpa using HO9.out, HB9.out⟩
     case round =>
      clear HO9 HB9 hi hi0 hi26
      obtain ⟨i, y5, hi, rfl, rfl, hown, hbel2⟩ := hrel
      obtain ⟨we, rfl⟩ : ∃ we, we = wr := ⟨wr, rfl⟩
      have hi0 : (0 : Int) ≤ (i : Int) := by omega
      by_cases hi6 : (i : Int) < 6
      ·go_upto_region 14 with fail
       have HB2 := hide hbel2
       have hws := hbel2.size
       obtain ⟨b0, hb0⟩ : ∃ b0, b0 = we.heap.size := ⟨_, rfl⟩
       obtain ⟨R, hR⟩ : ∃ R, R = (List.range 26).map (Tb.letterR n lang) ++ (List.range i).map (Tb.markR n) := ⟨_, rfl⟩
       rw [← hR] at hown
       have hlen : R.length ≤ 1000 := by rw [hR]; simp; omega
       have HO := hide hown
       obtain ⟨k, hkk⟩ : ∃ k, k = 26 + i := ⟨_, rfl⟩
       obtain ⟨c, hcc⟩ : ∃ c, c = Tb.markB.getD i 0 := ⟨_, rfl⟩
       have CCK := hide (fun W => CC.out k (by omega) W)
       have hsm := fun W => slice_mark i (by omega) W
       rw [← hcc] at hsm
       have HLR := hide (show (List.range 26).map (Tb.letterR n lang) ++ (List.range (i + 1)).map (Tb.markR n) = R ++ [Tb.mkR [c] 0 [Tb.cellC n k]] by rw [List.range_succ (n := i), List.map_append, hR, hkk, hcc, List.append_assoc]; rfl)
       have hw4 : IntKind.i64.wrap ((i : Int) + 1) = (i : Int) + 1 := by rw [IntKind.wrap_i64]; omega
       have hw8 : IntKind.i64.wrap (26 + (i : Int)) = (k : Int) := by rw [IntKind.wrap_i64]; omega
       clear hown hbel2 hkk hcc hR
       refine wp_region_threeT 13 14 [some 46, some 47, some 48, some 49, some 50, some 51, some 52, some 53, some 54, some 55, some 56, some 57, some 58, some 59] (gAll (ksM wd.heap.size y5 R n i k b0 c))
        (fun b W => (b = false → Below we.heap.size we W) ∧ Below wd.heap.size wd W ∧ b0 ≤ W.heap.size) (by decide) (by kernel_rfl) (by kernel_rfl) (by kernel_rfl) (by rfl) (by decide) (by rfl) ⟨fun _ => (Below.refl _ _).drew, HB2.out.drew, by rw [hb0]; exact Nat.le_refl _⟩ ?_ ?_ ?_
       ·intro j hj hjm b A x W hC hd hr
        have stay : ∀ W', Below W.heap.size W W' → (b = false → Below we.heap.size we W') ∧ Below wd.heap.size wd W' ∧ b0 ≤ W'.heap.size := fun W' hb => ⟨fun h => (hC.1 h).trans (hb.mono (hC.1 h).size), hC.2.1.trans (hb.mono hC.2.1.size), Nat.le_trans hC.2.2 hb.size⟩
        have KSB : ∀ k' u {W'}, Below W.heap.size W W' → gAll (ksM wd.heap.size y5 R n i k b0 c) k' u W → gAll (ksM wd.heap.size y5 R n i k b0 c) k' u W' := fun k' u W' hb h => ksM_b wd.heap.size y5 R n i k b0 c k' W W' u hb h
        have KSN : ∀ k', k' ≠ 13 → ∀ u {W' row}, W.grownBy W' row → (∀ g, row = some g → g < b0) → gAll (ksM wd.heap.size y5 R n i k b0 c) k' u W → gAll (ksM wd.heap.size y5 R n i k b0 c) k' u W' := fun k' hk u W' row hg hr h => ksM_n wd.heap.size y5 R n i k b0 c k' hk W W' row u hg hr h
        have hj' : j = 0 ∨ j = 1 ∨ j = 2 ∨ j = 3 ∨ j = 4 ∨ j = 5 ∨ j = 6 ∨ j = 7 ∨ j = 8 ∨ j = 9 ∨ j = 10 ∨ j = 11 ∨ j = 12 := by omega
        rcases hj' with rfl | rfl | rfl | rfl | rfl | rfl | rfl | rfl | rfl | rfl | rfl | rfl | rfl
        ·have e5 : A.tmps[5]?.getD undef = y5 := hr 5 (by decide)
         refine wpOp_step rfl (fun K' hK => ?_)
         go_simp
         exact hK _ _ ⟨_, rfl, rfl, fun _ _ _ h => h, hC⟩
        ·have e7 : A.tmps[7]?.getD undef = .string (S Tb.markB) := hr 7 (by decide)
         refine wpOp_step rfl (fun K' hK => ?_)
         go_simp
         exact hK _ _ ⟨_, rfl, rfl, fun _ _ _ h => h, hC⟩
        ·have e8 : A.tmps[8]?.getD undef = .int .i64 (i : Int) := hr 8 (by decide)
         refine wpOp_step rfl (fun K' hK => ?_)
         go_simp
         exact hK _ _ ⟨_, rfl, rfl, fun _ _ _ h => h, hC⟩
        ·have e8 : A.tmps[8]?.getD undef = .int .i64 (i : Int) := hr 8 (by decide)
         refine wpOp_step rfl (fun K' hK => ?_)
         go_simp
         exact hK _ _ ⟨_, rfl, rfl, fun _ _ _ h => h, hC⟩
        ·have d3 : A.tmps[49]?.getD undef = .int .i64 (i : Int) := fI hd 3 49
         refine wpOp_step rfl (fun K' hK => ?_)
         go_simp
         exact hK _ _ ⟨_, rfl, rfl, fun _ _ _ h => h, hC⟩
        ·have d1 : A.tmps[47]?.getD undef = .string (S Tb.markB) := fI hd 1 47
         have d2 : A.tmps[48]?.getD undef = .int .i64 (i : Int) := fI hd 2 48
         have d4 : A.tmps[50]?.getD undef = .int .i64 ((i : Int) + 1) := fI hd 4 50
         refine wpOp_step rfl (fun K' hK => ?_)
         go_simp
         exact hK _ _ ⟨_, rfl, rfl, fun _ _ _ h => h, hC⟩
        ·have e0 : A.tmps[0]?.getD undef = .int .i64 n := hr 0 (by decide)
         refine wpOp_step rfl (fun K' hK => ?_)
         go_simp
         exact hK _ _ ⟨_, rfl, rfl, fun _ _ _ h => h, hC⟩
        ·have e8 : A.tmps[8]?.getD undef = .int .i64 (i : Int) := hr 8 (by decide)
         refine wpOp_step rfl (fun K' hK => ?_)
         go_simp
         exact hK _ _ ⟨_, rfl, rfl, fun _ _ _ h => h, hC⟩
        ·have d7 : A.tmps[53]?.getD undef = .int .i64 (i : Int) := fI hd 7 53
         refine wpOp_step rfl (fun K' hK => ?_)
         go_simp
         exact hK _ _ ⟨_, rfl, rfl, fun _ _ _ h => h, hC⟩
        ·have d6 : A.tmps[52]?.getD undef = .int .i64 n := fI hd 6 52
         have d8 : A.tmps[54]?.getD undef = .int .i64 (k : Int) := fI hd 8 54
         refine wpOp_step rfl (fun K' hK => ?_)
         go_simp
         go_at_call 21
         refine (unhide CCK W).mono ?_
         rintro e W' ⟨rfl, hb⟩
         exact hK _ _ ⟨_, rfl, rfl, fun k' _ u h => KSB k' u hb h, stay _ hb⟩
        ·have d9 : A.tmps[55]?.getD undef = VC (Tb.cellC n k) := fI hd 9 55
         refine wpOp_step rfl (fun K' hK => ?_)
         go_simp
         exact hK _ _ ⟨_, rfl, ⟨W.heap.size, rfl, hC.2.2, Blk.new W _ _⟩, fun k' _ u h => KSB k' u (below_alloc W _) h, stay _ (below_alloc W _)⟩
        ·have d5 : A.tmps[51]?.getD undef = .string (S [c]) := fI hd 5 51
         obtain ⟨g10, hx10, hg10, hb10⟩ : gNew b0 5 (BV [Tb.cellC n k]) W (x 10) := (hd 10 (by decide)).2
         have d10 : A.tmps[56]?.getD undef = .slice (some ⟨g10, 0, none⟩) 1 1 := ((hd 10 (by decide)).1 56 rfl).trans hx10
         refine wpOp_step rfl (fun K' hK => ?_)
         go_simp
         exact hK _ _ ⟨_, rfl, ⟨g10, rfl, hg10, hb10⟩, fun _ _ _ h => h, hC⟩
        ·obtain ⟨g11, hx11, hg11, hb11⟩ : gRl b0 [c] 0 [Tb.cellC n k] W (x 11) := (hd 11 (by decide)).2
         have d11 : A.tmps[57]?.getD undef = .agg #[.string (S [c]), .int .i64 0, .slice (some ⟨g11, 0, none⟩) 1 1] := ((hd 11 (by decide)).1 57 rfl).trans hx11
         refine wpOp_step rfl (fun K' hK => ?_)
         go_simp
         exact hK _ _ ⟨_, rfl, ⟨g11, W.heap.size, rfl, hC.2.2, Blk.new W _ _, hg11, hb11.alloc _⟩, fun k' _ u h => KSB k' u (below_alloc W _) h, stay _ (below_alloc W _)⟩
       ·intro A x W hC hd hr
        have stay : ∀ W', Below W.heap.size W W' → (false = false → Below we.heap.size we W') ∧ Below wd.heap.size wd W' ∧ b0 ≤ W'.heap.size := fun W' hb => ⟨fun h => (hC.1 h).trans (hb.mono (hC.1 h).size), hC.2.1.trans (hb.mono hC.2.1.size), Nat.le_trans hC.2.2 hb.size⟩
        have KSB : ∀ k' u {W'}, Below W.heap.size W W' → gAll (ksM wd.heap.size y5 R n i k b0 c) k' u W → gAll (ksM wd.heap.size y5 R n i k b0 c) k' u W' := fun k' u W' hb h => ksM_b wd.heap.size y5 R n i k b0 c k' W W' u hb h
        have KSN : ∀ k', k' ≠ 13 → ∀ u {W' row}, W.grownBy W' row → (∀ g, row = some g → g < b0) → gAll (ksM wd.heap.size y5 R n i k b0 c) k' u W → gAll (ksM wd.heap.size y5 R n i k b0 c) k' u W' := fun k' hk u W' row hg hr h => ksM_n wd.heap.size y5 R n i k b0 c k' hk W W' row u hg hr h
        obtain ⟨g, h, hx, hh0, hhb, hg0, hgb⟩ : gRls b0 [c] 0 [Tb.cellC n k] W (x 12) := (hd 12 (by decide)).2
        have dr : A.tmps[58]?.getD undef = .slice (some ⟨h, 0, none⟩) 1 1 := ((hd 12 (by decide)).1 58 rfl).trans hx
        have dy : A.tmps[46]?.getD undef = y5 := fI hd 0 46
        have hbw := hC.1 rfl
        obtain ⟨v', W', hrun, hown', hgrow', hat'⟩ := OwnR.push (b0 := b0) (HO.out.below hbw) [c] 0 [Tb.cellC n k] hhb hgb (by simp) inI_zero (by simp) (by simp) (by have h1 : b0 ≤ g := hg0; omega) (fun k hk => by rw [hb0]; exact (HO.out.lt k hk).2) hg0 (by have := hC.2.2; omega) hlen 24
        refine wpOp_step rfl (fun K' hK => ?_)
        refine step_run_append (by rfl) (.tmp 46) (.tmp 58) 24 rfl y5 (.slice (some ⟨h, 0, none⟩) 1 1) (by show A.tmps.getD 46 undef = _; simpa using dy) (by show A.tmps.getD 58 undef = _; simpa using dr) v' W' hrun ?_
        refine hK _ _ ⟨v', rfl, hown', fun k' hk' u h => KSN k' hk' u hgrow' (fun g' hg' => by rw [hb0]; exact (HO.out.lt g' hg').2) h, ⟨fun h => (by cases h), hC.2.1.grown hgrow' hC.2.1.size (fun g' hg' => (HO.out.lt g' hg').1), Nat.le_trans hC.2.2 hgrow'.size⟩⟩
       ·intro x W hC hR
        have hown' : OwnR W wd.heap.size (x 13) (R ++ [Tb.mkR [c] 0 [Tb.cellC n k]]) := hR 13 (by decide)
        have HO2 := hide (show OwnR W wd.heap.size (x 13) ((List.range 26).map (Tb.letterR n lang) ++ (List.range (i + 1)).map (Tb.markR n)) by rw [HLR.out]; exact hown')
        have HBW := hide hC.2.1
        clear hown' hC hR
        refine wpOp_step rfl (fun K' hK => ?_)
        simp only [putL, Act.put, Nat.zero_add, Nat.reduceAdd, List.setIfInBounds_toArray, List.set_cons_succ, List.set_cons_zero]
        generalize x 0 = x0
        generalize x 1 = x1
        generalize x 2 = x2
        generalize x 3 = x3
        generalize x 4 = x4
        generalize x 5 = x5
        generalize x 6 = x6
        generalize x 7 = x7
        generalize x 8 = x8
        generalize x 9 = x9
        generalize x 10 = x10
        generalize x 11 = x11
        generalize x 12 = x12
        generalize x 13 = x13 at *
        go_simp
        refine hK _ _ ?_
        clear hK K'
        go_wp2
        exact ⟨⟨i + 1, _, by omega, by go_num, rfl, HO2.out, HBW.out⟩, by simp [intOf]; omega⟩
      ·obtain rfl : i = 6 := by omega
       have HO9 := hide hown
       have HB9 := hide hbel2
       have hwl : wd.heap.size ≤ we.heap.size := hbel2.size
       clear hown hbel2 hmks hi hi0 hi6
       have hb630 := tdiv_bounds n hn 630 (by decide)
       have hq1 : wrap64 (n.tdiv 630) = n.tdiv 630 := by unfold wrap64; omega
       have hq2 : wrap64 (n.tdiv 630 + (lang : Int)) = n.tdiv 630 + (lang : Int) := by unfold wrap64; omega
       have CM := hide (fun W => around_lit (n.tdiv 630 + (lang : Int)) 6 6 rfl W (by unfold Wr.inI; omega) (by decide) (by decide))
       have hmany : (Tb.manyOf n lang : Int) = 3 + (Ce.around (n.tdiv 630 + (lang : Int)) 6 : Int) := by unfold Tb.manyOf; omega
       have ham := Ce.around_lt (n.tdiv 630 + (lang : Int)) 6 (by decide)
       obtain ⟨mny, hmny⟩ : ∃ mny, mny = Tb.manyOf n lang := ⟨_, rfl⟩
       rw [← hmny] at hmany
       have HMNY := hide hmny
       clear hmny hb630
       go_upto_region 16 with fail
       refine name_world fun Y hY => ?_
       have Y9 := hide (show Blk Y we.heap.size 9 (Tb.words.map VS).toArray by rw [← hY.out]; exact Blk.new we _ _)
       have HYB := hide (show Below we.heap.size we Y by rw [← hY.out]; exact below_alloc we _)
       have HOY := hide (HO9.out.below HYB.out)
       have HBY := hide (HB9.out.trans (HYB.out.mono hwl))
       clear hY HO9 HB9 HYB
       generalize we.heap.size = g9 at Y9 ⊢
       generalize Ce.around (n.tdiv 630 + (lang : Int)) 6 = am at CM hmany ham
       have hmn8 : mny ≤ 8 := by omega
       have HMW := hide hmany
       clear hmany
       go_upto_region 17 with (go_at_call 12; refine (unhide CM _).mono ?_; rintro e w1 ⟨rfl, rfl⟩)
       clear CM hq1 hq2
       go_wp2
       go_loopw [5, 11] (fun s5 s wr => ∃ (i : Nat) (y5 : Value), i ≤ mny ∧ s = .int .i64 (i : Int) ∧ y5 = s5 ∧ OwnR wr wd.heap.size y5 ((List.range 26).map (Tb.letterR n lang) ++ (List.range 6).map (Tb.markR n) ++ (List.range i).map (Tb.shortR n lang)) ∧ Below wd.heap.size wd wr ∧ Blk wr g9 9 (Tb.words.map VS).toArray) (fun _ s _ => mny - (intOf s).toNat)
       case atStart => exact ⟨0, _, by omega, rfl, rfl, by simpa using HOY.out, HBY.out, Y9.out⟩
       case round =>
        clear HOY HBY Y9 hwl
        obtain ⟨i, y5, hi, rfl, rfl, hown, hbel2, hbl9⟩ := hrel
        obtain ⟨wf, rfl⟩ : ∃ wf, wf = wr := ⟨wr, rfl⟩
        have hi0 : (0 : Int) ≤ (i : Int) := by omega
        by_cases him : (i : Int) < 3 + (am : Int)
        ·have him2 : (i : Int) < (mny : Int) := by rw [HMW.out]; exact him
         obtain ⟨R, hR⟩ : ∃ R, R = (List.range 26).map (Tb.letterR n lang) ++ (List.range 6).map (Tb.markR n) ++ (List.range i).map (Tb.shortR n lang) := ⟨_, rfl⟩
         rw [← hR] at hown
         have hlen : R.length ≤ 1000 := by rw [hR]; simp; omega
         have HR := hide hR
         have HO := hide hown
         have HB2 := hide hbel2
         have F9 := hide hbl9
         have hne9 := hown.ne hbl9 (by decide)
         have hg9e := hbl9.lt
         have hb3780 := tdiv_bounds n hn 3780 (by decide)
         have hb7 := tdiv_bounds n hn 7 (by decide)
         have hi8 : (i : Int) < 8 := by omega
         have hii : (i : Int) * (i : Int) ≤ 64 ∧ 0 ≤ (i : Int) * (i : Int) := by
          have h1 : i * i ≤ 8 * 8 := Nat.mul_le_mul (by omega) (by omega)
          have h2 : ((i * i : Nat) : Int) = (i : Int) * (i : Int) := Int.natCast_mul i i
          omega
         have hq1 : wrap64 (n.tdiv 3780) = n.tdiv 3780 := by unfold wrap64; omega
         have hq2 : wrap64 (n.tdiv 3780 + 5 * (i : Int)) = n.tdiv 3780 + 5 * (i : Int) := by unfold wrap64; omega
         have hq3 : wrap64 (n.tdiv 3780 + 5 * (i : Int) + (lang : Int)) = n.tdiv 3780 + 5 * (i : Int) + (lang : Int) := by unfold wrap64; omega
         have CW := hide (fun W => around_lit (n.tdiv 3780 + 5 * (i : Int) + (lang : Int)) 12 12 rfl W (by unfold Wr.inI; omega) (by decide) (by decide))
         obtain ⟨k1, hk1⟩ : ∃ k1, k1 = Ce.around (n.tdiv 3780 + 5 * (i : Int) + (lang : Int)) 12 := ⟨_, rfl⟩
         have hk12 : k1 < 12 := by rw [hk1]; exact Ce.around_lt _ 12 (by decide)
         rw [← hk1] at CW
         have HK1 := hide (show Tb.wordOf n lang i = k1 from hk1.symm)
         obtain ⟨tx, htx⟩ : ∃ tx, tx = Tb.words.getD k1 [] := ⟨_, rfl⟩
         have hwd9 := hide (show wf.cell? ⟨g9, k1, none⟩ = some (.string (S tx)) by rw [F9.out.cell, words_at k1 hk12, htx])
         have HTX := hide htx
         have htl : tx.length ≤ 8 := by rw [htx]; exact words_len k1
         have hwsf := hbel2.size
         clear hk1 htx hown hbel2 hbl9 hR
         have HIM := hide him2
         clear him2
         go_upto_region 21 with (go_at_call 12; refine (unhide CW _).mono ?_; rintro e w1 ⟨rfl, rfl⟩)
         clear CW hq1 hq2 hq3 hb3780
         have CA6 := hide (fun W => around_lit (n.tdiv 7 + (i : Int) * (i : Int)) 6 6 rfl W (by unfold Wr.inI; omega) (by decide) (by decide))
         obtain ⟨a6, ha6⟩ : ∃ a6, a6 = Ce.around (n.tdiv 7 + (i : Int) * (i : Int)) 6 := ⟨_, rfl⟩
         have ha6l : a6 < 6 := by rw [ha6]; exact Ce.around_lt _ 6 (by decide)
         rw [← ha6] at CA6
         obtain ⟨wh, hwh⟩ : ∃ wh, wh = a6 % 4 := ⟨_, rfl⟩
         have HWH := hide (show Tb.whereOf n i = wh by rw [hwh, ha6]; unfold Tb.whereOf; rfl)
         have hwh4 : wh < 4 := by omega
         obtain ⟨k2, hk2⟩ : ∃ k2, k2 = 37 + i := ⟨_, rfl⟩
         have HK2 := hide hk2
         have CCK := hide (fun W => CC.out k2 (by omega) W)
         have hw5 : IntKind.i64.wrap (n.tdiv 7) = n.tdiv 7 := by rw [IntKind.wrap_i64]; omega
         have hw8 : IntKind.i64.wrap ((i : Int) * (i : Int)) = (i : Int) * (i : Int) := by rw [IntKind.wrap_i64]; omega
         have hw9 : IntKind.i64.wrap (n.tdiv 7 + (i : Int) * (i : Int)) = n.tdiv 7 + (i : Int) * (i : Int) := by rw [IntKind.wrap_i64]; omega
         have hw11 : (a6 : Int).tmod 4 = (wh : Int) := by rw [Int.tmod_eq_emod_of_nonneg (by omega)]; omega
         have hw12 : IntKind.i64.wrap (wh : Int) = (wh : Int) := by rw [IntKind.wrap_i64]; omega
         have hw14 : IntKind.i64.wrap (37 + (i : Int)) = (k2 : Int) := by rw [IntKind.wrap_i64]; omega
         obtain ⟨b0, hb0⟩ : ∃ b0, b0 = wf.heap.size := ⟨_, rfl⟩
         have hk1i : (k1 : Int) < 12 := by omega
         have hk10 : (0 : Int) ≤ (k1 : Int) := by omega
         clear ha6 hwh hk2 hii hb7
         refine wp_region_threeT 0 19 [some 80, some 81, some 82, some 83, some 84, some 85, some 86, some 87, some 88, some 89, some 90, some 91, some 92, some 93, some 94, some 95, some 96, some 97, some 13] (gAll (ksC g9 n k1 k2 i a6 wh b0 tx))
          (fun _ W => Below wf.heap.size wf W ∧ b0 ≤ W.heap.size) (by decide) (by kernel_rfl) (by kernel_rfl) (by kernel_rfl) (by rfl) (by decide) (by rfl) ⟨(Below.refl _ _).drew, by rw [hb0]; exact Nat.le_refl _⟩ ?_ ?_ ?_
         ·intro j hj hjm b A x W hC hd hr
          have stay : ∀ W', Below W.heap.size W W' → Below wf.heap.size wf W' ∧ b0 ≤ W'.heap.size := fun W' hb => ⟨hC.1.trans (hb.mono hC.1.size), Nat.le_trans hC.2 hb.size⟩
          have KSB : ∀ k' u {W'}, Below W.heap.size W W' → gAll (ksC g9 n k1 k2 i a6 wh b0 tx) k' u W → gAll (ksC g9 n k1 k2 i a6 wh b0 tx) k' u W' := fun k' u W' hb h => ksC_b g9 n k1 k2 i a6 wh b0 tx k' W W' u hb h
          have hj' : j = 1 ∨ j = 2 ∨ j = 3 ∨ j = 4 ∨ j = 5 ∨ j = 6 ∨ j = 7 ∨ j = 8 ∨ j = 9 ∨ j = 10 ∨ j = 11 ∨ j = 12 ∨ j = 13 ∨ j = 14 ∨ j = 15 ∨ j = 16 ∨ j = 17 ∨ j = 18 := by omega
          rcases hj' with rfl | rfl | rfl | rfl | rfl | rfl | rfl | rfl | rfl | rfl | rfl | rfl | rfl | rfl | rfl | rfl | rfl | rfl
          ·have e12 : A.tmps[12]?.getD undef = .int .i64 (k1 : Int) := hr 12 (by decide)
           refine wpOp_step rfl (fun K' hK => ?_)
           go_simp
           exact hK _ _ ⟨_, rfl, rfl, fun _ _ _ h => h, hC⟩
          ·have d0 : A.tmps[80]?.getD undef = .slice (some ⟨g9, 0, none⟩) 12 12 := fI hd 0 80
           have d1 : A.tmps[81]?.getD undef = .int .i64 (k1 : Int) := fI hd 1 81
           refine wpOp_step rfl (fun K' hK => ?_)
           go_simp
           exact hK _ _ ⟨_, rfl, rfl, fun _ _ _ h => h, hC⟩
          ·have d2 : A.tmps[82]?.getD undef = .pointer (some ⟨g9, k1, none⟩) := fI hd 2 82
           refine wpOp_step rfl (fun K' hK => ?_)
           have hcl : W.cell? ⟨g9, k1, none⟩ = some (.string (S tx)) := by rw [hC.1.cell (by exact hg9e)]; exact hwd9.out
           go_simp
           exact hK _ _ ⟨_, rfl, rfl, fun _ _ _ h => h, hC⟩
          ·have e0 : A.tmps[0]?.getD undef = .int .i64 n := hr 0 (by decide)
           refine wpOp_step rfl (fun K' hK => ?_)
           go_simp
           exact hK _ _ ⟨_, rfl, rfl, fun _ _ _ h => h, hC⟩
          ·have d4 : A.tmps[84]?.getD undef = .int .i64 n := fI hd 4 84
           refine wpOp_step rfl (fun K' hK => ?_)
           go_simp
           exact hK _ _ ⟨_, rfl, rfl, fun _ _ _ h => h, hC⟩
          ·have e11 : A.tmps[11]?.getD undef = .int .i64 (i : Int) := hr 11 (by decide)
           refine wpOp_step rfl (fun K' hK => ?_)
           go_simp
           exact hK _ _ ⟨_, rfl, rfl, fun _ _ _ h => h, hC⟩
          ·have e11 : A.tmps[11]?.getD undef = .int .i64 (i : Int) := hr 11 (by decide)
           refine wpOp_step rfl (fun K' hK => ?_)
           go_simp
           exact hK _ _ ⟨_, rfl, rfl, fun _ _ _ h => h, hC⟩
          ·have d6 : A.tmps[86]?.getD undef = .int .i64 (i : Int) := fI hd 6 86
           have d7 : A.tmps[87]?.getD undef = .int .i64 (i : Int) := fI hd 7 87
           refine wpOp_step rfl (fun K' hK => ?_)
           go_simp
           exact hK _ _ ⟨_, rfl, rfl, fun _ _ _ h => h, hC⟩
          ·have d5 : A.tmps[85]?.getD undef = .int .i64 (n.tdiv 7) := fI hd 5 85
           have d8 : A.tmps[88]?.getD undef = .int .i64 ((i : Int) * (i : Int)) := fI hd 8 88
           refine wpOp_step rfl (fun K' hK => ?_)
           go_simp
           exact hK _ _ ⟨_, rfl, rfl, fun _ _ _ h => h, hC⟩
          ·have d9 : A.tmps[89]?.getD undef = .int .i64 (n.tdiv 7 + (i : Int) * (i : Int)) := fI hd 9 89
           refine wpOp_step rfl (fun K' hK => ?_)
           go_simp
           go_at_call 12
           refine (unhide CA6 W).mono ?_
           rintro e W' ⟨rfl, rfl⟩
           exact hK _ _ ⟨_, rfl, rfl, fun _ _ _ h => h, hC⟩
          ·have d10 : A.tmps[90]?.getD undef = .int .i64 (a6 : Int) := fI hd 10 90
           refine wpOp_step rfl (fun K' hK => ?_)
           go_simp
           exact hK _ _ ⟨_, rfl, rfl, fun _ _ _ h => h, hC⟩
          ·have e0 : A.tmps[0]?.getD undef = .int .i64 n := hr 0 (by decide)
           refine wpOp_step rfl (fun K' hK => ?_)
           go_simp
           exact hK _ _ ⟨_, rfl, rfl, fun _ _ _ h => h, hC⟩
          ·have e11 : A.tmps[11]?.getD undef = .int .i64 (i : Int) := hr 11 (by decide)
           refine wpOp_step rfl (fun K' hK => ?_)
           go_simp
           exact hK _ _ ⟨_, rfl, rfl, fun _ _ _ h => h, hC⟩
          ·have d13 : A.tmps[93]?.getD undef = .int .i64 (i : Int) := fI hd 13 93
           refine wpOp_step rfl (fun K' hK => ?_)
           go_simp
           exact hK _ _ ⟨_, rfl, rfl, fun _ _ _ h => h, hC⟩
          ·have d12 : A.tmps[92]?.getD undef = .int .i64 n := fI hd 12 92
           have d14 : A.tmps[94]?.getD undef = .int .i64 (k2 : Int) := fI hd 14 94
           refine wpOp_step rfl (fun K' hK => ?_)
           go_simp
           go_at_call 21
           refine (unhide CCK W).mono ?_
           rintro e W' ⟨rfl, hb⟩
           exact hK _ _ ⟨_, rfl, rfl, fun k' _ u h => KSB k' u hb h, stay _ hb⟩
          ·have d15 : A.tmps[95]?.getD undef = VC (Tb.cellC n k2) := fI hd 15 95
           refine wpOp_step rfl (fun K' hK => ?_)
           go_simp
           exact hK _ _ ⟨_, rfl, ⟨W.heap.size, rfl, hC.2, Blk.new W _ _⟩, fun k' _ u h => KSB k' u (below_alloc W _) h, stay _ (below_alloc W _)⟩
          ·have d3 : A.tmps[83]?.getD undef = .string (S tx) := fI hd 3 83
           have d11 : A.tmps[91]?.getD undef = .int .i64 (wh : Int) := fI hd 11 91
           obtain ⟨g16, hx16, hg16, hb16⟩ : gNew b0 5 (BV [Tb.cellC n k2]) W (x 16) := (hd 16 (by decide)).2
           have d16 : A.tmps[96]?.getD undef = .slice (some ⟨g16, 0, none⟩) 1 1 := ((hd 16 (by decide)).1 96 rfl).trans hx16
           refine wpOp_step rfl (fun K' hK => ?_)
           go_simp
           exact hK _ _ ⟨_, rfl, ⟨g16, rfl, hg16, hb16⟩, fun _ _ _ h => h, hC⟩
          ·refine wpOp_step rfl (fun K' hK => ?_)
           go_simp
           exact hK _ _ ⟨_, rfl, ⟨W.heap.size, rfl, hC.2, Blk.new W _ _⟩, fun k' _ u h => KSB k' u (below_alloc W _) h, stay _ (below_alloc W _)⟩
         ·intro A x W hC hd hr
          have stay : ∀ W', Below W.heap.size W W' → Below wf.heap.size wf W' ∧ b0 ≤ W'.heap.size := fun W' hb => ⟨hC.1.trans (hb.mono hC.1.size), Nat.le_trans hC.2 hb.size⟩
          have KSB : ∀ k' u {W'}, Below W.heap.size W W' → gAll (ksC g9 n k1 k2 i a6 wh b0 tx) k' u W → gAll (ksC g9 n k1 k2 i a6 wh b0 tx) k' u W' := fun k' u W' hb h => ksC_b g9 n k1 k2 i a6 wh b0 tx k' W W' u hb h
          have e9 : A.tmps[9]?.getD undef = .slice (some ⟨g9, 0, none⟩) 12 12 := hr 9 (by decide)
          refine wpOp_step rfl (fun K' hK => ?_)
          go_simp
          exact hK _ _ ⟨_, rfl, rfl, fun _ _ _ h => h, hC⟩
         ·intro x W hC hR
          obtain ⟨gc, hx17, hgc0, hgcb⟩ : ∃ g, x 17 = .agg #[.string (S tx), .int .i64 (wh : Int), .slice (some ⟨g, 0, none⟩) 1 1] ∧ b0 ≤ g ∧ Blk W g 5 (BV [Tb.cellC n k2]).toArray := hR 17 (by decide)
          obtain ⟨g13, hx18, hg13, hgb⟩ : ∃ g, x 18 = .pointer (some ⟨g, 0, none⟩) ∧ b0 ≤ g ∧ Blk W g 45 #[.string { data := #[] }, .int .i64 0, .slice none 0 0] := hR 18 (by decide)
          have hHB : W.heap[g13]? = some (.cells #[.string { data := #[] }, .int .i64 0, .slice none 0 0] 45 (0, 0)) := hgb
          refine wpOp_step rfl (fun K' hK => ?_)
          simp only [putL, Act.put, Nat.zero_add, Nat.reduceAdd, List.setIfInBounds_toArray, List.set_cons_succ, List.set_cons_zero]
          rw [hx17, hx18]
          rw [if_pos (by rfl)]
          refine wp_store_row 45 (.tmp 13) (.tmp 97) rfl g13 #[.string (S tx), .int .i64 (wh : Int), .slice (some ⟨gc, 0, none⟩) 1 1] rfl rfl 45 _ hHB ruleInfo rfl (by simp [Value.oneCell']) ?_
          refine hK _ _ ?_
          clear hK K'
          have hZc := hC.1.size
          obtain ⟨Z, hZ⟩ : ∃ Z, Z = W.setRow g13 #[.string (S tx), .int .i64 (wh : Int), .slice (some ⟨gc, 0, none⟩) 1 1] := ⟨_, rfl⟩
          have ZB := hide (show Blk Z g13 45 #[.string (S tx), .int .i64 (wh : Int), .slice (some ⟨gc, 0, none⟩) 1 1] by rw [hZ]; exact setRow_heap _ _ _ _ _ _ hHB)
          have ZC := hide (show Blk Z gc 5 (BV [Tb.cellC n k2]).toArray by rw [hZ]; exact Blk.otherRow hgcb (Blk.ne_ hgcb hgb (by decide)) _)
          have HZ := hide (show Below wf.heap.size wf Z by rw [hZ]; exact below_setRow hC.1 (by omega) _)
          rw [← hZ]
          clear hZ hHB hgb hgcb hx17 hx18 hC hR CCK CA6
          clear hw5 hw8 hw9 hw11 hw12 hw14 hwd9
          have hb11 := tdiv_bounds n hn 11 (by decide)
          have hb13 := tdiv_bounds n hn 13 (by decide)
          have hb17 := tdiv_bounds n hn 17 (by decide)
          have hb19 := tdiv_bounds n hn 19 (by decide)
          have hb23 := tdiv_bounds n hn 23 (by decide)
          have hi8' : (i : Int) ≤ 8 := by omega
          have q11 : wrap64 (n.tdiv 11) = n.tdiv 11 := by unfold wrap64; omega
          have q11i : wrap64 (n.tdiv 11 + (i : Int)) = n.tdiv 11 + (i : Int) := by unfold wrap64; omega
          have q13 : wrap64 (n.tdiv 13) = n.tdiv 13 := by unfold wrap64; omega
          have q13i : wrap64 (n.tdiv 13 + (i : Int)) = n.tdiv 13 + (i : Int) := by unfold wrap64; omega
          have q17 : wrap64 (n.tdiv 17) = n.tdiv 17 := by unfold wrap64; omega
          have q17i : wrap64 (n.tdiv 17 + (i : Int)) = n.tdiv 17 + (i : Int) := by unfold wrap64; omega
          have q19 : wrap64 (n.tdiv 19) = n.tdiv 19 := by unfold wrap64; omega
          have q23 : wrap64 (n.tdiv 23) = n.tdiv 23 := by unfold wrap64; omega
          have A11 := hide (fun W => around_lit (n.tdiv 11 + (i : Int)) 3 3 rfl W (by unfold Wr.inI; omega) (by decide) (by decide))
          have A13 := hide (fun W => around_lit (n.tdiv 13 + (i : Int)) 26 26 rfl W (by unfold Wr.inI; omega) (by decide) (by decide))
          have A17 := hide (fun W => around_lit (n.tdiv 17 + (i : Int)) 23 23 rfl W (by unfold Wr.inI; omega) (by decide) (by decide))
          have A19 := hide (fun W => around_lit (n.tdiv 19) 32 32 rfl W (by unfold Wr.inI; omega) (by decide) (by decide))
          have A23 := hide (fun W => around_lit (n.tdiv 23) 32 32 rfl W (by unfold Wr.inI; omega) (by decide) (by decide))
          have C36 := hide (fun W => cell_lit n 36 36 rfl W hn (by decide))
          have CCA := hide (fun (k : Nat) (hk : k < 32) W => cell_any n k W hn (by omega))
          have l13 := Ce.around_lt (n.tdiv 13 + (i : Int)) 26 (by decide)
          have l19 := Ce.around_lt (n.tdiv 19) 32 (by decide)
          have l23 := Ce.around_lt (n.tdiv 23) 32 (by decide)
          have HSC := hide (show Tb.shortCells n i = if Ce.around (n.tdiv 17 + (i : Int)) 23 = 0 then [Tb.cellC n (Ce.around (n.tdiv 19) 32), Tb.cellC n (Ce.around (n.tdiv 23) 32)] else if Ce.around (n.tdiv 11 + (i : Int)) 3 = 0 then [Tb.cellC n 36, Tb.cellC n (Ce.around (n.tdiv 13 + (i : Int)) 26)] else [Tb.cellC n k2] by rw [HK2.out]; rfl)
          clear hb11 hb13 hb17 hb19 hb23
          generalize Ce.around (n.tdiv 11 + (i : Int)) 3 = a11 at A11 HSC
          generalize Ce.around (n.tdiv 13 + (i : Int)) 26 = a13 at A13 HSC l13
          generalize Ce.around (n.tdiv 17 + (i : Int)) 23 = a17 at A17 HSC
          generalize Ce.around (n.tdiv 19) 32 = a19 at A19 HSC l19
          generalize Ce.around (n.tdiv 23) 32 = a23 at A23 HSC l23
          have CA13 := hide (fun W => CCA.out a13 (by omega) W)
          have CA19 := hide (fun W => CCA.out a19 (by omega) W)
          have CA23 := hide (fun W => CCA.out a23 (by omega) W)
          obtain ⟨cs1, hcs1⟩ : ∃ cs1, cs1 = if a11 = 0 then [Tb.cellC n 36, Tb.cellC n a13] else [Tb.cellC n k2] := ⟨_, rfl⟩
          have HC1 := hide hcs1
          rw [← hcs1] at HSC
          clear hcs1 CCA
          unfold VC at C36 CA13 CA19 CA23
          have hbz : b0 ≤ Z.heap.size := by have := HZ.out.size; omega
          go_upto_if 103 with (go_at_call 12; (with_reducible refine (unhide A11 _).mono ?_); rintro e w1 ⟨rfl, rfl⟩)
          go_cut [] (fun wx => ∃ gc : Nat, Blk wx g13 45 #[.string (S tx), .int .i64 (wh : Int), .slice (some ⟨gc, 0, none⟩) cs1.length cs1.length] ∧ b0 ≤ gc ∧ Blk wx gc 5 (BV cs1).toArray ∧ Below wf.heap.size wf wx)
          case first =>
           by_cases h11 : a11 = 0
           ·have h11e : ((a11 : Int) == 0) = true := by rw [h11]; rfl
            have HC1' := hide (show cs1 = [Tb.cellC n 36, Tb.cellC n a13] by rw [HC1.out, if_pos h11])
            clear HC1 HSC h11
            go_wp2_with (first
             | (go_at_call 12; (with_reducible refine (unhide A13 _).mono ?_); rintro e w1 ⟨rfl, rfl⟩)
             | (go_at_call 21; first
              | ((with_reducible refine (unhide C36 _).mono ?_); rintro e z1 ⟨rfl, hb1⟩; have B1 := hide (HZ.out.trans (hb1.mono HZ.out.size)); have ZB1 := hide (ZB.out.below hb1 (Blk.lt ZB.out)); clear hb1)
              | ((with_reducible refine (unhide CA13 _).mono ?_); rintro e z2 ⟨rfl, hb2⟩; have B2 := hide (B1.out.trans (hb2.mono B1.out.size)); have ZB2 := hide (ZB1.out.below hb2 (Blk.lt ZB1.out)); have ZB2c := hide (ZB2.out.alloc (.cells #[.int .u8 ((Tb.cellC n 36).toNat : Int), .int .u8 ((Tb.cellC n a13).toNat : Int)] 5)); have zc := ZB2c.out.cell 2; have zf := ZB2c.out.frozen 2; clear hb2)))
            go_meet
            refine ⟨z2.heap.size, ?_, ?_, ?_, ?_⟩
            ·rw [HC1'.out]; exact ZB2c.out.set_ 2 _
            ·have := B2.out.size; omega
            ·rw [HC1'.out]; exact (Blk.new z2 _ _).far (by have := ZB2.out.lt; show z2.heap.size ≠ g13; omega) _
            ·exact (B2.out.trans (below_alloc' z2 _ B2.out.size)).setCell (by show wf.heap.size ≤ g13; omega) _
           ·have h11e : ((a11 : Int) == 0) = false := by rw [beq_eq_false_iff_ne]; omega
            have HC1' := hide (show cs1 = [Tb.cellC n k2] by rw [HC1.out, if_neg h11])
            clear HC1 HSC h11
            go_wp2
            go_meet
            exact ⟨gc, by rw [HC1'.out]; exact ZB.out, hgc0, by rw [HC1'.out]; exact ZC.out, HZ.out⟩
          case rest =>
           obtain ⟨gd, hbd, hgd0, hcd, hbeld⟩ := hcut
           obtain ⟨X, rfl⟩ : ∃ X, X = wc := ⟨wc, rfl⟩
           have DB := hide hbd
           have DC := hide hcd
           have HD := hide hbeld
           have hbx : b0 ≤ X.heap.size := by have := hbeld.size; omega
           have hc1l : cs1.length ≤ 2 := by rw [HC1.out]; split <;> simp
           obtain ⟨cs2, hcs2⟩ : ∃ cs2, cs2 = Tb.shortCells n i := ⟨_, rfl⟩
           have HC2 := hide hcs2
           rw [← hcs2] at HSC
           clear hcs2 hbd hcd hbeld A11 A13 C36 CA13 HC1 ZB ZC HZ
           go_upto_if 120 with (go_at_call 12; (with_reducible refine (unhide A17 _).mono ?_); rintro e w1 ⟨rfl, rfl⟩)
           go_cut [] (fun wx => ∃ gc : Nat, Blk wx g13 45 #[.string (S tx), .int .i64 (wh : Int), .slice (some ⟨gc, 0, none⟩) cs2.length cs2.length] ∧ b0 ≤ gc ∧ Blk wx gc 5 (BV cs2).toArray ∧ Below wf.heap.size wf wx)
           case first =>
            by_cases h17 : a17 = 0
            ·have h17e : ((a17 : Int) == 0) = true := by rw [h17]; rfl
             have HC2' := hide (show cs2 = [Tb.cellC n a19, Tb.cellC n a23] by rw [HSC.out, if_pos h17])
             clear HSC h17
             go_wp2_with (first
              | (go_at_call 12; first | ((with_reducible refine (unhide A19 _).mono ?_); rintro e w1 ⟨rfl, rfl⟩) | ((with_reducible refine (unhide A23 _).mono ?_); rintro e w1 ⟨rfl, rfl⟩))
              | (go_at_call 21; first
               | ((with_reducible refine (unhide CA19 _).mono ?_); rintro e z1 ⟨rfl, hb1⟩; have B1 := hide (HD.out.trans (hb1.mono HD.out.size)); have ZB1 := hide (DB.out.below hb1 (Blk.lt DB.out)); clear hb1)
               | ((with_reducible refine (unhide CA23 _).mono ?_); rintro e z2 ⟨rfl, hb2⟩; have B2 := hide (B1.out.trans (hb2.mono B1.out.size)); have ZB2 := hide (ZB1.out.below hb2 (Blk.lt ZB1.out)); have ZB2c := hide (ZB2.out.alloc (.cells #[.int .u8 ((Tb.cellC n a19).toNat : Int), .int .u8 ((Tb.cellC n a23).toNat : Int)] 5)); have zc := ZB2c.out.cell 2; have zf := ZB2c.out.frozen 2; clear hb2)))
             go_meet
             refine ⟨z2.heap.size, ?_, ?_, ?_, ?_⟩
             ·rw [HC2'.out]; exact ZB2c.out.set_ 2 _
             ·have := B2.out.size; omega
             ·rw [HC2'.out]; exact (Blk.new z2 _ _).far (by have := ZB2.out.lt; show z2.heap.size ≠ g13; omega) _
             ·exact (B2.out.trans (below_alloc' z2 _ B2.out.size)).setCell (by show wf.heap.size ≤ g13; omega) _
            ·have h17e : ((a17 : Int) == 0) = false := by rw [beq_eq_false_iff_ne]; omega
             have HC2' := hide (show cs2 = cs1 by rw [HSC.out, if_neg h17])
             clear HSC h17
             go_wp2
             go_meet
             exact ⟨gd, by rw [HC2'.out]; exact DB.out, hgd0, by rw [HC2'.out]; exact DC.out, HD.out⟩
           case rest =>
            obtain ⟨ge, hbe, hge0, hce, hbele⟩ := hcut
            obtain ⟨U, rfl⟩ : ∃ U, U = wc := ⟨wc, rfl⟩
            have hus := hbele.size
            have hc2l : cs2.length ≤ 2 ∧ 0 < cs2.length := by rw [HC2.out]; unfold Tb.shortCells; split <;> (try split) <;> simp
            have hu0 : U.cell? ⟨g13, 0, none⟩ = some (.string (S tx)) := hbe.cell 0
            have hu1 : U.cell? ⟨g13, 1, none⟩ = some (.int .i64 (wh : Int)) := hbe.cell 1
            have hu2 : U.cell? ⟨g13, 2, none⟩ = some (.slice (some ⟨ge, 0, none⟩) cs2.length cs2.length) := hbe.cell 2
            obtain ⟨v', W', hrun, hown', hgrow', _⟩ := OwnR.push (b0 := b0) ((HO.out.below hbele).below (below_alloc U _)) tx (wh : Int) cs2 (Blk.new U 45 #[.string (S tx), .int .i64 (wh : Int), .slice (some ⟨ge, 0, none⟩) cs2.length cs2.length]) (hce.alloc _) (by omega) (by unfold Wr.inI; omega) hc2l.2 (by omega) (by have h1 : b0 ≤ ge := hge0; omega)
             (fun k hk => by rw [hb0]; exact (HO.out.lt k hk).2) hge0 (by simp; omega) hlen 24
            have HRUN := hide hrun
            have HBF := hide (hbele.trans (below_alloc' U (.cells #[.string (S tx), .int .i64 (wh : Int), .slice (some ⟨ge, 0, none⟩) cs2.length cs2.length] 45) hus))
            have HB' := hide ((HB2.out.trans (HBF.out.mono (by have := HB2.out.size; omega))).grown hgrow' (by have := HB2.out.size; simp; omega) (fun g hg => (HO.out.lt g hg).1))
            have H9' := hide ((F9.out.below HBF.out hg9e).grown hgrow' (Ne.symm hne9))
            have HO2 := hide (show OwnR W' wd.heap.size v' ((List.range 26).map (Tb.letterR n lang) ++ (List.range 6).map (Tb.markR n) ++ (List.range (i + 1)).map (Tb.shortR n lang)) by
             have e : Tb.mkR tx (wh : Int) cs2 = Tb.shortR n lang i := by
              unfold Tb.shortR
              rw [HK1.out, HWH.out, ← HTX.out, ← HC2.out]
             rw [e, HR.out, List.append_assoc] at hown'
             rw [List.range_succ (n := i), List.map_append, List.map_singleton]
             simpa only [List.append_assoc] using hown')
            clear hrun hown' hgrow' hbe hce hbele HO HBF A17 A19 A23 CA19 CA23
            generalize S tx = sv at *
            go_wp2_with (at_builtin; refine Lib.wpList_append_run _ rfl _ _ _ _ rfl _ _ rfl rfl _ _ HRUN.out ?_)
            have hfin := HIM.out
            exact ⟨⟨i + 1, _, by omega, by go_num, rfl, HO2.out, HB'.out, H9'.out⟩, by simp [intOf]; omega⟩
        ·obtain rfl : i = mny := by have := HMW.out; omega
         have hown2 : OwnR wf wd.heap.size y5 (Tb.rawR n lang) := by
          have h := hown
          rw [HMNY.out] at h
          exact h
         obtain ⟨rs, o1, o2, o3, o4⟩ := hown2
         have hrl : rs.length ≤ 40 := by
          have h := Tb.rawR_len n lang
          rw [← o3, List.length_map] at h
          exact h
         obtain ⟨A5, c5, hv5, hc5, hr5, _⟩ := rules_of_own o1 o2 (by omega)
         subst hv5
         have CO := hide (once_call A5 c5 rs wf V.heap.size (Tb.rawR n lang) hr5 (fun r hr => (o2 r hr).1.2.1) (by omega) o3 (Nat.le_trans hVd hbel2.size) (fun r hr a ha => Nat.le_trans hVd (o4 r hr a ha)) (Nat.le_trans (Tb.once_len _) (Nat.le_trans (Tb.rawR_len n lang) (by omega))))
         have hlang7 : lang < (#[m0, m1, .slice none 0 0, .slice none 0 0, .slice none 0 0, .slice none 0 0, .slice none 0 0] : Array Value).size := by show lang < 7; omega
         obtain ⟨cs, hcs⟩ : ∃ cs : Array Value, cs = #[m0, m1, .slice none 0 0, .slice none 0 0, .slice none 0 0, .slice none 0 0, .slice none 0 0] := ⟨_, rfl⟩
         rw [← hcs] at hlang7
         have HCS := hide hcs
         have B3f := hide (show Blk wf g1 29 cs by rw [hcs]; exact B3.out.below hbel2 hg1d)
         have GVf := hide (show V.grownBy wf (some g1) from grown_below GV.out hbel2)
         have HW := hide hbel2
         have hVf : V.heap.size ≤ wf.heap.size := Nat.le_trans hVd hbel2.size
         clear hown hbel2 hbl9 o1 o2 o3 o4 hc5 hr5 hcs HMNY hi hi0 hmn8 ham HMW
         have hl0' : (0 : Int) ≤ (lang : Int) := hl0
         generalize rs.length = q5 at CO ⊢
         go_wp2_with (go_at_call 22; refine (unhide CO).mono ?_; rintro e z ⟨A6, nq, c6, rfl, hlz, hbz⟩; have HLZ := hide hlz; have BZ := hide (B3f.out.below hbz B3f.out.lt); have zc : z.cell? ⟨g1, lang, none⟩ = some (cs[lang]'hlang7) := (BZ.out.cell lang).trans (Array.getElem?_eq_getElem hlang7); have zf := BZ.out.frozen lang; have GZ := hide (grown_below GVf.out hbz); have HWZ := hide (HW.out.trans (hbz.mono HW.out.size)); clear hlz hbz)
         have HXT := hide (show ∃ m0' m1', Blk (z.setCell ⟨g1, lang, none⟩ (.slice A6 nq c6)) g1 29 #[m0', m1', .slice none 0 0, .slice none 0 0, .slice none 0 0, .slice none 0 0, .slice none 0 0] ∧
           (1 ≤ lang + 1 → LangB (z.setCell ⟨g1, lang, none⟩ (.slice A6 nq c6)) V.heap.size m0' (Tb.once (Tb.rawR n 0))) ∧ (2 ≤ lang + 1 → LangB (z.setCell ⟨g1, lang, none⟩ (.slice A6 nq c6)) V.heap.size m1' (Tb.once (Tb.rawR n 1))) by
          have hlow : ∀ g, some g1 = some g → g < V.heap.size := fun g hg => by injection hg with hg; omega
          have hb := BZ.out.set_ lang (.slice A6 nq c6)
          have hgz := grown_set (World.grownBy.refl z (some g1)) lang (.slice A6 nq c6)
          have hlz := HLZ.out.grown hgz hlow
          have h01 : lang = 0 ∨ lang = 1 := by omega
          rcases h01 with h | h
          ·subst h
           rw [HCS.out] at hb
           exact ⟨_, m1, hb, fun _ => hlz, fun h => by omega⟩
          ·subst h
           rw [HCS.out] at hb
           exact ⟨m0, _, hb, fun _ => (HM0.out (by omega)).grown (grown_set (grown_below (World.grownBy.refl wd (some g1)) HWZ.out) 1 (.slice A6 nq c6)) hlow, fun _ => hlz⟩)
         have HGS := hide (grown_set GZ.out lang (.slice A6 nq c6))
         obtain ⟨m0', m1', x1, x2, x3⟩ := HXT.out
         exact ⟨⟨lang + 1, m0', m1', by omega, by go_num, x1, x2, x3, HGS.out⟩, by simp [intOf]; omega⟩
  ·have hlang2 : 2 ≤ lang := by omega
   have hm0 := HM0.out (by omega)
   have hm1 := HM1.out (by omega)
   obtain ⟨A7, n7, c7, hv7⟩ : ∃ A n c, m0 = .slice A n c := by
    obtain ⟨A, c, rs, h, _⟩ := hm0
    exact ⟨A, _, c, h⟩
   subst hv7
   obtain ⟨A8, n8, c8, hv8⟩ : ∃ A n c, m1 = .slice A n c := by
    obtain ⟨A, c, rs, h, _⟩ := hm1
    exact ⟨A, _, c, h⟩
   subst hv8
   have L0 := hide hm0
   have L1 := hide hm1
   clear HM0 HM1 hm0 hm1 hl0 hlang2 hla
   go_wp2
   go_loopw [14] (fun s wr => ∃ (i : Nat) (mk : Value), i ≤ 10 ∧ s = .int .i64 (i : Int) ∧ Blk wr g1 29 #[.slice A7 n7 c7, .slice A8 n8 c8, mk, .slice none 0 0, .slice none 0 0, .slice none 0 0, .slice none 0 0] ∧
    wr.ownsRow wd.heap.size 5 1 mk ((List.range i).map (Tb.cellC n)).length (BV ((List.range i).map (Tb.cellC n))) ∧ wd.grownBy wr (some g1)) (fun s _ => 10 - (intOf s).toNat)
   case atStart => exact ⟨0, _, by omega, rfl, B3.out, own_nil _ _ _ _, World.grownBy.refl _ _⟩
   case round =>
    obtain ⟨i, mk, hi, rfl, hblk, hown, hgr⟩ := hrel
    obtain ⟨we, rfl⟩ : ∃ we, we = wr := ⟨wr, rfl⟩
    have hi0 : (0 : Int) ≤ (i : Int) := by omega
    by_cases hi10 : (i : Int) < 10
    ·go_upto_region 31 with fail
     have hmk1 := own_blk_ne hown hblk (by decide)
     have hwd := hgr.size
     obtain ⟨l, hl⟩ : ∃ l, l = (List.range i).map (Tb.cellC n) := ⟨_, rfl⟩
     rw [← hl] at hown
     have hll : l.length ≤ 10 := by rw [hl]; simp; omega
     have HL := hide hl
     have CB := hide hblk
     have HO := hide hown
     have HG := hide hgr
     have CCK := hide (fun W => CC.out i (by omega) W)
     obtain ⟨b0, hb0⟩ : ∃ b0, b0 = we.heap.size := ⟨_, rfl⟩
     clear hblk hown hgr hl
     refine wp_region_threeT 6 8 [some 147, some 148, some 149, some 150, some 151, some 152, some 153, some 154] (gAll (ksD wd.heap.size g1 mk l n i b0 we))
      (fun b W => (b = false → Below we.heap.size we W) ∧ we.grownBy W mk.ownBlock ∧ b0 ≤ W.heap.size) (by decide) (by kernel_rfl) (by kernel_rfl) (by kernel_rfl) (by rfl) (by decide) (by rfl) ⟨fun _ => (Below.refl _ _).drew, only_drew (World.grownBy.refl _ _), by rw [hb0]; exact Nat.le_refl _⟩ ?_ ?_ ?_
     ·intro j hj hjm b A x W hC hd hr
      have stay : ∀ W', Below W.heap.size W W' → (b = false → Below we.heap.size we W') ∧ we.grownBy W' mk.ownBlock ∧ b0 ≤ W'.heap.size := fun W' hb => ⟨fun h => (hC.1 h).trans (hb.mono (hC.1 h).size), grown_below hC.2.1 hb, Nat.le_trans hC.2.2 hb.size⟩
      have KSB : ∀ k' u {W'}, Below W.heap.size W W' → gAll (ksD wd.heap.size g1 mk l n i b0 we) k' u W → gAll (ksD wd.heap.size g1 mk l n i b0 we) k' u W' := fun k' u W' hb h => ksD_b wd.heap.size g1 mk l n i b0 we k' W W' u hb h
      have KSN : ∀ k', k' ≠ 6 → ∀ u {W' row}, W.grownBy W' row → (∀ g, row = some g → g < b0) → gAll (ksD wd.heap.size g1 mk l n i b0 we) k' u W → gAll (ksD wd.heap.size g1 mk l n i b0 we) k' u W' := fun k' hk u W' row hg hr h => ksD_n wd.heap.size g1 mk l n i b0 we k' hk W W' row u hg hr h
      have hj' : j = 0 ∨ j = 1 ∨ j = 2 ∨ j = 3 ∨ j = 4 ∨ j = 5 ∨ j = 7 := by omega
      rcases hj' with rfl | rfl | rfl | rfl | rfl | rfl | rfl
      ·have e3 : A.tmps[3]?.getD undef = .pointer (some ⟨g1, 0, none⟩) := hr 3 (by decide)
       refine wpOp_step rfl (fun K' hK => ?_)
       go_simp
       exact hK _ _ ⟨_, rfl, rfl, fun _ _ _ h => h, hC⟩
      ·have d0 : A.tmps[147]?.getD undef = .pointer (some ⟨g1, 2, none⟩) := fI hd 0 147
       refine wpOp_step rfl (fun K' hK => ?_)
       have hcl : W.cell? ⟨g1, 2, none⟩ = some mk := (CB.out.grown hC.2.1 (Ne.symm hmk1)).cell 2
       go_simp
       exact hK _ _ ⟨_, rfl, rfl, fun _ _ _ h => h, hC⟩
      ·have e0 : A.tmps[0]?.getD undef = .int .i64 n := hr 0 (by decide)
       refine wpOp_step rfl (fun K' hK => ?_)
       go_simp
       exact hK _ _ ⟨_, rfl, rfl, fun _ _ _ h => h, hC⟩
      ·have e14 : A.tmps[14]?.getD undef = .int .i64 (i : Int) := hr 14 (by decide)
       refine wpOp_step rfl (fun K' hK => ?_)
       go_simp
       exact hK _ _ ⟨_, rfl, rfl, fun _ _ _ h => h, hC⟩
      ·have d2 : A.tmps[149]?.getD undef = .int .i64 n := fI hd 2 149
       have d3 : A.tmps[150]?.getD undef = .int .i64 (i : Int) := fI hd 3 150
       refine wpOp_step rfl (fun K' hK => ?_)
       go_simp
       go_at_call 21
       refine (unhide CCK W).mono ?_
       rintro e W' ⟨rfl, hb⟩
       exact hK _ _ ⟨_, rfl, rfl, fun k' _ u h => KSB k' u hb h, stay _ hb⟩
      ·have d4 : A.tmps[151]?.getD undef = VC (Tb.cellC n i) := fI hd 4 151
       refine wpOp_step rfl (fun K' hK => ?_)
       go_simp
       exact hK _ _ ⟨_, rfl, ⟨W.heap.size, rfl, hC.2.2, Blk.new W _ _⟩, fun k' _ u h => KSB k' u (below_alloc W _) h, stay _ (below_alloc W _)⟩
      ·have e3 : A.tmps[3]?.getD undef = .pointer (some ⟨g1, 0, none⟩) := hr 3 (by decide)
       refine wpOp_step rfl (fun K' hK => ?_)
       go_simp
       exact hK _ _ ⟨_, rfl, rfl, fun _ _ _ h => h, hC⟩
     ·intro A x W hC hd hr
      have stay : ∀ W', Below W.heap.size W W' → (false = false → Below we.heap.size we W') ∧ we.grownBy W' mk.ownBlock ∧ b0 ≤ W'.heap.size := fun W' hb => ⟨fun h => (hC.1 h).trans (hb.mono (hC.1 h).size), grown_below hC.2.1 hb, Nat.le_trans hC.2.2 hb.size⟩
      have KSB : ∀ k' u {W'}, Below W.heap.size W W' → gAll (ksD wd.heap.size g1 mk l n i b0 we) k' u W → gAll (ksD wd.heap.size g1 mk l n i b0 we) k' u W' := fun k' u W' hb h => ksD_b wd.heap.size g1 mk l n i b0 we k' W W' u hb h
      have KSN : ∀ k', k' ≠ 6 → ∀ u {W' row}, W.grownBy W' row → (∀ g, row = some g → g < b0) → gAll (ksD wd.heap.size g1 mk l n i b0 we) k' u W → gAll (ksD wd.heap.size g1 mk l n i b0 we) k' u W' := fun k' hk u W' row hg hr h => ksD_n wd.heap.size g1 mk l n i b0 we k' hk W W' row u hg hr h
      obtain ⟨g, hx, hg0, hgb⟩ : gNew b0 5 (BV [Tb.cellC n i]) W (x 5) := (hd 5 (by decide)).2
      have dr : A.tmps[152]?.getD undef = .slice (some ⟨g, 0, none⟩) 1 1 := ((hd 5 (by decide)).1 152 rfl).trans hx
      have dy : A.tmps[148]?.getD undef = mk := fI hd 1 148
      have hbw := hC.1 rfl
      obtain ⟨v', W', hrun, hown', hgrow', hat'⟩ := bytes_push W wd.heap.size g mk l (Tb.cellC n i) (own_below HO.out hbw) hgb (by have := hC.2.2; omega) (by omega) 23
      refine wpOp_step rfl (fun K' hK => ?_)
      refine step_run_append (by rfl) (.tmp 148) (.tmp 152) 23 rfl mk (.slice (some ⟨g, 0, none⟩) 1 1) (by show A.tmps.getD 148 undef = _; simpa using dy) (by show A.tmps.getD 152 undef = _; simpa using dr) v' W' hrun ?_
      refine hK _ _ ⟨v', rfl, ⟨hown', grown_tr hC.2.1 hgrow'⟩, fun k' hk' u h => KSN k' hk' u hgrow' (fun g' hg' => by rw [hb0]; exact (HO.out.lt g' hg').2) h, ⟨fun h => (by cases h), grown_tr hC.2.1 hgrow', Nat.le_trans hC.2.2 hgrow'.size⟩⟩
     ·intro x W hC hR
      obtain ⟨hown', hgr'⟩ : W.ownsRow wd.heap.size 5 1 (x 6) (l ++ [Tb.cellC n i]).length (BV (l ++ [Tb.cellC n i])) ∧ we.grownBy W mk.ownBlock := hR 6 (by decide)
      obtain ⟨A6, c6, hx6, _⟩ := own_slice hown'
      rw [hx6] at hown'
      have hx7 : x 7 = .pointer (some ⟨g1, 2, none⟩) := hR 7 (by decide)
      have hCB := (CB.out).grown hgr' (Ne.symm hmk1)
      have HO2 := hide (show W.ownsRow wd.heap.size 5 1 (.slice A6 (l ++ [Tb.cellC n i]).length c6) ((List.range (i + 1)).map (Tb.cellC n)).length (BV ((List.range (i + 1)).map (Tb.cellC n))) by rw [List.range_succ, List.map_append, List.map_singleton, ← HL.out]; exact hown')
      have HG2 := hide (grown_own HG.out hgr' (fun g' hg' => (HO.out.lt g' hg').1))
      refine wpOp_step rfl (fun K' hK => ?_)
      simp only [putL, Act.put, Nat.zero_add, Nat.reduceAdd, List.setIfInBounds_toArray, List.set_cons_succ, List.set_cons_zero]
      rw [hx7, hx6]
      have hfz := hCB.frozen 2
      have hcl : W.cell? ⟨g1, 2, none⟩ = some mk := hCB.cell 2
      have HCB := hide hCB
      clear hown' hgr' hx6 hx7 hR hC hCB
      generalize (l ++ [Tb.cellC n i]).length = nl at *
      generalize x 0 = x0
      generalize x 1 = x1
      generalize x 2 = x2
      generalize x 3 = x3
      generalize x 4 = x4
      generalize x 5 = x5
      go_simp
      refine hK _ _ ?_
      clear hK K'
      have HB3 := hide (HCB.out.set_ 2 (.slice A6 nl c6))
      have HO3 := hide (own_grownOff HO2.out (grown_set (World.grownBy.refl W (some g1)) 2 (.slice A6 nl c6)) (fun g hg e => by injection hg with hg; have := (HO2.out.lt g e).1; omega))
      have HG3 := hide (grown_set HG2.out 2 (.slice A6 nl c6))
      go_wp2
      exact ⟨⟨i + 1, _, by omega, by go_num, HB3.out, HO3.out, HG3.out⟩, by simp [intOf]; omega⟩
    ·obtain rfl : i = 10 := by omega
     have hlow : ∀ g, some g1 = some g → g < V.heap.size := fun g hg => by injection hg with hg; omega
     obtain ⟨A6, c6, hv6, _⟩ := own_slice hown
     subst hv6
     have Y1 := hide (show Blk we g1 29 #[.slice A7 n7 c7, .slice A8 n8 c8, .slice A6 10 c6, .slice none 0 0, .slice none 0 0, .slice none 0 0, .slice none 0 0] from hblk)
     have D0 := hide (show BsB we V.heap.size (.slice A6 10 c6) ((List.range 10).map (Tb.cellC n)) from bsB_of_own (own_lower hown hVd) (by simp))
     have L0 := hide (L0.out.grown hgr hlow)
     have L1 := hide (L1.out.grown hgr hlow)
     have VG := hide (show V.grownBy we (some g1) from ⟨hgr.os.trans GV.out.os, hgr.tape.trans GV.out.tape, hgr.output.trans GV.out.output, Nat.le_trans hVd hgr.size, fun k hk hne => (hgr.block k (by omega) hne).trans (GV.out.block k hk hne)⟩)
     clear hblk hown hgr hi hi0 hi10
     have CK := hide (fun W => cell_lit n 32 32 rfl W hn (by decide))
     unfold VC at CK
     go_upto_region 33 with (go_at_call 21; (with_reducible refine (unhide CK _).mono ?_); rintro e z1 ⟨rfl, hbz⟩; have zb := hide (Y1.out.below hbz Y1.out.lt); have HBZ := hide hbz; have yc : ∀ o, (z1.alloc o).cell? ⟨g1, 3, none⟩ = some (.slice none 0 0) := fun o => (zb.out.alloc o).cell 3; have yf := fun o => (zb.out.alloc o).frozen 3; clear hbz)
     refine name_world fun Z1 hZ1 => ?_
     have VZ := hide (grown_below VG.out HBZ.out)
     obtain ⟨q1, q2, q3⟩ := field_set z1 V.heap.size g1 3 _ [Tb.cellC n 32] zb.out (by simp) VZ.out.size
     have hz : (z1.alloc (.cells (BV [Tb.cellC n 32]).toArray 5)).setCell ⟨g1, 3, none⟩ (.slice (some ⟨z1.heap.size, 0, none⟩) 1 1) = Z1 := hZ1.out
     have hq1 := Eq.mp (congrArg (fun W => Blk W g1 _ _) hz) q1
     have hq2 := Eq.mp (congrArg (fun W => z1.grownBy W (some g1)) hz) q2
     have hq3 := Eq.mp (congrArg (fun W => BsB W V.heap.size (.slice (some ⟨z1.heap.size, 0, none⟩) 1 1) [Tb.cellC n 32]) hz) q3
     have hqb := grown_tr (grown_below (World.grownBy.refl we (some g1)) HBZ.out) hq2
     clear q1 q2 q3 hz hZ1 yc yf zb CK
     generalize z1.heap.size = p0 at hq1 hq3 ⊢
     have Z11 := hide (show Blk Z1 g1 29 #[.slice A7 n7 c7, .slice A8 n8 c8, .slice A6 10 c6, .slice (some ⟨p0, 0, none⟩) 1 1, .slice none 0 0, .slice none 0 0, .slice none 0 0] from hq1)
     have L0 := hide (L0.out.grown hqb hlow)
     have L1 := hide (L1.out.grown hqb hlow)
     have VG := hide (grown_tr VG.out hqb)
     have D0 := hide (D0.out.grown hqb hlow)
     have D1 := hide hq3
     clear hq1 hq2 hq3 hqb VZ HBZ Y1
     have CK := hide (fun W => cell_lit n 33 33 rfl W hn (by decide))
     unfold VC at CK
     go_upto_region 34 with (go_at_call 21; (with_reducible refine (unhide CK _).mono ?_); rintro e z2 ⟨rfl, hbz⟩; have zb := hide (Z11.out.below hbz Z11.out.lt); have HBZ := hide hbz; have yc : ∀ o, (z2.alloc o).cell? ⟨g1, 4, none⟩ = some (.slice none 0 0) := fun o => (zb.out.alloc o).cell 4; have yf := fun o => (zb.out.alloc o).frozen 4; clear hbz)
     refine name_world fun Z2 hZ2 => ?_
     have VZ := hide (grown_below VG.out HBZ.out)
     obtain ⟨q1, q2, q3⟩ := field_set z2 V.heap.size g1 4 _ [Tb.cellC n 33] zb.out (by simp) VZ.out.size
     have hz : (z2.alloc (.cells (BV [Tb.cellC n 33]).toArray 5)).setCell ⟨g1, 4, none⟩ (.slice (some ⟨z2.heap.size, 0, none⟩) 1 1) = Z2 := hZ2.out
     have hq1 := Eq.mp (congrArg (fun W => Blk W g1 _ _) hz) q1
     have hq2 := Eq.mp (congrArg (fun W => z2.grownBy W (some g1)) hz) q2
     have hq3 := Eq.mp (congrArg (fun W => BsB W V.heap.size (.slice (some ⟨z2.heap.size, 0, none⟩) 1 1) [Tb.cellC n 33]) hz) q3
     have hqb := grown_tr (grown_below (World.grownBy.refl Z1 (some g1)) HBZ.out) hq2
     clear q1 q2 q3 hz hZ2 yc yf zb CK
     generalize z2.heap.size = p1 at hq1 hq3 ⊢
     have Z21 := hide (show Blk Z2 g1 29 #[.slice A7 n7 c7, .slice A8 n8 c8, .slice A6 10 c6, .slice (some ⟨p0, 0, none⟩) 1 1, .slice (some ⟨p1, 0, none⟩) 1 1, .slice none 0 0, .slice none 0 0] from hq1)
     have L0 := hide (L0.out.grown hqb hlow)
     have L1 := hide (L1.out.grown hqb hlow)
     have VG := hide (grown_tr VG.out hqb)
     have D0 := hide (D0.out.grown hqb hlow)
     have D1 := hide (D1.out.grown hqb hlow)
     have D2 := hide hq3
     clear hq1 hq2 hq3 hqb VZ HBZ Z11
     have CK := hide (fun W => cell_lit n 34 34 rfl W hn (by decide))
     unfold VC at CK
     go_upto_region 35 with (go_at_call 21; (with_reducible refine (unhide CK _).mono ?_); rintro e z3 ⟨rfl, hbz⟩; have zb := hide (Z21.out.below hbz Z21.out.lt); have HBZ := hide hbz; have yc : ∀ o, (z3.alloc o).cell? ⟨g1, 5, none⟩ = some (.slice none 0 0) := fun o => (zb.out.alloc o).cell 5; have yf := fun o => (zb.out.alloc o).frozen 5; clear hbz)
     refine name_world fun Z3 hZ3 => ?_
     have VZ := hide (grown_below VG.out HBZ.out)
     obtain ⟨q1, q2, q3⟩ := field_set z3 V.heap.size g1 5 _ [Tb.cellC n 34] zb.out (by simp) VZ.out.size
     have hz : (z3.alloc (.cells (BV [Tb.cellC n 34]).toArray 5)).setCell ⟨g1, 5, none⟩ (.slice (some ⟨z3.heap.size, 0, none⟩) 1 1) = Z3 := hZ3.out
     have hq1 := Eq.mp (congrArg (fun W => Blk W g1 _ _) hz) q1
     have hq2 := Eq.mp (congrArg (fun W => z3.grownBy W (some g1)) hz) q2
     have hq3 := Eq.mp (congrArg (fun W => BsB W V.heap.size (.slice (some ⟨z3.heap.size, 0, none⟩) 1 1) [Tb.cellC n 34]) hz) q3
     have hqb := grown_tr (grown_below (World.grownBy.refl Z2 (some g1)) HBZ.out) hq2
     clear q1 q2 q3 hz hZ3 yc yf zb CK
     generalize z3.heap.size = p2 at hq1 hq3 ⊢
     have Z31 := hide (show Blk Z3 g1 29 #[.slice A7 n7 c7, .slice A8 n8 c8, .slice A6 10 c6, .slice (some ⟨p0, 0, none⟩) 1 1, .slice (some ⟨p1, 0, none⟩) 1 1, .slice (some ⟨p2, 0, none⟩) 1 1, .slice none 0 0] from hq1)
     have L0 := hide (L0.out.grown hqb hlow)
     have L1 := hide (L1.out.grown hqb hlow)
     have VG := hide (grown_tr VG.out hqb)
     have D0 := hide (D0.out.grown hqb hlow)
     have D1 := hide (D1.out.grown hqb hlow)
     have D2 := hide (D2.out.grown hqb hlow)
     have D3 := hide hq3
     clear hq1 hq2 hq3 hqb VZ HBZ Z21
     have CK := hide (fun W => cell_lit n 35 35 rfl W hn (by decide))
     unfold VC at CK
     go_upto_region 36 with (go_at_call 21; (with_reducible refine (unhide CK _).mono ?_); rintro e z4 ⟨rfl, hbz⟩; have zb := hide (Z31.out.below hbz Z31.out.lt); have HBZ := hide hbz; have yc : ∀ o, (z4.alloc o).cell? ⟨g1, 6, none⟩ = some (.slice none 0 0) := fun o => (zb.out.alloc o).cell 6; have yf := fun o => (zb.out.alloc o).frozen 6; clear hbz)
     refine name_world fun Z4 hZ4 => ?_
     have VZ := hide (grown_below VG.out HBZ.out)
     obtain ⟨q1, q2, q3⟩ := field_set z4 V.heap.size g1 6 _ [Tb.cellC n 35] zb.out (by simp) VZ.out.size
     have hz : (z4.alloc (.cells (BV [Tb.cellC n 35]).toArray 5)).setCell ⟨g1, 6, none⟩ (.slice (some ⟨z4.heap.size, 0, none⟩) 1 1) = Z4 := hZ4.out
     have hq1 := Eq.mp (congrArg (fun W => Blk W g1 _ _) hz) q1
     have hq2 := Eq.mp (congrArg (fun W => z4.grownBy W (some g1)) hz) q2
     have hq3 := Eq.mp (congrArg (fun W => BsB W V.heap.size (.slice (some ⟨z4.heap.size, 0, none⟩) 1 1) [Tb.cellC n 35]) hz) q3
     have hqb := grown_tr (grown_below (World.grownBy.refl Z3 (some g1)) HBZ.out) hq2
     clear q1 q2 q3 hz hZ4 yc yf zb CK
     generalize z4.heap.size = p3 at hq1 hq3 ⊢
     have Z41 := hide (show Blk Z4 g1 29 #[.slice A7 n7 c7, .slice A8 n8 c8, .slice A6 10 c6, .slice (some ⟨p0, 0, none⟩) 1 1, .slice (some ⟨p1, 0, none⟩) 1 1, .slice (some ⟨p2, 0, none⟩) 1 1, .slice (some ⟨p3, 0, none⟩) 1 1] from hq1)
     have L0 := hide (L0.out.grown hqb hlow)
     have L1 := hide (L1.out.grown hqb hlow)
     have VG := hide (grown_tr VG.out hqb)
     have D0 := hide (D0.out.grown hqb hlow)
     have D1 := hide (D1.out.grown hqb hlow)
     have D2 := hide (D2.out.grown hqb hlow)
     have D3 := hide (D3.out.grown hqb hlow)
     have D4 := hide hq3
     clear hq1 hq2 hq3 hqb VZ HBZ Z31
     have hb29 := tdiv_bounds n hn 29 (by decide)
     have q29 : wrap64 (n.tdiv 29) = n.tdiv 29 := by unfold wrap64; omega
     have A29 := hide (fun W => around_lit (n.tdiv 29) 5 5 rfl W (by unfold Wr.inI; omega) (by decide) (by decide))
     obtain ⟨a5, ha5⟩ : ∃ a5, a5 = Ce.around (n.tdiv 29) 5 := ⟨_, rfl⟩
     rw [← ha5] at A29
     have HSW := hide (show Tb.swC n = if a5 = 0 then [Tb.cellC n 35, Tb.cellC n 34] else [Tb.cellC n 35] by rw [ha5]; rfl)
     clear hb29 ha5
     have CK35 := hide (fun W => cell_lit n 35 35 rfl W hn (by decide))
     have CK34 := hide (fun W => cell_lit n 34 34 rfl W hn (by decide))
     unfold VC at CK35 CK34
     go_upto_if 174 with (go_at_call 12; (with_reducible refine (unhide A29 _).mono ?_); rintro e w9 ⟨rfl, rfl⟩)
     go_cut [] (fun wx => ∃ A q c, Blk wx g1 29 #[.slice A7 n7 c7, .slice A8 n8 c8, .slice A6 10 c6, .slice (some ⟨p0, 0, none⟩) 1 1, .slice (some ⟨p1, 0, none⟩) 1 1, .slice (some ⟨p2, 0, none⟩) 1 1, .slice A q c] ∧ BsB wx V.heap.size (.slice A q c) (Tb.swC n) ∧ Z4.grownBy wx (some g1))
     case first =>
      by_cases h5 : a5 = 0
      ·have h5e : ((a5 : Int) == 0) = true := by rw [h5]; rfl
       have HS2 := hide (show Tb.swC n = [Tb.cellC n 35, Tb.cellC n 34] by rw [HSW.out, if_pos h5])
       clear HSW h5
       go_wp2_with (go_at_call 21; first
        | ((with_reducible refine (unhide CK35 _).mono ?_); rintro e y1 ⟨rfl, hb1⟩; have B1 := hide hb1; have ZB1 := hide (Z41.out.below hb1 (Blk.lt Z41.out)); clear hb1)
        | ((with_reducible refine (unhide CK34 _).mono ?_); rintro e y2 ⟨rfl, hb2⟩; have B2 := hide (B1.out.trans (hb2.mono B1.out.size)); have ZB2 := hide (ZB1.out.below hb2 (Blk.lt ZB1.out)); have yc : ∀ o, (y2.alloc o).cell? ⟨g1, 6, none⟩ = some (.slice (some ⟨p3, 0, none⟩) 1 1) := fun o => (ZB2.out.alloc o).cell 6; have yf := fun o => (ZB2.out.alloc o).frozen 6; clear hb2))
       go_meet
       have VZ := hide (grown_below VG.out B2.out)
       obtain ⟨q1, q2, q3⟩ := field_set y2 V.heap.size g1 6 _ [Tb.cellC n 35, Tb.cellC n 34] ZB2.out (by simp) VZ.out.size
       exact ⟨_, _, _, q1, by rw [HS2.out]; exact q3, grown_tr (grown_below (World.grownBy.refl Z4 (some g1)) B2.out) q2⟩
      ·have h5e : ((a5 : Int) == 0) = false := by rw [beq_eq_false_iff_ne]; omega
       have HS2 := hide (show Tb.swC n = [Tb.cellC n 35] by rw [HSW.out, if_neg h5])
       clear HSW h5
       go_wp2
       go_meet
       exact ⟨_, _, _, Z41.out, by rw [HS2.out]; exact D4.out, World.grownBy.refl _ _⟩
     case rest =>
      obtain ⟨A9, n9, c9, hb9, hd9, hg9⟩ := hcut
      obtain ⟨Z5, rfl⟩ : ∃ Z5, Z5 = wc := ⟨wc, rfl⟩
      have Z51 := hide hb9
      have D4 := hide hd9
      have L0 := hide (L0.out.grown hg9 hlow)
      have L1 := hide (L1.out.grown hg9 hlow)
      have D0 := hide (D0.out.grown hg9 hlow)
      have D1 := hide (D1.out.grown hg9 hlow)
      have D2 := hide (D2.out.grown hg9 hlow)
      have D3 := hide (D3.out.grown hg9 hlow)
      have VG := hide (grown_tr VG.out hg9)
      clear hb9 hd9 hg9 Z41 A29 CK35 CK34 HSW
      have z0 : Z5.cell? ⟨g1, 0, none⟩ = some (.slice A7 n7 c7) := Z51.out.cell 0
      have z1 : Z5.cell? ⟨g1, 1, none⟩ = some (.slice A8 n8 c8) := Z51.out.cell 1
      have z2 : Z5.cell? ⟨g1, 2, none⟩ = some (.slice A6 10 c6) := Z51.out.cell 2
      have z3 : Z5.cell? ⟨g1, 3, none⟩ = some (.slice (some ⟨p0, 0, none⟩) 1 1) := Z51.out.cell 3
      have z4 : Z5.cell? ⟨g1, 4, none⟩ = some (.slice (some ⟨p1, 0, none⟩) 1 1) := Z51.out.cell 4
      have z5 : Z5.cell? ⟨g1, 5, none⟩ = some (.slice (some ⟨p2, 0, none⟩) 1 1) := Z51.out.cell 5
      have z6 : Z5.cell? ⟨g1, 6, none⟩ = some (.slice A9 n9 c9) := Z51.out.cell 6
      have ZG0 := hide (show Blk Z5 g0 29 #[.slice none 0 0, .slice none 0 0, .slice none 0 0, .slice none 0 0, .slice none 0 0, .slice none 0 0, .slice none 0 0] from V2.out.grown VG.out (fun e => by injection e with e; exact HG1.out.2.2.2 e))
      have hlow0 : ∀ g, some g0 = some g → g < V.heap.size := fun g hg => by injection hg with hg; have := HG1.out.2.2.1; omega
      obtain ⟨t, ht1, ht2⟩ := tab_parts (L0.out.grown (grown_setRow Z5 g0 #[.slice A7 n7 c7, .slice A8 n8 c8, .slice A6 10 c6, .slice (some ⟨p0, 0, none⟩) 1 1, .slice (some ⟨p1, 0, none⟩) 1 1, .slice (some ⟨p2, 0, none⟩) 1 1, .slice A9 n9 c9]) hlow0) (L1.out.grown (grown_setRow Z5 g0 _) hlow0) (D0.out.grown (grown_setRow Z5 g0 _) hlow0) (D1.out.grown (grown_setRow Z5 g0 _) hlow0) (D2.out.grown (grown_setRow Z5 g0 _) hlow0) (D3.out.grown (grown_setRow Z5 g0 _) hlow0) (D4.out.grown (grown_setRow Z5 g0 _) hlow0)
      have HT := hide ht1
      have HTE := hide (show Tb.eT t = Tb.tablesT n by unfold Tb.tablesT; exact ht2)
      have hB : Below w.heap.size w (Z5.setRow g0 #[.slice A7 n7 c7, .slice A8 n8 c8, .slice A6 10 c6, .slice (some ⟨p0, 0, none⟩) 1 1, .slice (some ⟨p1, 0, none⟩) 1 1, .slice (some ⟨p2, 0, none⟩) 1 1, .slice A9 n9 c9]) := by
       have h1 : Below w.heap.size w Z5 := ((HV.out).grown VG.out HV.out.size (fun g hg => by injection hg with hg; have := HG1.out.1; omega))
       exact h1.grown (grown_setRow Z5 g0 _) h1.size (fun g hg => by injection hg with hg; have := HG1.out.2.1; omega)
      have HBB := hide hB
      clear ht1 ht2 hB L0 L1 D0 D1 D2 D3 D4 VG Z51
      go_wp2_with (first | (with_reducible refine wpList_store_tab rfl (.tmp 2) (.tmp 181) rfl g0 _ _ _ _ _ _ _ rfl rfl _ ZG0.out ?s1 ?s2 ?_))
      case s1 => rfl
      case s2 => simp [Value.oneCell']
      first
       | exact bodyPost_ret (results_cell0 Tryd.results5 _ _ ⟨g0, 0, none⟩ _ rfl (load_tab Z5 g0 _ _ _ _ _ _ _ _ ZG0.out)) rfl ⟨_, t, rfl, HT.out, HTE.out, HBB.out⟩
def Fit (m : Nat) (t : Tb.Tab) : Prop := t.r0.length ≤ m ∧ t.r1.length ≤ m ∧ 1 ≤ t.dig.l.length ∧ t.dig.l.length ≤ 100
def gTab (m : Nat) : World → Value → Prop := fun W v => ∃ t, TabAt W W.heap.size v t ∧ Fit m t
def BentC : Prop := ∀ (m : Nat), m ≤ 600 → ∀ (v : Value) (x y z : Int) (W : World), gTab m W v → Wr.inI x → Wr.inI y → Wr.inI z →
 Calls Tryd.prog 4 #[v, .int .i64 x, .int .i64 y, .int .i64 z] W fun e w' => ∃ v', e = .returned v' ∧ gTab (m + 100) w' v' ∧ Below W.heap.size W w'
def nilTab : Tb.Tab := ⟨[], [], ⟨[], none, 0⟩, ⟨[], none, 0⟩, ⟨[], none, 0⟩, ⟨[], none, 0⟩, ⟨[], none, 0⟩⟩
theorem nil_tab (W : World) : TabAt W W.heap.size (.agg #[.slice none 0 0, .slice none 0 0, .slice none 0 0, .slice none 0 0, .slice none 0 0, .slice none 0 0, .slice none 0 0]) nilTab := by
 have hb : BsAt W W.heap.size ⟨[], none, 0⟩ := ⟨⟨rfl, fun h => absurd h (by simp)⟩, Nat.le_refl _, by simp⟩
 have hr : RulesAt W W.heap.size none [] := ⟨⟨rfl, fun h => absurd h (by simp)⟩, fun r hr => (by cases hr), by simp⟩
 exact ⟨none, none, 0, 0, rfl, hr, hr, Nat.le_refl _, Nat.le_refl _, hb, hb, hb, hb, hb⟩
theorem fit_tablesT {t : Tb.Tab} {n : Int} (h : Tb.eT t = Tb.tablesT n) : Fit 40 t := by
 have e0 : t.r0.length = (Tb.once (Tb.rawR n 0)).length := by
  have := congrArg (fun q => q.r0.length) h
  simpa [Tb.eT, tablesT_r0] using this
 have e1 : t.r1.length = (Tb.once (Tb.rawR n 1)).length := by
  have := congrArg (fun q => q.r1.length) h
  simpa [Tb.eT, tablesT_r1] using this
 have e2 : t.dig.l.length = 10 := by
  have := congrArg (fun q => q.dig.l.length) h
  simpa [Tb.eT, Tb.eB, Tb.tablesT] using this
 have h0 := Nat.le_trans (Tb.once_len (Tb.rawR n 0)) (Tb.rawR_len n 0)
 have h1 := Nat.le_trans (Tb.once_len (Tb.rawR n 1)) (Tb.rawR_len n 1)
 exact ⟨by omega, by omega, by omega, by omega⟩
end Go.Proofs.YtjnnohghgkjhcaaDoor
