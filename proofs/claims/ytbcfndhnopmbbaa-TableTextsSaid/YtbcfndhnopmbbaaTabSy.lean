/-
  Tables: Syms of the reference, by contract.
-/
import Derived.Test.YtbcfndhnopmbbaaTabX
import Derived.Test.YtbcfndhnopmbbaaTabZa
import Derived.Deep.CutBlock
namespace Go.Proofs.Ytbcfndhnopmbbaa
open Go.RowKit
set_option linter.unusedVariables false
set_option linter.unusedSimpArgs false
namespace Tb
def theS : List UInt8 := [116, 104, 101, 114, 105, 110, 103, 97, 110, 100, 115, 116, 111, 117, 98, 99, 97, 102, 120]
def symWords : List (List UInt8) := [[116, 104, 101], [97, 110, 100], [105, 110, 103], [116, 105, 111, 110], [98, 117, 116], [98, 101], [115, 116]]
def symC (n : Nat) : UInt8 :=
  if n / 12 = 12 ∨ n / 12 = 13 then UInt8.ofNat (48 + n % 10)
  else if n / 12 = 14 then markB.getD (n % 6) 0
  else if n / 12 = 15 ∨ n / 12 = 16 then 32
  else if n / 12 = 17 then theS.getD (n % 19) 0 - 32
  else theS.getD (n % 19) 0
def symLang (n lang : Nat) : Nat := if n / 12 = 19 then 1 - lang else lang
def symWord (n : Nat) : List UInt8 := if n / 12 = 18 then symWords.getD (n % 7) [] else []
def symMore (l : Text) (n lang : Nat) : Text := l ++ (((symLang n lang : Nat) : Int), symC n) :: ((symWord n).take (23 - l.length)).map fun c => (((symLang n lang : Nat) : Int), c)
def symStep (s : Text × Nat) (x : Int) : Text × Nat :=
  if s.1.length < 24 then (symMore s.1 (Ce.around x 240) s.2, symLang (Ce.around x 240) s.2) else s
def symsS (l : List Int) : Text × Nat := l.foldl symStep ([], 0)
def symsT (l : List Int) : Text := (symsS l).1
theorem symsS_snoc (l : List Int) (x : Int) : symsS (l ++ [x]) = symStep (symsS l) x := by unfold symsS; rw [List.foldl_append]; rfl
theorem symLang_lt (n lang : Nat) (h : lang < 2) : symLang n lang < 2 := by unfold symLang; split <;> omega
theorem symC_good (n : Nat) (h : n < 240) : letter (symC n) = true ∨ digit (symC n) = true ∨ symC n ∈ markB := by
  have H : ∀ n : Fin 240, letter (symC n.val) = true ∨ digit (symC n.val) = true ∨ symC n.val ∈ markB := by decide +kernel
  exact H ⟨n, h⟩
theorem symWord_good (n : Nat) (h : n < 240) : ∀ c ∈ symWord n, letter c = true := by
  have H : ∀ n : Fin 240, ∀ c ∈ symWord n.val, letter c = true := by decide +kernel
  exact H ⟨n, h⟩
theorem langOk_nat (k : Nat) (h : k < 2) : langOk (k : Int) = true := by unfold langOk; exact decide_eq_true ⟨by omega, by omega⟩
theorem symsS_good (l : List Int) : (symsS l).2 < 2 ∧ (symsS l).1.length ≤ 24 ∧ ∀ x ∈ (symsS l).1, good x := by
  refine Wr.snoc_ind (P := fun l => (symsS l).2 < 2 ∧ (symsS l).1.length ≤ 24 ∧ ∀ x ∈ (symsS l).1, good x) ⟨by decide, by decide, fun x h => by cases h⟩ (fun l a ih => ?_) l
  rw [symsS_snoc]
  obtain ⟨h1, h2, h3⟩ := ih
  have hn := Ce.around_lt a 240 (by decide)
  generalize symsS l = s at *
  generalize Ce.around a 240 = n at *
  unfold symStep
  by_cases h : s.1.length < 24
  · have hl := symLang_lt (Ce.around a 240) s.2 h1
    rw [if_pos h]
    refine ⟨hl, ?_, fun x hx => ?_⟩
    · unfold symMore
      simp only [List.length_append, List.length_cons, List.length_map, List.length_take]
      omega
    · unfold symMore at hx
      have hn' := Ce.around_lt a 240 (by decide)
      rcases List.mem_append.1 hx with hx | hx
      · exact h3 x hx
      · rcases List.mem_cons.1 hx with hx | hx
        · subst hx
          exact ⟨langOk_nat _ hl, symC_good _ hn'⟩
        · obtain ⟨c, hc, rfl⟩ := List.mem_map.1 hx
          exact ⟨langOk_nat _ hl, .inl (symWord_good _ hn' c (List.mem_of_mem_take hc))⟩
  · rw [if_neg h]
    exact ⟨h1, h2, h3⟩
theorem symsT_good (l : List Int) : (symsT l).length ≤ 24 ∧ ∀ x ∈ symsT l, good x := (symsS_good l).2
end Tb
theorem Tb.symsS_full (l : List Int) (i : Nat) (h : ¬ (Tb.symsS (l.take i)).1.length < 24) : Tb.symsS l = Tb.symsS (l.take i) := by
  have e : ∀ (r : List Int) (s : Tb.Text × Nat), ¬ s.1.length < 24 → r.foldl Tb.symStep s = s := by
    intro r
    induction r with
    | nil => intro s _; rfl
    | cons a r ih =>
      intro s hs
      rw [List.foldl_cons]
      have h1 : Tb.symStep s a = s := by unfold Tb.symStep; rw [if_neg hs]
      rw [h1]
      exact ih s hs
  have h2 : Tb.symsS (l.take i ++ l.drop i) = (l.drop i).foldl Tb.symStep (Tb.symsS (l.take i)) := by unfold Tb.symsS; rw [List.foldl_append]
  rw [List.take_append_drop] at h2
  rw [h2]
  exact e _ _ h
/-- numbers in memory below B -/
def IntsAt (w : World) (B : Nat) (A : Option Addr) (l : List Int) : Prop := Reads w B 1 A l.length (l.map fun x => Value.int .i64 x) ∧ (∀ x ∈ l, Wr.inI x) ∧ l.length ≤ 17592186044416
theorem the_at (n : Nat) (W : World) : (Instr.index 9 (.string (S Tb.theS)) (.int .i64 ((n % 19 : Nat) : Int))).run Try.prog W = .ok (.int .u8 (((Tb.theS.getD (n % 19) 0).toNat : Nat) : Int)) W := run_index_S Tb.theS (n % 19) (Nat.mod_lt _ (by decide)) W
theorem dig_at (n : Nat) (W : World) : (Instr.index 9 (.string (S [48, 49, 50, 51, 52, 53, 54, 55, 56, 57])) (.int .i64 ((n % 10 : Nat) : Int))).run Try.prog W = .ok (.int .u8 (((UInt8.ofNat (48 + n % 10)).toNat : Nat) : Int)) W := by
  rw [run_index_S [48, 49, 50, 51, 52, 53, 54, 55, 56, 57] (n % 10) (Nat.mod_lt _ (by decide)) W]
  have H : ∀ k : Fin 10, ([48, 49, 50, 51, 52, 53, 54, 55, 56, 57] : List UInt8).getD k.val 0 = UInt8.ofNat (48 + k.val) := by decide
  rw [H ⟨n % 10, Nat.mod_lt _ (by decide)⟩]
theorem mark_at (n : Nat) (W : World) : (Instr.index 9 (.string (S Tb.markB)) (.int .i64 ((n % 6 : Nat) : Int))).run Try.prog W = .ok (.int .u8 (((Tb.markB.getD (n % 6) 0).toNat : Nat) : Int)) W := run_index_S Tb.markB (n % 6) (Nat.mod_lt _ (by decide)) W
theorem the_lit (n : Nat) (W : World) : (Instr.index 9 (.string { data := #[116, 104, 101, 114, 105, 110, 103, 97, 110, 100, 115, 116, 111, 117, 98, 99, 97, 102, 120] }) (.int .i64 ((n : Int) % 19))).run Try.prog W = .ok (.int .u8 (((Tb.theS.getD (n % 19) 0).toNat : Nat) : Int)) W := by
  have h := the_at n W
  rw [show ((n % 19 : Nat) : Int) = (n : Int) % 19 by omega] at h
  exact h
theorem dig_lit (n : Nat) (W : World) : (Instr.index 9 (.string { data := #[48, 49, 50, 51, 52, 53, 54, 55, 56, 57] }) (.int .i64 ((n : Int) % 10))).run Try.prog W = .ok (.int .u8 (((UInt8.ofNat (48 + n % 10)).toNat : Nat) : Int)) W := by
  have h := dig_at n W
  rw [show ((n % 10 : Nat) : Int) = (n : Int) % 10 by omega] at h
  exact h
theorem mark_lit (n : Nat) (W : World) : (Instr.index 9 (.string { data := #[32, 46, 44, 63, 39, 45] }) (.int .i64 ((n : Int) % 6))).run Try.prog W = .ok (.int .u8 (((Tb.markB.getD (n % 6) 0).toNat : Nat) : Int)) W := by
  have h := mark_at n W
  rw [show ((n % 6 : Nat) : Int) = (n : Int) % 6 by omega] at h
  exact h
theorem the_range (n : Nat) : 97 ≤ (Tb.theS.getD (n % 19) 0).toNat ∧ (Tb.theS.getD (n % 19) 0).toNat ≤ 122 := by
  have H : ∀ k : Fin 19, 97 ≤ (Tb.theS.getD k.val 0).toNat ∧ (Tb.theS.getD k.val 0).toNat ≤ 122 := by decide
  exact H ⟨n % 19, Nat.mod_lt _ (by decide)⟩
theorem sym_code (n : Nat) (hn : n < 240) : ((Tb.symC n).toNat : Int) = if (n : Int) / 12 = 12 ∨ (n : Int) / 12 = 13 then ((UInt8.ofNat (48 + n % 10)).toNat : Int) else if (n : Int) / 12 = 14 then ((Tb.markB.getD (n % 6) 0).toNat : Int) else if (n : Int) / 12 = 15 ∨ (n : Int) / 12 = 16 then 32 else if (n : Int) / 12 = 17 then ((Tb.theS.getD (n % 19) 0).toNat : Int) - 32 else ((Tb.theS.getD (n % 19) 0).toNat : Int) := by
  have H : ∀ k : Fin 240, ((Tb.symC k.val).toNat : Int) = if (k.val : Int) / 12 = 12 ∨ (k.val : Int) / 12 = 13 then ((UInt8.ofNat (48 + k.val % 10)).toNat : Int) else if (k.val : Int) / 12 = 14 then ((Tb.markB.getD (k.val % 6) 0).toNat : Int) else if (k.val : Int) / 12 = 15 ∨ (k.val : Int) / 12 = 16 then 32 else if (k.val : Int) / 12 = 17 then ((Tb.theS.getD (k.val % 19) 0).toNat : Int) - 32 else ((Tb.theS.getD (k.val % 19) 0).toNat : Int) := by decide +kernel
  exact H ⟨n, hn⟩
theorem seven_words (k : Nat) (hk : k < 7) : (#[.string { data := #[116, 104, 101] }, .string { data := #[97, 110, 100] }, .string { data := #[105, 110, 103] }, .string { data := #[116, 105, 111, 110] }, .string { data := #[98, 117, 116] }, .string { data := #[98, 101] }, .string { data := #[115, 116] }] : Array Value)[k]? = some (.string (S (Tb.symWords.getD k []))) := by
  match k, hk with
  | 0, _ | 1, _ | 2, _ | 3, _ | 4, _ | 5, _ | 6, _ => rfl
theorem sym_word_spec (out : Tb.Text) (n lg : Nat) : ¬ n / 12 = 18 → (out ++ ((lg : Int), Tb.symC n) :: ((Tb.symWord n).take (23 - out.length)).map fun c => ((lg : Int), c)) = out ++ [((lg : Int), Tb.symC n)] := by
  intro h
  have e : Tb.symWord n = [] := by unfold Tb.symWord; rw [if_neg h]
  rw [e]
  simp
set_option maxHeartbeats 8000000 in
set_option maxRecDepth 100000 in
theorem syms_any (A : Option Addr) (c : Nat) (l : List Int) (w : World) (hr : IntsAt w w.heap.size A l) :
    Calls Try.prog 15 #[.slice A l.length c] w fun e w' => ∃ A' c', e = .returned (.slice A' (Tb.symsT l).length c') ∧ (Tb.symsT l).length ≤ c' ∧ TextAt w' w'.heap.size A' (Tb.symsT l) ∧ Below w.heap.size w w' := by
  obtain ⟨m, hm⟩ : ∃ m, m = l.length := ⟨_, rfl⟩
  have HM := hide hm
  have hbig := hr.2.2
  rw [← hm] at hbig ⊢
  have hmi : (m : Int) ≤ 17592186044416 := by omega
  have HR := hide hr
  have HW := hide (Below.refl w.heap.size w)
  clear hr hm
  go_enter Try.func15, Try.ntmps15
  go_wp2
  go_loopw [3, 4, 5] (fun s3 s4 q wr => ∃ (i : Nat) (y3 : Value), i ≤ m ∧ q = .int .i64 (i : Int) ∧ y3 = s3 ∧ s4 = .int .i64 (((Tb.symsS (l.take i)).2 : Nat) : Int) ∧ wr.ownsRow w.heap.size 67 2 y3 (Tb.symsT (l.take i)).length (SC (Tb.symsT (l.take i))) ∧ Below w.heap.size w wr) (fun _ _ q _ => m - (intOf q).toNat)
  case atStart => exact ⟨0, _, by omega, rfl, rfl, by rw [List.take_zero]; rfl, by rw [List.take_zero]; exact own_nil _ _ _ _, HW.out⟩
  case round =>
    obtain ⟨i, y3, hi, rfl, rfl, rfl, hown, hbel⟩ := hrel
    obtain ⟨wd, rfl⟩ : ∃ wd, wd = wr := ⟨wr, rfl⟩
    have hi0 : (0 : Int) ≤ (i : Int) := by omega
    obtain ⟨A3, c3, rfl, hc3, _⟩ := own_slice hown
    by_cases hlt : i < m
    · have hi1 : (i : Int) < (m : Int) := by omega
      have hil : i < l.length := by rw [← HM.out]; exact hlt
      obtain ⟨hg1, hg2, _⟩ := Tb.symsS_good (l.take i)
      have HFULL := hide (Tb.symsS_full l i)
      have HX := hide (show Tb.symsS (l.take (i + 1)) = Tb.symStep (Tb.symsS (l.take i)) l[i] by rw [List.take_succ_eq_append_getElem hil, Tb.symsS_snoc])
      unfold Tb.symsT at *
      generalize Tb.symsS (l.take i) = st at *
      obtain ⟨out, lang⟩ := st
      simp only [] at *
      have HOWN := hide hown
      have HB := hide hbel
      have HLT := hide hlt
      clear hown hbel hlt
      by_cases hfull : out.length < 24
      · have HX2 := hide (show Tb.symsS (l.take (i + 1)) = (out ++ (((Tb.symLang (Ce.around l[i] 240) lang : Nat) : Int), Tb.symC (Ce.around l[i] 240)) :: ((Tb.symWord (Ce.around l[i] 240)).take (23 - out.length)).map fun c => (((Tb.symLang (Ce.around l[i] 240) lang : Nat) : Int), c), Tb.symLang (Ce.around l[i] 240) lang) by rw [HX.out]; unfold Tb.symStep; rw [if_pos hfull]; rfl)
        obtain ⟨ad, u, rfl, hadb, hu, hcu⟩ := Reads.at_ HR.out.1 (k := i) hil
        have hcx : wd.cell? (ad.add i) = some (.int .i64 l[i]) := by
          rw [HB.out.cell (by rw [block_of_add]; exact hadb), hcu, ← hu, List.getElem?_map, List.getElem?_eq_getElem hil]
          rfl
        have CA := hide (fun W => (show Calls Try.prog 30 #[.int .i64 l[i], .int .i64 240] W fun e w' => e = .returned (.int .i64 ((Ce.around l[i] 240 : Nat) : Int)) ∧ W = w' from around_any l[i] 240 W (HR.out.2.1 _ (List.getElem_mem hil)) (by omega) (by omega)))
        have hn := Ce.around_lt l[i] 240 (by decide)
        clear HX HFULL hu hcu
        generalize Ce.around l[i] 240 = n at *
        generalize l[i] = x at *
        have hol : (out.length : Int) < 24 := by omega
        have hlg : (lang : Int) < 2 := by omega
        go_upto_if 29 with (go_at_call 30; refine (unhide CA _).mono ?_; rintro e w1 ⟨rfl, rfl⟩)
        have HX2L := hide hlg
        have hl2 : ((Tb.symLang n lang : Nat) : Int) = if (n : Int) / 12 = 19 then 1 - (lang : Int) else (lang : Int) := by
          unfold Tb.symLang
          split <;> split <;> omega
        go_cut [4] from 11 to 88 (fun s4 wx => s4 = .int .i64 (((Tb.symLang n lang : Nat) : Int)) ∧ wx = wd)
        case first =>
          by_cases hq : (n : Int) / 12 = 19
          · have hqb : ((n : Int) / 12 == 19) = true := by simp [hq]
            go_wp2
            go_meet
            exact ⟨by rw [hl2, if_pos hq], rfl⟩
          · have hqb : ((n : Int) / 12 == 19) = false := by simp [hq]
            go_wp2
            go_meet
            exact ⟨by rw [hl2, if_neg hq], rfl⟩
        case rest =>
          obtain ⟨rfl, rfl⟩ := hcut
          have hlg3 := Tb.symLang_lt n lang hg1
          clear hl2 HX2L hlg hg1
          have HC := hide (show ((Tb.symC n).toNat : Int) = if (n : Int) / 12 = 12 ∨ (n : Int) / 12 = 13 then ((UInt8.ofNat (48 + n % 10)).toNat : Int) else if (n : Int) / 12 = 14 then ((Tb.markB.getD (n % 6) 0).toNat : Int) else if (n : Int) / 12 = 15 ∨ (n : Int) / 12 = 16 then 32 else if (n : Int) / 12 = 17 then ((Tb.theS.getD (n % 19) 0).toNat : Int) - 32 else ((Tb.theS.getD (n % 19) 0).toNat : Int) from sym_code n hn)
          have i1 := the_lit n
          have i2 := dig_lit n
          have i3 := mark_lit n
          obtain ⟨ht1, ht2⟩ := the_range n
          generalize (Tb.theS.getD (n % 19) 0).toNat = cT at *
          generalize (UInt8.ofNat (48 + n % 10)).toNat = cD at *
          generalize (Tb.markB.getD (n % 6) 0).toNat = cM at *
          generalize hcc : (Tb.symC n).toNat = cc at *
          have HCC := hide hcc
          clear hcc
          generalize Tb.symLang n lang = lg at *
          go_upto_block 2 with fail
          go_cut [7] from 11 to 88 (fun s7 wx => s7 = .int .u8 (cc : Int) ∧ wx = wc)
          case first =>
            clear i1 HOWN HB HCC HX2 CA HR HLT
            generalize (n : Int) / 12 = q at *
            have hq : q = 12 ∨ q = 13 ∨ q = 14 ∨ q = 15 ∨ q = 16 ∨ q = 17 ∨ (q ≠ 12 ∧ q ≠ 13 ∧ q ≠ 14 ∧ q ≠ 15 ∧ q ≠ 16 ∧ q ≠ 17) := by omega
            rcases hq with rfl | rfl | rfl | rfl | rfl | rfl | ⟨q1, q2, q3, q4, q5, q6⟩
            · go_wp2
              go_meet
              exact ⟨by rw [HC.out]; rfl, rfl⟩
            · go_wp2
              go_meet
              exact ⟨by rw [HC.out]; rfl, rfl⟩
            · go_wp2
              go_meet
              exact ⟨by rw [HC.out]; rfl, rfl⟩
            · go_wp2
              go_meet
              exact ⟨by rw [HC.out]; rfl, rfl⟩
            · go_wp2
              go_meet
              exact ⟨by rw [HC.out]; rfl, rfl⟩
            · go_wp2
              go_meet
              exact ⟨by rw [HC.out]; rfl, rfl⟩
            · have b1 : (q == 12) = false := by simp [q1]
              have b2 : (q == 13) = false := by simp [q2]
              have b3 : (q == 14) = false := by simp [q3]
              have b4 : (q == 15) = false := by simp [q4]
              have b5 : (q == 16) = false := by simp [q5]
              have b6 : (q == 17) = false := by simp [q6]
              go_wp2
              go_meet
              exact ⟨by rw [HC.out, if_neg (by omega), if_neg q3, if_neg (by omega), if_neg q6], rfl⟩
          case rest =>
            obtain ⟨rfl, rfl⟩ := hcut
            clear HC i1 i2 i3 ht1 ht2
            have hbs := HB.out.size
            obtain ⟨v', W', hrun, hown', hgrow', _⟩ := syms_push (wc.alloc (.cells #[.int .i64 (lg : Int), .int .u8 (cc : Int)] 67)) w.heap.size wc.heap.size (.slice A3 out.length c3) out ((lg : Int), Tb.symC n) (own_below HOWN.out (below_alloc wc _)) (by show Blk _ _ _ #[_, .int .u8 ((Tb.symC n).toNat : Int)]; rw [HCC.out]; exact Blk.new wc _ _) (by simp; omega) (by omega) 37
            have HRUN := hide hrun
            have HO1 := hide hown'
            have HB1 := hide ((HB.out.trans (below_alloc' wc _ hbs)).grown hgrow' (by simp; omega) (fun g hg => (HOWN.out.lt g hg).1))
            clear hrun hown' hgrow' HOWN
            go_upto_if 64 with (at_builtin; refine Lib.wpList_append_run _ rfl _ _ _ _ rfl _ _ rfl rfl _ _ HRUN.out ?_)
            refine name_world fun X hX => ?_
            have HC7 := hide (show ∀ k : Nat, k < 7 → X.cell? ⟨W'.heap.size, k, none⟩ = some (.string (S (Tb.symWords.getD k []))) from fun k hk => by
              rw [← hX.out, Blk.cell (Blk.new W' _ _)]
              exact seven_words k hk)
            have HBA := hide (show Below W'.heap.size W' X by rw [← hX.out]; exact below_alloc W' _)
            have hxl : W'.heap.size < X.heap.size := by rw [← hX.out]; exact (Blk.new W' _ _).lt
            have hb1s := HB1.out.size
            have HO2 := hide (own_below HO1.out HBA.out)
            have HB2 := hide (HB1.out.trans (HBA.out.mono hb1s))
            have HSP := hide (sym_word_spec out n lg)
            obtain ⟨A1, c1, rfl, hc1, _⟩ := own_slice HO1.out
            clear hX HB HB1 HO1 HRUN HBA hb1s CA hcx
            generalize W'.heap.size = gw at *
            by_cases hq : n / 12 = 18
            · have hqb : ((n : Int) / 12 == 18) = true := by
                have : (n : Int) / 12 = 18 := by omega
                simp [this]
              have hr0 : (0 : Int) ≤ (n : Int) % 7 := by omega
              have hr1 : (n : Int) % 7 < 7 := by omega
              have hcw : X.cell? ⟨gw, n % 7, none⟩ = some (.string (S (Tb.symWord n))) := by
                rw [HC7.out _ (by omega)]
                unfold Tb.symWord
                rw [if_pos hq]
              rw [hqb]
              clear HSP HC7
              generalize Tb.symWord n = word at *
              have HSX := hide (fun (i : Nat) (hi : i < word.length) (W : World) => run_index_S word i hi W)
              obtain ⟨wl, hwl⟩ : ∃ wl, wl = word.length := ⟨_, rfl⟩
              have hsz : (S word).size = wl := by rw [S_size, hwl]
              have HWL := hide hwl
              have HO3 := hide (show X.ownsRow w.heap.size 67 2 (.slice A1 (out ++ [((lg : Int), Tb.symC n)]).length c1) (out ++ [((lg : Int), Tb.symC n)] ++ (word.take 0).map fun c => ((lg : Int), c)).length (SC (out ++ [((lg : Int), Tb.symC n)] ++ (word.take 0).map fun c => ((lg : Int), c))) by
                rw [List.take_zero, List.map_nil, List.append_nil]
                exact HO2.out)
              have HLN := hide (show (out ++ [((lg : Int), Tb.symC n)]).length = out.length + 1 by simp)
              clear HO2 hwl
              generalize S word = sv at *
              generalize ho1 : out ++ [((lg : Int), Tb.symC n)] = o1 at *
              have HO1E := hide ho1.symm
              clear ho1
              go_wp2
              go_loopw [3, 10] (fun s3 q wr => ∃ (j : Nat) (z3 : Value), j ≤ wl ∧ q = .int .i64 (j : Int) ∧ z3 = s3 ∧ wr.ownsRow w.heap.size 67 2 z3 (o1 ++ (word.take j).map fun c => ((lg : Int), c)).length (SC (o1 ++ (word.take j).map fun c => ((lg : Int), c))) ∧ Below w.heap.size w wr ∧ out.length + 1 + j ≤ 24) (fun _ q _ => wl - (intOf q).toNat)
              case atStart => exact ⟨0, _, by omega, rfl, rfl, HO3.out, HB2.out, by omega⟩
              case round =>
                obtain ⟨j, z3, hj, rfl, rfl, hown, hbel, h24⟩ := hrel
                obtain ⟨wd, rfl⟩ : ∃ wd, wd = wr := ⟨wr, rfl⟩
                have hj0 : (0 : Int) ≤ (j : Int) := by omega
                obtain ⟨A4, c4, rfl, hc4, _⟩ := own_slice hown
                have hlen : (o1 ++ (word.take j).map fun c => ((lg : Int), c)).length = out.length + 1 + j := by
                  rw [List.length_append, HLN.out, List.length_map, List.length_take]
                  have := HWL.out
                  omega
                by_cases hgo : j < wl ∧ out.length + 1 + j < 24
                · obtain ⟨hj2, hf2⟩ := hgo
                  have hjl : j < word.length := by rw [← HWL.out]; exact hj2
                  have hj3 : (j : Int) < (wl : Int) := by omega
                  have hix := fun W => HSX.out j hjl W
                  have hf3 : ((o1 ++ (word.take j).map fun c => ((lg : Int), c)).length : Int) < 24 := by omega
                  have HT := hide (show (o1 ++ (word.take (j + 1)).map fun c => ((lg : Int), c)) = (o1 ++ (word.take j).map fun c => ((lg : Int), c)) ++ [((lg : Int), word.getD j 0)] by
                    rw [List.take_succ_eq_append_getElem hjl, List.map_append, List.append_assoc]
                    simp [List.getD, hjl])
                  have hbs := hbel.size
                  obtain ⟨v', W2, hrun, hown', hgrow', _⟩ := syms_push (wd.alloc (.cells #[.int .i64 (lg : Int), .int .u8 ((word.getD j 0).toNat : Int)] 67)) w.heap.size wd.heap.size _ _ ((lg : Int), word.getD j 0) (own_below hown (below_alloc wd _)) (Blk.new wd _ _) (by simp; omega) (by omega) 37
                  have HRUN := hide hrun
                  have HO' := hide hown'
                  have HB' := hide ((hbel.trans (below_alloc' wd _ hbs)).grown hgrow' (by simp; omega) (fun g hg => (hown.lt g hg).1))
                  have HLT2 := hide hj2
                  have HF2 := hide hf2
                  clear hrun hown' hgrow' hown hbel HSX hjl hlen hj2 hf2
                  generalize (word.getD j 0).toNat = cq at *
                  generalize (o1 ++ (word.take j).map fun c => ((lg : Int), c)).length = ol at *
                  go_wp2_with (at_builtin; refine Lib.wpList_append_run _ rfl _ _ _ _ rfl _ _ rfl rfl _ _ HRUN.out ?_)
                  have hq1 := HLT2.out
                  have hq2 := HF2.out
                  refine ⟨⟨j + 1, _, by omega, by go_num, rfl, by rw [HT.out]; exact HO'.out, HB'.out, by omega⟩, by simp only [intOf]; omega⟩
                · have HX3 := hide (show Tb.symsS (l.take (i + 1)) = (o1 ++ (word.take j).map fun c => ((lg : Int), c), lg) by
                    rw [HX2.out, HO1E.out, List.append_assoc]
                    have e : word.take j = word.take (23 - out.length) := by
                      by_cases hw2 : j < wl
                      · rw [show 23 - out.length = j by omega]
                      · rw [List.take_of_length_le (by have := HWL.out; omega), List.take_of_length_le (by have := HWL.out; omega)]
                    rw [e]
                    rfl)
                  have HOW := hide hown
                  have HBW := hide hbel
                  clear hown hbel HSX HX2
                  have hx3 := HX3.out
                  generalize hol2 : (o1 ++ (word.take j).map fun c => ((lg : Int), c)).length = ol at *
                  have HOL := hide hol2
                  by_cases hjw : j < wl
                  · have hj3 : (j : Int) < (wl : Int) := by omega
                    have hnf : ¬ ((ol : Int) < 24) := by omega
                    clear hol2 hx3 hlen hgo
                    go_wp2
                    have hx3 := HX3.out
                    have hil2 := HLT.out
                    refine ⟨⟨i + 1, _, by omega, by go_num, rfl, by rw [hx3], by rw [hx3, HOL.out]; exact HOW.out, HBW.out⟩, by simp only [intOf]; omega⟩
                  · have hj3 : ¬ ((j : Int) < (wl : Int)) := by omega
                    clear hol2 hx3 hlen hgo
                    go_wp2
                    have hx3 := HX3.out
                    have hil2 := HLT.out
                    refine ⟨⟨i + 1, _, by omega, by go_num, rfl, by rw [hx3], by rw [hx3, HOL.out]; exact HOW.out, HBW.out⟩, by simp only [intOf]; omega⟩
            · have hqb : ((n : Int) / 12 == 18) = false := by
                have : ¬ (n : Int) / 12 = 18 := by omega
                simp [this]
              have HX3 := hide (show Tb.symsS (l.take (i + 1)) = (out ++ [((lg : Int), Tb.symC n)], lg) by rw [HX2.out, HSP.out hq])
              clear HX2 HSP HC7
              go_wp2
              have hx3 := HX3.out
              refine ⟨⟨i + 1, _, HLT.out, by go_num, rfl, by rw [hx3], by rw [hx3]; exact HO2.out, HB2.out⟩, by have := HLT.out; simp [intOf]; omega⟩
      · have hnf : ¬ ((out.length : Int) < 24) := by omega
        have HF := hide (show Tb.symsS l = (out, lang) from HFULL.out hfull)
        obtain ⟨A', c', hv, hc, ht⟩ := text_of_own HOWN.out (by omega)
        have HT := hide ht
        have HC := hide hc
        injection hv with hv1 hv2 hv3
        subst hv1 hv3
        clear hc ht HX HFULL HOWN
        go_wp2
        go_ret
        rw [show Tb.symsT l = out by unfold Tb.symsT; rw [HF.out]]
        exact ⟨_, _, rfl, HC.out, HT.out, HB.out⟩
    · obtain rfl : i = m := by omega
      have hnt : ¬ ((i : Int) < (i : Int)) := by omega
      have el : l.take i = l := List.take_of_length_le (by have := HM.out; omega)
      rw [el] at hown hc3 ⊢
      obtain ⟨A', c', hv, hc, ht⟩ := text_of_own hown (by have := (Tb.symsT_good l).1; omega)
      have HT := hide ht
      have HC := hide hc
      have HB := hide hbel
      injection hv with hv1 hv2 hv3
      subst hv1 hv3
      clear hlt hown hbel ht hc
      generalize hn : (Tb.symsT l).length = n at *
      generalize (Tb.symsS l).2 = lang at *
      go_wp2
      go_ret
      exact ⟨_, _, rfl, HC.out, HT.out, HB.out⟩
end Go.Proofs.Ytbcfndhnopmbbaa
