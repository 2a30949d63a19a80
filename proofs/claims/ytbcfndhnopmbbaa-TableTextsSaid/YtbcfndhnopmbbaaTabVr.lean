/-
  Tables: Written, Cells, Small, own, Right of the reference, by contract.
-/
import Derived.Test.YtbcfndhnopmbbaaTabU
import Derived.Test.YtbcfndhnopmbbaaTabW0
namespace Go.Proofs.Ytbcfndhnopmbbaa
open Go.RowKit
set_option linter.unusedVariables false
set_option linter.unusedSimpArgs false
set_option maxHeartbeats 400000 in
theorem refWritten_any (c : UInt8) (w : World) : Calls Try.prog 48 #[VC c] w fun e w' => e = .returned (.bool (Tb.written c)) ∧ w = w' := by
  unfold VC
  have HS := hide (show Tb.written c = decide (32 ≤ c.toNat ∧ c.toNat ≤ 126) from rfl)
  generalize Tb.written c = r at *
  generalize c.toNat = n at *
  by_cases h1 : (32 : Int) ≤ (n : Int)
  · by_cases h2 : (n : Int) ≤ 126
    · go_enter Try.func48, Try.ntmps48
      go_wp2
      go_ret
      exact ⟨by rw [HS.out, decide_eq_true (by omega)]; rfl, rfl⟩
    · go_enter Try.func48, Try.ntmps48
      go_wp2
      go_ret
      exact ⟨by rw [HS.out, decide_eq_false (by omega)]; rfl, rfl⟩
  · go_enter Try.func48, Try.ntmps48
    go_wp2
    go_ret
    exact ⟨by rw [HS.out, decide_eq_false (by omega)]; rfl, rfl⟩
theorem all_take {α : Type} (p : α → Bool) (l : List α) (i : Nat) (h : i < l.length) (h1 : (l.take i).all p = true) (h2 : p l[i] = true) : (l.take (i + 1)).all p = true := by
  rw [List.take_succ_eq_append_getElem h, List.all_append, h1]
  simp [h2]
theorem all_stop {α : Type} (p : α → Bool) (l : List α) (i : Nat) (h : i < l.length) (h2 : p l[i] = false) : l.all p = false := by
  cases h1 : l.all p with
  | false => rfl
  | true =>
    rw [List.all_eq_true] at h1
    have := h1 l[i] (List.getElem_mem h)
    rw [h2] at this
    cases this
set_option maxHeartbeats 2000000 in
set_option maxRecDepth 100000 in
theorem refCells_any (A : Option Addr) (c : Nat) (l : List UInt8) (lo hi : Nat) (w : World) (h : BsAt w w.heap.size ⟨l, A, c⟩) (hlo : lo ≤ 1000) (hhi : hi ≤ 1000) :
    Calls Try.prog 38 #[.slice A l.length c, .int .i64 (lo : Int), .int .i64 (hi : Int)] w fun e w' => e = .returned (.bool (l.all Tb.filled && decide (lo ≤ l.length ∧ l.length ≤ hi))) ∧ Below w.heap.size w w' := by
  have HR := hide h.1
  have hbig := h.2.2
  obtain ⟨n, hn⟩ : ∃ n, n = l.length := ⟨_, rfl⟩
  have HN := hide hn
  have hbig : n ≤ 1048576 := by rw [hn]; exact hbig
  rw [← hn]
  obtain ⟨res, hres⟩ : ∃ res, res = (l.all Tb.filled && decide (lo ≤ n ∧ n ≤ hi)) := ⟨_, rfl⟩
  have HRES := hide hres
  rw [← hres]
  have HW := hide (Below.refl w.heap.size w)
  clear hn h hres
  have hni : (n : Int) ≤ 1048576 := by omega
  go_enter Try.func38, Try.ntmps38
  go_wp2
  go_loopw [7] (fun s wr => ∃ i : Nat, i ≤ n ∧ s = .int .i64 (i : Int) ∧ wr = w ∧ Hid ((l.take i).all Tb.filled = true)) (fun s _ => n - (intOf s).toNat)
  case atStart => exact ⟨0, by omega, rfl, rfl, by rw [List.take_zero]; exact rfl⟩
  case round =>
    obtain ⟨i, hi', rfl, rfl, HA⟩ := hrel
    have hi0 : (0 : Int) ≤ (i : Int) := by omega
    by_cases hlt : i < n
    · have hil : i < l.length := by have := HN.out; omega
      obtain ⟨ad, hA, _⟩ := reads_item HR.out i (by omega)
      subst hA
      have hcell := reads_cell HR.out i hil
      have HST := hide (fun (h : Tb.filled (l[i]'hil) = false) => all_stop Tb.filled l i hil h)
      have HTK := hide (fun (h : Tb.filled (l[i]'hil) = true) => all_take Tb.filled l i hil HA.out h)
      have hin : (i : Int) < (n : Int) := by omega
      have HLT := hide hlt
      generalize l[i]'hil = c0 at hcell HST HTK
      have HF := hide (show Tb.filled c0 = decide (1 ≤ c0.toNat ∧ c0.toNat ≤ 63) from rfl)
      generalize c0.toNat = ch at hcell HF
      clear hlt
      by_cases h1 : ch < 1
      · have h1i : (ch : Int) < 1 := by omega
        have hfin := hide (show res = false by rw [HRES.out, HST.out (by rw [HF.out]; exact decide_eq_false (by omega))]; rfl)
        go_wp2
        go_ret
        exact ⟨by rw [hfin.out]; rfl, HW.out⟩
      · have h1i : ¬ ((ch : Int) < 1) := by omega
        by_cases h2 : 63 < ch
        · have h2i : (63 : Int) < (ch : Int) := by omega
          have hfin := hide (show res = false by rw [HRES.out, HST.out (by rw [HF.out]; exact decide_eq_false (by omega))]; rfl)
          go_wp2
          go_ret
          exact ⟨by rw [hfin.out]; rfl, HW.out⟩
        · have h2i : ¬ ((63 : Int) < (ch : Int)) := by omega
          have HA2 := hide (HTK.out (by rw [HF.out]; exact decide_eq_true (by omega)))
          go_wp2
          have h9 := HLT.out
          exact ⟨⟨i + 1, by omega, by go_num, by first | trivial | rfl, HA2.out⟩, by simp only [intOf]; omega⟩
    · obtain rfl : i = n := by omega
      have hnt : ¬ ((i : Int) < (i : Int)) := by omega
      have HL := hide (show l.all Tb.filled = true by
        have h := HA.out
        rwa [List.take_of_length_le (by have := HN.out; omega)] at h)
      clear hlt
      by_cases h1 : (lo : Int) ≤ (i : Int)
      · by_cases h2 : (i : Int) ≤ (hi : Int)
        · have hfin := hide (show res = true by rw [HRES.out, HL.out, decide_eq_true (by omega)]; rfl)
          go_wp2
          go_ret
          exact ⟨by rw [hfin.out]; rfl, HW.out⟩
        · have hfin := hide (show res = false by rw [HRES.out, HL.out, decide_eq_false (by omega)]; rfl)
          go_wp2
          go_ret
          exact ⟨by rw [hfin.out]; rfl, HW.out⟩
      · have hfin := hide (show res = false by rw [HRES.out, HL.out, decide_eq_false (by omega)]; rfl)
        go_wp2
        go_ret
        exact ⟨by rw [hfin.out]; rfl, HW.out⟩
set_option maxHeartbeats 2000000 in
set_option maxRecDepth 100000 in
theorem refSmall_any (s : List UInt8) (w : World) (hs : s.length ≤ 1048576) :
    Calls Try.prog 62 #[.string (S s)] w fun e w' => e = .returned (.bool (s.all Tb.small)) ∧ Below w.heap.size w w' := by
  have HSX := hide (fun (i : Nat) (hi : i < s.length) (W : World) => run_index_S s i hi W)
  obtain ⟨n, hn⟩ : ∃ n, n = s.length := ⟨_, rfl⟩
  have hsz : (S s).size = n := by rw [S_size, hn]
  have HN := hide hn
  rw [← hn] at hs
  have hni : (n : Int) ≤ 1048576 := by omega
  obtain ⟨res, hres⟩ : ∃ res, res = s.all Tb.small := ⟨_, rfl⟩
  have HRES := hide hres
  rw [← hres]
  have HW := hide (Below.refl w.heap.size w)
  clear hn hres
  generalize S s = sv at *
  go_enter Try.func62, Try.ntmps62
  go_wp2
  go_loopw [3] (fun q wr => ∃ i : Nat, i ≤ n ∧ q = .int .i64 (i : Int) ∧ wr = w ∧ Hid ((s.take i).all Tb.small = true)) (fun q _ => n - (intOf q).toNat)
  case atStart => exact ⟨0, by omega, rfl, rfl, by rw [List.take_zero]; exact rfl⟩
  case round =>
    obtain ⟨i, hi', rfl, rfl, HA⟩ := hrel
    have hi0 : (0 : Int) ≤ (i : Int) := by omega
    by_cases hlt : i < n
    · have hil : i < s.length := by have := HN.out; omega
      have hix := fun W => HSX.out i hil W
      have hin : (i : Int) < (n : Int) := by omega
      have hgd : s.getD i 0 = s[i]'hil := by simp [List.getD, hil]
      rw [hgd] at hix
      have HST := hide (fun (h : Tb.small (s[i]'hil) = false) => all_stop Tb.small s i hil h)
      have HTK := hide (fun (h : Tb.small (s[i]'hil) = true) => all_take Tb.small s i hil HA.out h)
      have HLT := hide hlt
      clear hgd
      generalize s[i]'hil = c0 at hix HST HTK
      have HF := hide (show Tb.small c0 = decide (97 ≤ c0.toNat ∧ c0.toNat ≤ 122) from rfl)
      generalize c0.toNat = ch at hix HF
      clear hlt HSX
      by_cases h1 : ch < 97
      · have h1i : (ch : Int) < 97 := by omega
        have hfin := hide (show res = false by rw [HRES.out, HST.out (by rw [HF.out]; exact decide_eq_false (by omega))])
        go_wp2
        go_ret
        exact ⟨by rw [hfin.out]; rfl, HW.out⟩
      · have h1i : ¬ ((ch : Int) < 97) := by omega
        by_cases h2 : 122 < ch
        · have h2i : (122 : Int) < (ch : Int) := by omega
          have hfin := hide (show res = false by rw [HRES.out, HST.out (by rw [HF.out]; exact decide_eq_false (by omega))])
          go_wp2
          go_ret
          exact ⟨by rw [hfin.out]; rfl, HW.out⟩
        · have h2i : ¬ ((122 : Int) < (ch : Int)) := by omega
          have HA2 := hide (HTK.out (by rw [HF.out]; exact decide_eq_true (by omega)))
          go_wp2
          have h9 := HLT.out
          exact ⟨⟨i + 1, by omega, by go_num, by first | trivial | rfl, HA2.out⟩, by simp only [intOf]; omega⟩
    · obtain rfl : i = n := by omega
      have hnt : ¬ ((i : Int) < (i : Int)) := by omega
      have hfin := hide (show res = true by
        have h := HA.out
        rw [List.take_of_length_le (by have := HN.out; omega)] at h
        rw [HRES.out, h])
      clear hlt HSX
      go_wp2
      go_ret
      exact ⟨by rw [hfin.out]; rfl, HW.out⟩
set_option maxHeartbeats 4000000 in
set_option maxRecDepth 100000 in
theorem refOwn_any (A : Option Addr) (c : Nat) (rs : List Tb.Rl) (ch : UInt8) (w : World) (hr : RulesAt w w.heap.size A rs) :
    Calls Try.prog 39 #[.slice A rs.length c, VC ch] w fun e w' => e = .returned (.bool (Tb.ownsC rs ch)) ∧ Below w.heap.size w w' := by
  have HR := hide hr
  have hbig := hr.2.2
  obtain ⟨n, hn⟩ : ∃ n, n = rs.length := ⟨_, rfl⟩
  have HN := hide hn
  rw [← hn] at hbig ⊢
  have hni : (n : Int) ≤ 1048576 := by omega
  obtain ⟨res, hres⟩ : ∃ res, res = Tb.ownsC rs ch := ⟨_, rfl⟩
  have HRES := hide (show res = decide (([ch], (0 : Int)) ∈ rs.map Tb.key) from hres)
  rw [← hres]
  have HW := hide (Below.refl w.heap.size w)
  clear hn hr hres
  unfold VC
  go_enter Try.func39, Try.ntmps39
  go_wp2
  go_loopw [5] (fun q wr => ∃ i : Nat, i ≤ n ∧ q = .int .i64 (i : Int) ∧ wr = w ∧ Hid (([ch], (0 : Int)) ∉ (rs.take i).map Tb.key)) (fun q _ => n - (intOf q).toNat)
  case atStart => exact ⟨0, by omega, rfl, rfl, by rw [List.take_zero]; exact List.not_mem_nil⟩
  case round =>
    obtain ⟨i, hi', rfl, rfl, HA⟩ := hrel
    have hi0 : (0 : Int) ≤ (i : Int) := by omega
    by_cases hlt : i < n
    · have hil : i < rs.length := by have := HN.out; omega
      obtain ⟨ad, rfl, _, hc0, hc1⟩ := rule_fields HR.out i hil
      have hin : (i : Int) < (n : Int) := by omega
      have HLT := hide hlt
      have HNX := hide (fun (hk : Tb.key rs[i] ≠ ([ch], 0)) => (show ([ch], (0 : Int)) ∉ (rs.take (i + 1)).map Tb.key by
        rw [List.take_succ_eq_append_getElem hil, List.map_append, List.mem_append]
        rintro (h | h)
        · exact HA.out h
        · rw [List.map_singleton, List.mem_singleton] at h
          exact hk h.symm))
      have HYS := hide (fun (hk : Tb.key rs[i] = ([ch], 0)) => (show res = true by
        rw [HRES.out, ← hk]
        exact decide_eq_true (List.mem_map_of_mem (List.getElem_mem hil))))
      have HKY := hide (show Tb.key rs[i] = (rs[i].text, rs[i].wh) from rfl)
      have htl : rs[i].text.length ≤ 1048576 := (HR.out.2.1 rs[i] (List.getElem_mem hil)).2.1
      generalize Tb.key rs[i] = ky at *
      generalize rs[i].text = tx at *
      generalize rs[i].wh = wh at *
      clear hlt hil
      have go := fun (h : ky ≠ ([ch], 0)) => HNX.out h
      by_cases h1 : wh = 0
      · subst h1
        by_cases h2 : tx.length = 1
        · obtain ⟨d, rfl⟩ : ∃ d, tx = [d] := List.length_eq_one_iff.1 h2
          have hsz : (S [d]).size = 1 := rfl
          have hix : ∀ W, (Instr.index 9 (.string (S [d])) (.int .i64 0)).run Try.prog W = .ok (.int .u8 (d.toNat : Int)) W := fun W => run_index_S [d] 0 (by simp) W
          clear h2 go
          by_cases h3 : d = ch
          · have hy := hide (HYS.out (by rw [HKY.out, h3]))
            have hee : ((d.toNat : Int) == (ch.toNat : Int)) = true := by rw [h3]; simp
            clear HNX HYS HKY h3
            generalize S [d] = sv at *
            generalize d.toNat = dn at *
            generalize ch.toNat = cn at *
            go_wp2
            go_ret
            exact ⟨by rw [hy.out]; rfl, HW.out⟩
          · have hy := hide (HNX.out (by rw [HKY.out]; intro h; injection h with h _; injection h with h _; exact h3 h))
            have hee : ((d.toNat : Int) == (ch.toNat : Int)) = false := by
              rw [beq_eq_false_iff_ne]
              intro h
              exact h3 (UInt8.toNat_inj.1 (by omega))
            clear HNX HYS HKY h3
            generalize S [d] = sv at *
            generalize d.toNat = dn at *
            go_wp2
            have h9 := HLT.out
            exact ⟨⟨i + 1, by omega, by go_num, by first | trivial | rfl, hy.out⟩, by simp only [intOf]; omega⟩
        · have hy := hide (go (by rw [HKY.out]; intro h; injection h with h _; exact h2 (by rw [h]; rfl)))
          have hsz : (S tx).size = tx.length := S_size tx
          have hee : ((tx.length : Int) == 1) = false := by rw [beq_eq_false_iff_ne]; omega
          clear HNX HYS HKY h2 go
          generalize S tx = sv at *
          generalize tx.length = tn at *
          go_wp2
          have h9 := HLT.out
          exact ⟨⟨i + 1, by omega, by go_num, by first | trivial | rfl, hy.out⟩, by simp only [intOf]; omega⟩
      · have hy := hide (go (by rw [HKY.out]; intro h; injection h with _ h; exact h1 h))
        have hee : (wh == 0) = false := by rw [beq_eq_false_iff_ne]; exact h1
        clear HNX HYS HKY h1 go
        go_wp2
        have h9 := HLT.out
        exact ⟨⟨i + 1, by omega, by go_num, by first | trivial | rfl, hy.out⟩, by simp only [intOf]; omega⟩
    · obtain rfl : i = n := by omega
      have hnt : ¬ ((i : Int) < (i : Int)) := by omega
      have hfin := hide (show res = false by
        have h := HA.out
        rw [List.take_of_length_le (by have := HN.out; omega)] at h
        rw [HRES.out]
        exact decide_eq_false h)
      clear hlt
      go_wp2
      go_ret
      exact ⟨by rw [hfin.out]; rfl, HW.out⟩
end Go.Proofs.Ytbcfndhnopmbbaa
/-
  Tables: Right of the reference, by contract.
-/
namespace Go.Proofs.Ytbcfndhnopmbbaa
open Go.RowKit
set_option linter.unusedVariables false
set_option linter.unusedSimpArgs false
theorem refCells_lit (A : Option Addr) (c : Nat) (l : List UInt8) (lo hi : Nat) (x y : Int) (hx : x = (lo : Int)) (hy : y = (hi : Int)) (w W : World) (h : BsAt w w.heap.size ⟨l, A, c⟩) (hlo : lo ≤ 1000) (hhi : hi ≤ 1000) (hb : Below w.heap.size w W) :
    Calls Try.prog 38 #[.slice A l.length c, .int .i64 x, .int .i64 y] W fun e w' => e = .returned (.bool (l.all Tb.filled && decide (lo ≤ l.length ∧ l.length ≤ hi))) ∧ Below W.heap.size W w' := by
  subst hx
  subst hy
  exact refCells_any A c l lo hi W (h.same hb) hlo hhi
theorem writable_cells (l : List UInt8) : (l.all Tb.filled && decide (1 ≤ l.length ∧ l.length ≤ 4)) = Tb.writable l := by
  unfold Tb.writable
  rw [Bool.and_comm]
set_option maxHeartbeats 4000000 in
set_option maxRecDepth 100000 in
theorem refRight_any (r : Tb.Rl) (w : World) (hb : BsAt w w.heap.size r.cells) (ht : r.text.length ≤ 1048576) :
    Calls Try.prog 37 #[.agg #[.string (S r.text), .int .i64 r.wh, .slice r.cells.ad r.cells.l.length r.cells.c]] w fun e w' => e = .returned (.bool (Tb.right r)) ∧ Below w.heap.size w w' := by
  have CC := hide (fun (W : World) (hbw : Below w.heap.size w W) => (show Calls Try.prog 38 #[.slice r.cells.ad r.cells.l.length r.cells.c, .int .i64 1, .int .i64 4] W fun e w' => e = .returned (.bool (Tb.writable r.cells.l)) ∧ Below W.heap.size W w' by
    rw [← writable_cells]
    exact refCells_lit r.cells.ad r.cells.c r.cells.l 1 4 1 4 rfl rfl w W hb (by omega) (by omega) hbw))
  have CS := hide (fun (W : World) => refSmall_any r.text W ht)
  have CW := hide (fun (W : World) => refWritten_any (r.text.headD 0) W)
  have CI := hide (fun (W : World) => refIs_any (r.text.headD 0) W)
  have CD := hide (fun (W : World) => refDigit_any (r.text.headD 0) W)
  have HRES := hide (show Tb.right r = (Tb.writable r.cells.l && decide (1 ≤ r.text.length ∧ r.text.length ≤ 8) && (if r.text.all Tb.small then decide (0 ≤ r.wh ∧ r.wh ≤ 3) else decide (r.text.length = 1) && (Tb.written (r.text.headD 0) && !Tb.letter (r.text.headD 0) && !Tb.digit (r.text.headD 0)) && decide (r.wh = 0))) from rfl)
  have hsz : (S r.text).size = r.text.length := S_size r.text
  have HIX := hide (fun (h : 0 < r.text.length) (W : World) => (show (Instr.index 9 (.string (S r.text)) (.int .i64 0)).run Try.prog W = .ok (.int .u8 ((r.text.headD 0).toNat : Int)) W by
    have h1 := run_index_S r.text 0 h W
    have e : r.text.getD 0 0 = r.text.headD 0 := by cases r.text <;> rfl
    rw [e] at h1
    exact h1))
  have HBX := hide (below_alloc w (.cells #[.string (S r.text), .int .i64 r.wh, .slice r.cells.ad r.cells.l.length r.cells.c] 74))
  unfold VC at CW CI CD
  generalize Tb.right r = res at *
  generalize Tb.writable r.cells.l = wv at *
  generalize r.text.all Tb.small = sm at *
  generalize Tb.written (r.text.headD 0) = b1 at *
  generalize Tb.letter (r.text.headD 0) = b2 at *
  generalize Tb.digit (r.text.headD 0) = b3 at *
  generalize (r.text.headD 0).toNat = ch at *
  generalize S r.text = sv at *
  generalize r.text.length = tn at *
  generalize r.wh = wh at *
  generalize r.cells.l.length = cl at *
  generalize r.cells.ad = ca at *
  generalize r.cells.c = cc at *
  have htn : (tn : Int) ≤ 1048576 := by omega
  clear hb ht
  by_cases h1 : tn < 1
  · have h1i : (tn : Int) < 1 := by omega
    have hfin := hide (show res = false by rw [HRES.out, decide_eq_false (show ¬ (1 ≤ tn ∧ tn ≤ 8) by omega)]; simp)
    clear HRES
    go_enter Try.func37, Try.ntmps37
    go_wp2_with (first
      | (go_at_call 38; refine (CC.out _ HBX.out).mono ?_; rintro e w1 ⟨rfl, hb1⟩; have B1 := hide (HBX.out.trans (hb1.mono HBX.out.size)); have P1 := hide ((Blk.new w 74 #[.string sv, .int .i64 wh, .slice ca cl cc]).below hb1 (Blk.lt (Blk.new w _ _))); have p0 : w1.cell? ⟨w.heap.size, 0, none⟩ = some (.string sv) := P1.out.cell 0; have p1 : w1.cell? ⟨w.heap.size, 1, none⟩ = some (.int .i64 wh) := P1.out.cell 1; clear hb1)
      | (go_at_call 62; refine (unhide CS _).mono ?_; rintro e w2 ⟨rfl, hb2⟩; have B2 := hide (B1.out.trans (hb2.mono B1.out.size)); clear p0 p1; have P2 := hide (P1.out.below hb2 P1.out.lt); have p0 : w2.cell? ⟨w.heap.size, 0, none⟩ = some (.string sv) := P2.out.cell 0; have p1 : w2.cell? ⟨w.heap.size, 1, none⟩ = some (.int .i64 wh) := P2.out.cell 1; clear hb2)
      | (go_at_call 48; refine (unhide CW _).mono ?_; rintro e w3 ⟨rfl, rfl⟩)
      | (go_at_call 31; refine (unhide CI _).mono ?_; rintro e w3 ⟨rfl, rfl⟩)
      | (go_at_call 32; refine (unhide CD _).mono ?_; rintro e w3 ⟨rfl, rfl⟩))
    go_ret
    exact ⟨by rw [hfin.out]; rfl, HBX.out⟩
  · have h1i : ¬ ((tn : Int) < 1) := by omega
    by_cases h2 : 8 < tn
    · have h2i : (8 : Int) < (tn : Int) := by omega
      have hfin := hide (show res = false by rw [HRES.out, decide_eq_false (show ¬ (1 ≤ tn ∧ tn ≤ 8) by omega)]; simp)
      clear HRES
      go_enter Try.func37, Try.ntmps37
      go_wp2_with (first
        | (go_at_call 38; refine (CC.out _ HBX.out).mono ?_; rintro e w1 ⟨rfl, hb1⟩; have B1 := hide (HBX.out.trans (hb1.mono HBX.out.size)); have P1 := hide ((Blk.new w 74 #[.string sv, .int .i64 wh, .slice ca cl cc]).below hb1 (Blk.lt (Blk.new w _ _))); have p0 : w1.cell? ⟨w.heap.size, 0, none⟩ = some (.string sv) := P1.out.cell 0; have p1 : w1.cell? ⟨w.heap.size, 1, none⟩ = some (.int .i64 wh) := P1.out.cell 1; clear hb1)
        | (go_at_call 62; refine (unhide CS _).mono ?_; rintro e w2 ⟨rfl, hb2⟩; have B2 := hide (B1.out.trans (hb2.mono B1.out.size)); clear p0 p1; have P2 := hide (P1.out.below hb2 P1.out.lt); have p0 : w2.cell? ⟨w.heap.size, 0, none⟩ = some (.string sv) := P2.out.cell 0; have p1 : w2.cell? ⟨w.heap.size, 1, none⟩ = some (.int .i64 wh) := P2.out.cell 1; clear hb2)
        | (go_at_call 48; refine (unhide CW _).mono ?_; rintro e w3 ⟨rfl, rfl⟩)
        | (go_at_call 31; refine (unhide CI _).mono ?_; rintro e w3 ⟨rfl, rfl⟩)
        | (go_at_call 32; refine (unhide CD _).mono ?_; rintro e w3 ⟨rfl, rfl⟩))
      go_ret
      exact ⟨by rw [hfin.out]; rfl, HBX.out⟩
    · have h2i : ¬ ((8 : Int) < (tn : Int)) := by omega
      by_cases h3 : wh < 0
      · have h3i : wh < 0 := by omega
        have hfin := hide (show res = false by rw [HRES.out, decide_eq_false (show ¬ (0 ≤ wh ∧ wh ≤ 3) by omega), decide_eq_false (show ¬ (wh = 0) by omega)]; simp)
        clear HRES
        go_enter Try.func37, Try.ntmps37
        go_wp2_with (first
          | (go_at_call 38; refine (CC.out _ HBX.out).mono ?_; rintro e w1 ⟨rfl, hb1⟩; have B1 := hide (HBX.out.trans (hb1.mono HBX.out.size)); have P1 := hide ((Blk.new w 74 #[.string sv, .int .i64 wh, .slice ca cl cc]).below hb1 (Blk.lt (Blk.new w _ _))); have p0 : w1.cell? ⟨w.heap.size, 0, none⟩ = some (.string sv) := P1.out.cell 0; have p1 : w1.cell? ⟨w.heap.size, 1, none⟩ = some (.int .i64 wh) := P1.out.cell 1; clear hb1)
          | (go_at_call 62; refine (unhide CS _).mono ?_; rintro e w2 ⟨rfl, hb2⟩; have B2 := hide (B1.out.trans (hb2.mono B1.out.size)); clear p0 p1; have P2 := hide (P1.out.below hb2 P1.out.lt); have p0 : w2.cell? ⟨w.heap.size, 0, none⟩ = some (.string sv) := P2.out.cell 0; have p1 : w2.cell? ⟨w.heap.size, 1, none⟩ = some (.int .i64 wh) := P2.out.cell 1; clear hb2)
          | (go_at_call 48; refine (unhide CW _).mono ?_; rintro e w3 ⟨rfl, rfl⟩)
          | (go_at_call 31; refine (unhide CI _).mono ?_; rintro e w3 ⟨rfl, rfl⟩)
          | (go_at_call 32; refine (unhide CD _).mono ?_; rintro e w3 ⟨rfl, rfl⟩))
        go_ret
        exact ⟨by rw [hfin.out]; rfl, HBX.out⟩
      · have h3i : ¬ (wh < 0) := by omega
        by_cases h4 : 3 < wh
        · have h4i : 3 < wh := by omega
          have hfin := hide (show res = false by rw [HRES.out, decide_eq_false (show ¬ (0 ≤ wh ∧ wh ≤ 3) by omega), decide_eq_false (show ¬ (wh = 0) by omega)]; simp)
          clear HRES
          go_enter Try.func37, Try.ntmps37
          go_wp2_with (first
            | (go_at_call 38; refine (CC.out _ HBX.out).mono ?_; rintro e w1 ⟨rfl, hb1⟩; have B1 := hide (HBX.out.trans (hb1.mono HBX.out.size)); have P1 := hide ((Blk.new w 74 #[.string sv, .int .i64 wh, .slice ca cl cc]).below hb1 (Blk.lt (Blk.new w _ _))); have p0 : w1.cell? ⟨w.heap.size, 0, none⟩ = some (.string sv) := P1.out.cell 0; have p1 : w1.cell? ⟨w.heap.size, 1, none⟩ = some (.int .i64 wh) := P1.out.cell 1; clear hb1)
            | (go_at_call 62; refine (unhide CS _).mono ?_; rintro e w2 ⟨rfl, hb2⟩; have B2 := hide (B1.out.trans (hb2.mono B1.out.size)); clear p0 p1; have P2 := hide (P1.out.below hb2 P1.out.lt); have p0 : w2.cell? ⟨w.heap.size, 0, none⟩ = some (.string sv) := P2.out.cell 0; have p1 : w2.cell? ⟨w.heap.size, 1, none⟩ = some (.int .i64 wh) := P2.out.cell 1; clear hb2)
            | (go_at_call 48; refine (unhide CW _).mono ?_; rintro e w3 ⟨rfl, rfl⟩)
            | (go_at_call 31; refine (unhide CI _).mono ?_; rintro e w3 ⟨rfl, rfl⟩)
            | (go_at_call 32; refine (unhide CD _).mono ?_; rintro e w3 ⟨rfl, rfl⟩))
          go_ret
          exact ⟨by rw [hfin.out]; rfl, HBX.out⟩
        · have h4i : ¬ (3 < wh) := by omega
          cases wv with
          | false =>
            have hfin := hide (show res = false by rw [HRES.out]; simp)
            clear HRES
            go_enter Try.func37, Try.ntmps37
            go_wp2_with (first
              | (go_at_call 38; refine (CC.out _ HBX.out).mono ?_; rintro e w1 ⟨rfl, hb1⟩; have B1 := hide (HBX.out.trans (hb1.mono HBX.out.size)); have P1 := hide ((Blk.new w 74 #[.string sv, .int .i64 wh, .slice ca cl cc]).below hb1 (Blk.lt (Blk.new w _ _))); have p0 : w1.cell? ⟨w.heap.size, 0, none⟩ = some (.string sv) := P1.out.cell 0; have p1 : w1.cell? ⟨w.heap.size, 1, none⟩ = some (.int .i64 wh) := P1.out.cell 1; clear hb1)
              | (go_at_call 62; refine (unhide CS _).mono ?_; rintro e w2 ⟨rfl, hb2⟩; have B2 := hide (B1.out.trans (hb2.mono B1.out.size)); clear p0 p1; have P2 := hide (P1.out.below hb2 P1.out.lt); have p0 : w2.cell? ⟨w.heap.size, 0, none⟩ = some (.string sv) := P2.out.cell 0; have p1 : w2.cell? ⟨w.heap.size, 1, none⟩ = some (.int .i64 wh) := P2.out.cell 1; clear hb2)
              | (go_at_call 48; refine (unhide CW _).mono ?_; rintro e w3 ⟨rfl, rfl⟩)
              | (go_at_call 31; refine (unhide CI _).mono ?_; rintro e w3 ⟨rfl, rfl⟩)
              | (go_at_call 32; refine (unhide CD _).mono ?_; rintro e w3 ⟨rfl, rfl⟩))
            go_ret
            exact ⟨by rw [hfin.out]; rfl, B1.out⟩
          | true =>
            cases sm with
            | true =>
              have hfin := hide (show res = true by rw [HRES.out, decide_eq_true (show 1 ≤ tn ∧ tn ≤ 8 by omega), decide_eq_true (show 0 ≤ wh ∧ wh ≤ 3 by omega)]; rfl)
              clear HRES
              go_enter Try.func37, Try.ntmps37
              go_wp2_with (first
                | (go_at_call 38; refine (CC.out _ HBX.out).mono ?_; rintro e w1 ⟨rfl, hb1⟩; have B1 := hide (HBX.out.trans (hb1.mono HBX.out.size)); have P1 := hide ((Blk.new w 74 #[.string sv, .int .i64 wh, .slice ca cl cc]).below hb1 (Blk.lt (Blk.new w _ _))); have p0 : w1.cell? ⟨w.heap.size, 0, none⟩ = some (.string sv) := P1.out.cell 0; have p1 : w1.cell? ⟨w.heap.size, 1, none⟩ = some (.int .i64 wh) := P1.out.cell 1; clear hb1)
                | (go_at_call 62; refine (unhide CS _).mono ?_; rintro e w2 ⟨rfl, hb2⟩; have B2 := hide (B1.out.trans (hb2.mono B1.out.size)); clear p0 p1; have P2 := hide (P1.out.below hb2 P1.out.lt); have p0 : w2.cell? ⟨w.heap.size, 0, none⟩ = some (.string sv) := P2.out.cell 0; have p1 : w2.cell? ⟨w.heap.size, 1, none⟩ = some (.int .i64 wh) := P2.out.cell 1; clear hb2)
                | (go_at_call 48; refine (unhide CW _).mono ?_; rintro e w3 ⟨rfl, rfl⟩)
                | (go_at_call 31; refine (unhide CI _).mono ?_; rintro e w3 ⟨rfl, rfl⟩)
                | (go_at_call 32; refine (unhide CD _).mono ?_; rintro e w3 ⟨rfl, rfl⟩))
              go_ret
              exact ⟨by rw [hfin.out]; rfl, B2.out⟩
            | false =>
              have hix := HIX.out (by omega)
              by_cases h5 : tn = 1
              · have h5e : ((tn : Int) == 1) = true := by rw [h5]; rfl
                have HR2 := hide (show res = (b1 && !b2 && !b3 && decide (wh = 0)) by rw [HRES.out, decide_eq_true (show 1 ≤ tn ∧ tn ≤ 8 by omega), decide_eq_true h5]; simp)
                clear HRES h5
                cases b1 with
                | false =>
                  have hfin := hide (show res = false by rw [HR2.out]; simp)
                  clear HR2
                  go_enter Try.func37, Try.ntmps37
                  go_wp2_with (first
                    | (go_at_call 38; refine (CC.out _ HBX.out).mono ?_; rintro e w1 ⟨rfl, hb1⟩; have B1 := hide (HBX.out.trans (hb1.mono HBX.out.size)); have P1 := hide ((Blk.new w 74 #[.string sv, .int .i64 wh, .slice ca cl cc]).below hb1 (Blk.lt (Blk.new w _ _))); have p0 : w1.cell? ⟨w.heap.size, 0, none⟩ = some (.string sv) := P1.out.cell 0; have p1 : w1.cell? ⟨w.heap.size, 1, none⟩ = some (.int .i64 wh) := P1.out.cell 1; clear hb1)
                    | (go_at_call 62; refine (unhide CS _).mono ?_; rintro e w2 ⟨rfl, hb2⟩; have B2 := hide (B1.out.trans (hb2.mono B1.out.size)); clear p0 p1; have P2 := hide (P1.out.below hb2 P1.out.lt); have p0 : w2.cell? ⟨w.heap.size, 0, none⟩ = some (.string sv) := P2.out.cell 0; have p1 : w2.cell? ⟨w.heap.size, 1, none⟩ = some (.int .i64 wh) := P2.out.cell 1; clear hb2)
                    | (go_at_call 48; refine (unhide CW _).mono ?_; rintro e w3 ⟨rfl, rfl⟩)
                    | (go_at_call 31; refine (unhide CI _).mono ?_; rintro e w3 ⟨rfl, rfl⟩)
                    | (go_at_call 32; refine (unhide CD _).mono ?_; rintro e w3 ⟨rfl, rfl⟩))
                  go_ret
                  exact ⟨by rw [hfin.out]; rfl, B2.out⟩
                | true =>
                  cases b2 with
                  | true =>
                    have hfin := hide (show res = false by rw [HR2.out]; simp)
                    clear HR2
                    go_enter Try.func37, Try.ntmps37
                    go_wp2_with (first
                      | (go_at_call 38; refine (CC.out _ HBX.out).mono ?_; rintro e w1 ⟨rfl, hb1⟩; have B1 := hide (HBX.out.trans (hb1.mono HBX.out.size)); have P1 := hide ((Blk.new w 74 #[.string sv, .int .i64 wh, .slice ca cl cc]).below hb1 (Blk.lt (Blk.new w _ _))); have p0 : w1.cell? ⟨w.heap.size, 0, none⟩ = some (.string sv) := P1.out.cell 0; have p1 : w1.cell? ⟨w.heap.size, 1, none⟩ = some (.int .i64 wh) := P1.out.cell 1; clear hb1)
                      | (go_at_call 62; refine (unhide CS _).mono ?_; rintro e w2 ⟨rfl, hb2⟩; have B2 := hide (B1.out.trans (hb2.mono B1.out.size)); clear p0 p1; have P2 := hide (P1.out.below hb2 P1.out.lt); have p0 : w2.cell? ⟨w.heap.size, 0, none⟩ = some (.string sv) := P2.out.cell 0; have p1 : w2.cell? ⟨w.heap.size, 1, none⟩ = some (.int .i64 wh) := P2.out.cell 1; clear hb2)
                      | (go_at_call 48; refine (unhide CW _).mono ?_; rintro e w3 ⟨rfl, rfl⟩)
                      | (go_at_call 31; refine (unhide CI _).mono ?_; rintro e w3 ⟨rfl, rfl⟩)
                      | (go_at_call 32; refine (unhide CD _).mono ?_; rintro e w3 ⟨rfl, rfl⟩))
                    go_ret
                    exact ⟨by rw [hfin.out]; rfl, B2.out⟩
                  | false =>
                    cases b3 with
                    | true =>
                      have hfin := hide (show res = false by rw [HR2.out]; simp)
                      clear HR2
                      go_enter Try.func37, Try.ntmps37
                      go_wp2_with (first
                        | (go_at_call 38; refine (CC.out _ HBX.out).mono ?_; rintro e w1 ⟨rfl, hb1⟩; have B1 := hide (HBX.out.trans (hb1.mono HBX.out.size)); have P1 := hide ((Blk.new w 74 #[.string sv, .int .i64 wh, .slice ca cl cc]).below hb1 (Blk.lt (Blk.new w _ _))); have p0 : w1.cell? ⟨w.heap.size, 0, none⟩ = some (.string sv) := P1.out.cell 0; have p1 : w1.cell? ⟨w.heap.size, 1, none⟩ = some (.int .i64 wh) := P1.out.cell 1; clear hb1)
                        | (go_at_call 62; refine (unhide CS _).mono ?_; rintro e w2 ⟨rfl, hb2⟩; have B2 := hide (B1.out.trans (hb2.mono B1.out.size)); clear p0 p1; have P2 := hide (P1.out.below hb2 P1.out.lt); have p0 : w2.cell? ⟨w.heap.size, 0, none⟩ = some (.string sv) := P2.out.cell 0; have p1 : w2.cell? ⟨w.heap.size, 1, none⟩ = some (.int .i64 wh) := P2.out.cell 1; clear hb2)
                        | (go_at_call 48; refine (unhide CW _).mono ?_; rintro e w3 ⟨rfl, rfl⟩)
                        | (go_at_call 31; refine (unhide CI _).mono ?_; rintro e w3 ⟨rfl, rfl⟩)
                        | (go_at_call 32; refine (unhide CD _).mono ?_; rintro e w3 ⟨rfl, rfl⟩))
                      go_ret
                      exact ⟨by rw [hfin.out]; rfl, B2.out⟩
                    | false =>
                      by_cases h6 : wh = 0
                      · have h6e : (wh == 0) = true := by rw [h6]; rfl
                        have hfin := hide (show res = true by rw [HR2.out]; simp [h6])
                        clear HR2 h6
                        go_enter Try.func37, Try.ntmps37
                        go_wp2_with (first
                          | (go_at_call 38; refine (CC.out _ HBX.out).mono ?_; rintro e w1 ⟨rfl, hb1⟩; have B1 := hide (HBX.out.trans (hb1.mono HBX.out.size)); have P1 := hide ((Blk.new w 74 #[.string sv, .int .i64 wh, .slice ca cl cc]).below hb1 (Blk.lt (Blk.new w _ _))); have p0 : w1.cell? ⟨w.heap.size, 0, none⟩ = some (.string sv) := P1.out.cell 0; have p1 : w1.cell? ⟨w.heap.size, 1, none⟩ = some (.int .i64 wh) := P1.out.cell 1; clear hb1)
                          | (go_at_call 62; refine (unhide CS _).mono ?_; rintro e w2 ⟨rfl, hb2⟩; have B2 := hide (B1.out.trans (hb2.mono B1.out.size)); clear p0 p1; have P2 := hide (P1.out.below hb2 P1.out.lt); have p0 : w2.cell? ⟨w.heap.size, 0, none⟩ = some (.string sv) := P2.out.cell 0; have p1 : w2.cell? ⟨w.heap.size, 1, none⟩ = some (.int .i64 wh) := P2.out.cell 1; clear hb2)
                          | (go_at_call 48; refine (unhide CW _).mono ?_; rintro e w3 ⟨rfl, rfl⟩)
                          | (go_at_call 31; refine (unhide CI _).mono ?_; rintro e w3 ⟨rfl, rfl⟩)
                          | (go_at_call 32; refine (unhide CD _).mono ?_; rintro e w3 ⟨rfl, rfl⟩))
                        go_ret
                        exact ⟨by rw [hfin.out]; rfl, B2.out⟩
                      · have h6e : (wh == 0) = false := by rw [beq_eq_false_iff_ne]; exact h6
                        have hfin := hide (show res = false by rw [HR2.out]; simp [h6])
                        clear HR2 h6
                        go_enter Try.func37, Try.ntmps37
                        go_wp2_with (first
                          | (go_at_call 38; refine (CC.out _ HBX.out).mono ?_; rintro e w1 ⟨rfl, hb1⟩; have B1 := hide (HBX.out.trans (hb1.mono HBX.out.size)); have P1 := hide ((Blk.new w 74 #[.string sv, .int .i64 wh, .slice ca cl cc]).below hb1 (Blk.lt (Blk.new w _ _))); have p0 : w1.cell? ⟨w.heap.size, 0, none⟩ = some (.string sv) := P1.out.cell 0; have p1 : w1.cell? ⟨w.heap.size, 1, none⟩ = some (.int .i64 wh) := P1.out.cell 1; clear hb1)
                          | (go_at_call 62; refine (unhide CS _).mono ?_; rintro e w2 ⟨rfl, hb2⟩; have B2 := hide (B1.out.trans (hb2.mono B1.out.size)); clear p0 p1; have P2 := hide (P1.out.below hb2 P1.out.lt); have p0 : w2.cell? ⟨w.heap.size, 0, none⟩ = some (.string sv) := P2.out.cell 0; have p1 : w2.cell? ⟨w.heap.size, 1, none⟩ = some (.int .i64 wh) := P2.out.cell 1; clear hb2)
                          | (go_at_call 48; refine (unhide CW _).mono ?_; rintro e w3 ⟨rfl, rfl⟩)
                          | (go_at_call 31; refine (unhide CI _).mono ?_; rintro e w3 ⟨rfl, rfl⟩)
                          | (go_at_call 32; refine (unhide CD _).mono ?_; rintro e w3 ⟨rfl, rfl⟩))
                        go_ret
                        exact ⟨by rw [hfin.out]; rfl, B2.out⟩
              · have h5e : ((tn : Int) == 1) = false := by rw [beq_eq_false_iff_ne]; omega
                have hfin := hide (show res = false by rw [HRES.out, decide_eq_false h5]; simp)
                clear HRES
                go_enter Try.func37, Try.ntmps37
                go_wp2_with (first
                  | (go_at_call 38; refine (CC.out _ HBX.out).mono ?_; rintro e w1 ⟨rfl, hb1⟩; have B1 := hide (HBX.out.trans (hb1.mono HBX.out.size)); have P1 := hide ((Blk.new w 74 #[.string sv, .int .i64 wh, .slice ca cl cc]).below hb1 (Blk.lt (Blk.new w _ _))); have p0 : w1.cell? ⟨w.heap.size, 0, none⟩ = some (.string sv) := P1.out.cell 0; have p1 : w1.cell? ⟨w.heap.size, 1, none⟩ = some (.int .i64 wh) := P1.out.cell 1; clear hb1)
                  | (go_at_call 62; refine (unhide CS _).mono ?_; rintro e w2 ⟨rfl, hb2⟩; have B2 := hide (B1.out.trans (hb2.mono B1.out.size)); clear p0 p1; have P2 := hide (P1.out.below hb2 P1.out.lt); have p0 : w2.cell? ⟨w.heap.size, 0, none⟩ = some (.string sv) := P2.out.cell 0; have p1 : w2.cell? ⟨w.heap.size, 1, none⟩ = some (.int .i64 wh) := P2.out.cell 1; clear hb2)
                  | (go_at_call 48; refine (unhide CW _).mono ?_; rintro e w3 ⟨rfl, rfl⟩)
                  | (go_at_call 31; refine (unhide CI _).mono ?_; rintro e w3 ⟨rfl, rfl⟩)
                  | (go_at_call 32; refine (unhide CD _).mono ?_; rintro e w3 ⟨rfl, rfl⟩))
                go_ret
                exact ⟨by rw [hfin.out]; rfl, B2.out⟩
end Go.Proofs.Ytbcfndhnopmbbaa
/-
  Tables, plainly: what valid is, by what is found wrong first.
-/
namespace Go.Proofs.Ytbcfndhnopmbbaa
open Go.RowKit
set_option linter.unusedVariables false
set_option linter.unusedSimpArgs false
namespace Tb
def rulesN (t : Tab) (j : Nat) : List Rl := if j = 0 then t.r0 else t.r1
theorem rulesN_two {t : Tab} {j : Nat} (hj : j < 2) : (j = 0 ∧ rulesN t j = t.r0) ∨ (j = 1 ∧ rulesN t j = t.r1) := by
  have : j = 0 ∨ j = 1 := by omega
  rcases this with h | h
  · exact .inl ⟨h, by rw [h]; rfl⟩
  · exact .inr ⟨h, by rw [h]; rfl⟩
theorem valid_limit (t : Tab) (j : Nat) (hj : j < 2) (h : 96 < (rulesN t j).length) : valid t = 4 := by
  unfold valid
  rcases rulesN_two (t := t) hj with ⟨_, e⟩ | ⟨_, e⟩
  · rw [e] at h; rw [if_pos (.inl h)]
  · rw [e] at h; rw [if_pos (.inr h)]
theorem valid_wrong (t : Tab) (h0 : t.r0.length ≤ 96) (h1 : t.r1.length ≤ 96) (h : proper t = false) : valid t = 1 := by
  unfold valid
  rw [if_neg (by omega), if_pos h]
theorem proper_rule (t : Tab) (j : Nat) (hj : j < 2) (h : (rulesN t j).all right = false) : proper t = false := by
  unfold proper
  rcases rulesN_two (t := t) hj with ⟨_, e⟩ | ⟨_, e⟩
  · rw [e] at h; rw [h]; simp
  · rw [e] at h; rw [h]; simp
theorem valid_twice (t : Tab) (h0 : t.r0.length ≤ 96) (h1 : t.r1.length ≤ 96) (hp : proper t = true) (j : Nat) (hj : j < 2) (h : lone (rulesN t j) = false) : valid t = 7 := by
  unfold valid
  rw [if_neg (by omega), if_neg (by rw [hp]; simp)]
  rcases rulesN_two (t := t) hj with ⟨_, e⟩ | ⟨_, e⟩
  · rw [e] at h; rw [if_pos (.inl h)]
  · rw [e] at h; rw [if_pos (.inr h)]
theorem valid_none (t : Tab) (h0 : t.r0.length ≤ 96) (h1 : t.r1.length ≤ 96) (hp : proper t = true) (l0 : lone t.r0 = true) (l1 : lone t.r1 = true) (j : Nat) (hj : j < 2) (h : owns (rulesN t j) = false) : valid t = 6 := by
  unfold valid
  rw [if_neg (by omega), if_neg (by rw [hp]; simp), if_neg (by rw [l0, l1]; simp)]
  rcases rulesN_two (t := t) hj with ⟨_, e⟩ | ⟨_, e⟩
  · rw [e] at h; rw [if_pos (.inl h)]
  · rw [e] at h; rw [if_pos (.inr h)]
theorem valid_fine (t : Tab) (h0 : t.r0.length ≤ 96) (h1 : t.r1.length ≤ 96) (hp : proper t = true) (l0 : lone t.r0 = true) (l1 : lone t.r1 = true) (o0 : owns t.r0 = true) (o1 : owns t.r1 = true) : valid t = 0 := by
  unfold valid
  rw [if_neg (by omega), if_neg (by rw [hp]; simp), if_neg (by rw [l0, l1]; simp), if_neg (by rw [o0, o1]; simp)]
theorem lone_dup (rs : List Rl) (i j : Nat) (hi : i < rs.length) (hji : j < i) (h : key (rs[i]'hi) = key (rs[j]'(by omega))) : lone rs = false := by
  unfold lone
  refine decide_eq_false fun hn => ?_
  have hp := List.nodup_iff_pairwise_ne.1 hn
  have h1 := List.pairwise_iff_getElem.1 hp j i (by rw [List.length_map]; omega) (by rw [List.length_map]; omega) hji
  rw [List.getElem_map, List.getElem_map] at h1
  exact h1 h.symm
theorem nodup_take (rs : List Rl) (i : Nat) (hi : i < rs.length) (h : ((rs.take i).map key).Nodup) (hn : key (rs[i]'hi) ∉ (rs.take i).map key) : ((rs.take (i + 1)).map key).Nodup := by
  rw [List.take_succ_eq_append_getElem hi, List.map_append, List.map_singleton]
  rw [List.nodup_append]
  refine ⟨h, by simp, fun a ha b hb => ?_⟩
  rw [List.mem_singleton] at hb
  subst hb
  exact fun e => hn (e ▸ ha)
theorem owns_stop (rs : List Rl) (i : Nat) (hi : i < 26) (h : ownsC rs (UInt8.ofNat (97 + i)) = false) : owns rs = false := by
  cases h1 : owns rs with
  | false => rfl
  | true =>
    unfold owns at h1
    rw [List.all_eq_true] at h1
    have := h1 i (List.mem_range.2 hi)
    rw [h] at this
    cases this
theorem owns_full (rs : List Rl) (h : ∀ i, i < 26 → ownsC rs (UInt8.ofNat (97 + i)) = true) : owns rs = true := by
  unfold owns
  rw [List.all_eq_true]
  exact fun i hi => h i (List.mem_range.1 hi)
end Tb
end Go.Proofs.Ytbcfndhnopmbbaa
/-
  Tables: Valid of the reference, by contract.
-/
namespace Go.Proofs.Ytbcfndhnopmbbaa
open Go.RowKit
set_option linter.unusedVariables false
set_option linter.unusedSimpArgs false
set_option maxHeartbeats 8000000 in
set_option maxRecDepth 100000 in
theorem refValid_any (v : Value) (t : Tb.Tab) (w : World) (h : TabAt w w.heap.size v t) :
    Calls Try.prog 11 #[v] w fun e w' => e = .returned (.int .i64 (Tb.valid t)) ∧ Below w.heap.size w w' := by
  obtain ⟨A0, A1, c0, c1, rfl, hr0, hr1, hc0, hc1, hd, hc, hn, hf, hs⟩ := h
  have HR0 := hide hr0
  have HR1 := hide hr1
  have VLIM := hide (Tb.valid_limit t)
  have VWR := hide (Tb.valid_wrong t)
  have VTW := hide (Tb.valid_twice t)
  have VNO := hide (Tb.valid_none t)
  have VFI := hide (Tb.valid_fine t)
  have VPR := hide (Tb.proper_rule t)
  have HPR := hide (show Tb.proper t = ((t.r0.all Tb.right && t.r1.all Tb.right) && (decide (t.dig.l.length = 10) && t.dig.l.all Tb.filled && Tb.writable t.cap.l && Tb.writable t.num.l && Tb.writable t.fin.l && Tb.writable t.sw.l)) by
    unfold Tb.proper
    simp only [Bool.and_assoc])
  have CD := hide (fun (W : World) (hb : Below w.heap.size w W) => (show Calls Try.prog 38 #[.slice t.dig.ad t.dig.l.length t.dig.c, .int .i64 10, .int .i64 10] W fun e w' => e = .returned (.bool (decide (t.dig.l.length = 10) && t.dig.l.all Tb.filled)) ∧ Below W.heap.size W w' by
    have h := refCells_lit t.dig.ad t.dig.c t.dig.l 10 10 10 10 rfl rfl w W hd (by omega) (by omega) hb
    rw [show decide (10 ≤ t.dig.l.length ∧ t.dig.l.length ≤ 10) = decide (t.dig.l.length = 10) by
      by_cases h : t.dig.l.length = 10
      · rw [decide_eq_true h, decide_eq_true (by omega)]
      · rw [decide_eq_false h, decide_eq_false (by omega)], Bool.and_comm] at h
    exact h))
  have CI := hide (fun (b : Tb.Bs) (hb : BsAt w w.heap.size b) (W : World) (hw : Below w.heap.size w W) => (show Calls Try.prog 38 #[.slice b.ad b.l.length b.c, .int .i64 1, .int .i64 4] W fun e w' => e = .returned (.bool (Tb.writable b.l)) ∧ Below W.heap.size W w' by
    rw [← writable_cells]
    exact refCells_lit b.ad b.c b.l 1 4 1 4 rfl rfl w W hb (by omega) (by omega) hw))
  have C1 := hide (CI.out t.cap hc)
  have C2 := hide (CI.out t.num hn)
  have C3 := hide (CI.out t.fin hf)
  have C4 := hide (CI.out t.sw hs)
  have CR := hide (fun (k : Nat) (hk : k < 2) (i : Nat) (hi : i < (Tb.rulesN t k).length) (W : World) (hw : Below w.heap.size w W) => refRight_any (Tb.rulesN t k)[i] W (by
      rcases Tb.rulesN_two (t := t) hk with ⟨_, e⟩ | ⟨_, e⟩
      · exact ((hr0.2.1 _ (by rw [← e]; exact List.getElem_mem hi)).1.below hw).more hw.size
      · exact ((hr1.2.1 _ (by rw [← e]; exact List.getElem_mem hi)).1.below hw).more hw.size) (by
      rcases Tb.rulesN_two (t := t) hk with ⟨_, e⟩ | ⟨_, e⟩
      · exact (hr0.2.1 _ (by rw [← e]; exact List.getElem_mem hi)).2.1
      · exact (hr1.2.1 _ (by rw [← e]; exact List.getElem_mem hi)).2.1))
  obtain ⟨cs, hcs⟩ : ∃ cs : Array Value, cs = #[.slice A0 t.r0.length c0, .slice A1 t.r1.length c1, .slice t.dig.ad t.dig.l.length t.dig.c, .slice t.cap.ad t.cap.l.length t.cap.c, .slice t.num.ad t.num.l.length t.num.c, .slice t.fin.ad t.fin.l.length t.fin.c, .slice t.sw.ad t.sw.l.length t.sw.c] := ⟨_, rfl⟩
  have HLK := hide (show ∀ k, k < 2 → ∃ A c, cs[k]? = some (.slice A (Tb.rulesN t k).length c) ∧ RulesAt w w.heap.size A (Tb.rulesN t k) from fun k hk => by
    rcases Tb.rulesN_two (t := t) hk with ⟨e0, e⟩ | ⟨e0, e⟩
    · subst e0; rw [e, hcs]; exact ⟨A0, c0, rfl, hr0⟩
    · subst e0; rw [e, hcs]; exact ⟨A1, c1, rfl, hr1⟩)
  obtain ⟨res, hres⟩ : ∃ res, res = Tb.valid t := ⟨_, rfl⟩
  rw [← hres] at VLIM VWR VTW VNO VFI ⊢
  clear hres CI
  generalize hwd : (decide (t.dig.l.length = 10) && t.dig.l.all Tb.filled) = bd at *
  rw [Bool.and_assoc, Bool.and_assoc, Bool.and_assoc] at HPR
  go_enter Try.func11, Try.ntmps11
  go_upto_region 1 with fail
  refine name_world fun B hB => ?_
  have BT := hide (show Blk B w.heap.size 28 cs by rw [← hB.out, hcs]; exact Blk.new w _ _)
  have HWB := hide (show Below w.heap.size w B by rw [← hB.out]; exact below_alloc w _)
  clear hB
  generalize w.heap.size = gb at BT ⊢
  have HBB := hide (Below.refl B.heap.size B)
  have HCK := hide (fun (k : Nat) (hk : k < 2) => (show ∃ A c, (∀ W, Below B.heap.size B W → W.cell? ⟨gb, k, none⟩ = some (.slice A (Tb.rulesN t k).length c)) ∧ RulesAt w w.heap.size A (Tb.rulesN t k) from by
    obtain ⟨A, c, h1, h2⟩ := HLK.out k hk
    exact ⟨A, c, fun W hb => by rw [(BT.out.below hb BT.out.lt).cell k]; exact h1, h2⟩))
  clear HLK
  go_wp2
  go_loopw [3] (fun s wr => ∃ k : Nat, k ≤ 2 ∧ s = .int .i64 (k : Int) ∧ wr = B ∧ Hid (∀ j, j < k → (Tb.rulesN t j).length ≤ 96)) (fun s _ => 2 - (intOf s).toNat)
  case atStart => exact ⟨0, by omega, rfl, rfl, fun j hj => by omega⟩
  case round =>
    obtain ⟨k, hk, rfl, rfl, HL⟩ := hrel
    obtain ⟨B, rfl⟩ : ∃ B, B = wr := ⟨wr, rfl⟩
    have hk0 : (0 : Int) ≤ (k : Int) := by omega
    by_cases hk2 : (k : Int) < 2
    · obtain ⟨Ak, ck, hcell, _⟩ := HCK.out k (by omega)
      have hcl := hcell B HBB.out
      have HLS := hide (fun (h : (Tb.rulesN t k).length ≤ 96) => (show ∀ j, j < k + 1 → (Tb.rulesN t j).length ≤ 96 from fun j hj => by
        by_cases hjk : j = k
        · subst hjk; exact h
        · exact HL.out j (by omega)))
      have HLF := hide (VLIM.out k (by omega))
      clear hcell
      generalize (Tb.rulesN t k).length = nk at *
      by_cases h96 : 96 < nk
      · have h96i : (96 : Int) < (nk : Int) := by omega
        have hfin := hide (HLF.out h96)
        clear HLF HLS HL h96
        go_wp2
        go_ret
        exact ⟨by rw [hfin.out]; rfl, HWB.out⟩
      · have h96i : ¬ ((96 : Int) < (nk : Int)) := by omega
        have HLN := hide (HLS.out (by omega))
        clear HLF HLS HL h96
        go_wp2
        exact ⟨⟨k + 1, by omega, by go_num, by first | trivial | rfl, HLN.out⟩, by simp only [intOf]; omega⟩
    · have L0 := hide (show t.r0.length ≤ 96 from HL.out 0 (by omega))
      have L1 := hide (show t.r1.length ≤ 96 from HL.out 1 (by omega))
      clear HL
      go_wp2
      go_loopw [4] (fun s wr => ∃ k : Nat, k ≤ 2 ∧ s = .int .i64 (k : Int) ∧ Below B.heap.size B wr ∧ Hid (∀ j, j < k → (Tb.rulesN t j).all Tb.right = true)) (fun s _ => 2 - (intOf s).toNat)
      case atStart => exact ⟨0, by omega, rfl, HBB.out, fun j hj => by omega⟩
      case round =>
        clear hk hk0 hk2
        obtain ⟨k, hk, rfl, hbel, HL⟩ := hrel
        obtain ⟨wd, rfl⟩ : ∃ wd, wd = wr := ⟨wr, rfl⟩
        have HBD := hide hbel
        clear hbel
        have hk0 : (0 : Int) ≤ (k : Int) := by omega
        by_cases hk2 : (k : Int) < 2
        · obtain ⟨Ak, ck, hcell, hrk⟩ := HCK.out k (by omega)
          have HCELL := hide hcell
          have HRK := hide hrk
          have CRK := hide (CR.out k (by omega))
          have HWR := hide (fun (h : (Tb.rulesN t k).all Tb.right = false) => VWR.out L0.out L1.out (VPR.out k (by omega) h))
          have HLS := hide (fun (h : (Tb.rulesN t k).all Tb.right = true) => (show ∀ j, j < k + 1 → (Tb.rulesN t j).all Tb.right = true from fun j hj => by
            by_cases hjk : j = k
            · subst hjk; exact h
            · exact HL.out j (by omega)))
          clear hcell hrk HL
          generalize Tb.rulesN t k = rs at *
          obtain ⟨n, hn⟩ : ∃ n, n = rs.length := ⟨_, rfl⟩
          have HN := hide hn
          have hnb := HRK.out.2.2
          have hni : (n : Int) ≤ 1048576 := by omega
          clear hnb
          simp only [← hn] at HCELL
          clear hn
          go_wp2
          go_loopw [5] (fun s wr => ∃ i : Nat, i ≤ n ∧ s = .int .i64 (i : Int) ∧ Below B.heap.size B wr ∧ Hid ((rs.take i).all Tb.right = true)) (fun s _ => n - (intOf s).toNat)
          case atStart => exact ⟨0, by omega, rfl, HBD.out, by rw [List.take_zero]; exact rfl⟩
          case round =>
            obtain ⟨i, hi, rfl, hbel, HA⟩ := hrel
            obtain ⟨we, rfl⟩ : ∃ we, we = wr := ⟨wr, rfl⟩
            have HBE := hide hbel
            have hcl := HCELL.out we hbel
            clear hbel
            have hi0 : (0 : Int) ≤ (i : Int) := by omega
            by_cases hlt : i < n
            · have hil : i < rs.length := by have := HN.out; omega
              have hin : (i : Int) < (n : Int) := by omega
              obtain ⟨ad, hA, hadb, hcs⟩ := reads_rule HRK.out i hil
              subst hA
              have HWE := hide (HWB.out.trans (HBE.out.mono HWB.out.size))
              have HEC := hide (show ∀ (j : Nat) (v : Value), ([.string (S (rs[i]'hil).text), .int .i64 (rs[i]'hil).wh, .slice (rs[i]'hil).cells.ad (rs[i]'hil).cells.l.length (rs[i]'hil).cells.c] : List Value)[j]? = some v → we.cell? ((ad.add (i * 3)).add j) = some v from fun j v hv => by
                rw [HWE.out.cell (by rw [block_of_add, block_of_add]; exact hadb)]
                exact hcs j v hv)
              have CRI := hide (CRK.out i hil we HWE.out)
              have HST := hide (fun (h : Tb.right (rs[i]'hil) = false) => HWR.out (all_stop Tb.right rs i hil h))
              have HTK := hide (fun (h : Tb.right (rs[i]'hil) = true) => all_take Tb.right rs i hil HA.out h)
              have HLT := hide hlt
              generalize rs[i]'hil = r at *
              clear hcs hil hlt HA CRK HWR
              obtain ⟨br, hbr⟩ : ∃ br, br = Tb.right r := ⟨_, rfl⟩
              rw [← hbr] at CRI HST HTK
              clear hbr
              cases br with
              | false =>
                have hfin := hide (HST.out rfl)
                clear HST HTK
                go_wp2_with (first
                  | (with_reducible refine wpList_load_rule rfl (.tmp 43) rfl (ad.add (i * 3)) rfl (.string (S r.text)) (.int .i64 r.wh) (.slice r.cells.ad r.cells.l.length r.cells.c) HEC.out ?_)
                  | (go_at_call 37; refine (unhide CRI).mono ?_; rintro e w5 ⟨rfl, hb5⟩; have B5 := hide (HWE.out.trans (hb5.mono HWE.out.size)); clear hb5))
                go_ret
                exact ⟨by rw [hfin.out]; rfl, B5.out⟩
              | true =>
                have HA2 := hide (HTK.out rfl)
                clear HST HTK
                go_wp2_with (first
                  | (with_reducible refine wpList_load_rule rfl (.tmp 43) rfl (ad.add (i * 3)) rfl (.string (S r.text)) (.int .i64 r.wh) (.slice r.cells.ad r.cells.l.length r.cells.c) HEC.out ?_)
                  | (go_at_call 37; refine (unhide CRI).mono ?_; rintro e w5 ⟨rfl, hb5⟩; have B5 := hide (HBE.out.trans (hb5.mono HBE.out.size)); clear hb5))
                have h9 := HLT.out
                exact ⟨⟨i + 1, by omega, by go_num, B5.out, HA2.out⟩, by simp only [intOf]; omega⟩
            · have hfull := hide (HLS.out (by
                have h := HA.out
                rwa [List.take_of_length_le (by have := HN.out; omega)] at h))
              obtain rfl : i = n := by omega
              have hnt : ¬ ((i : Int) < (i : Int)) := by omega
              clear hlt HA HLS HWR
              go_wp2
              exact ⟨⟨k + 1, by omega, by go_num, HBE.out, hfull.out⟩, by simp only [intOf]; omega⟩
        · have R0 := hide (show t.r0.all Tb.right = true from HL.out 0 (by omega))
          have R1 := hide (show t.r1.all Tb.right = true from HL.out 1 (by omega))
          clear HL CR VPR
          have HWD := hide (HWB.out.trans (HBD.out.mono HWB.out.size))
          have CDW := hide (CD.out wd HWD.out)
          have HQ := hide (fun (W : World) (hb : Below B.heap.size B W) => (show W.cell? ⟨gb, 2, none⟩ = some (.slice t.dig.ad t.dig.l.length t.dig.c) ∧ W.cell? ⟨gb, 3, none⟩ = some (.slice t.cap.ad t.cap.l.length t.cap.c) ∧ W.cell? ⟨gb, 4, none⟩ = some (.slice t.num.ad t.num.l.length t.num.c) ∧ W.cell? ⟨gb, 5, none⟩ = some (.slice t.fin.ad t.fin.l.length t.fin.c) ∧ W.cell? ⟨gb, 6, none⟩ = some (.slice t.sw.ad t.sw.l.length t.sw.c) ∧ W.cell? ⟨gb, 6, none⟩ = some (.slice t.sw.ad t.sw.l.length t.sw.c) from by
            have Q := BT.out.below hb BT.out.lt
            rw [hcs] at Q
            exact ⟨Q.cell 2, Q.cell 3, Q.cell 4, Q.cell 5, Q.cell 6, Q.cell 6⟩))
          clear CD
          obtain ⟨w1, hw1⟩ : ∃ w1, w1 = Tb.writable t.cap.l := ⟨_, rfl⟩
          obtain ⟨w2, hw2⟩ : ∃ w2, w2 = Tb.writable t.num.l := ⟨_, rfl⟩
          obtain ⟨w3, hw3⟩ : ∃ w3, w3 = Tb.writable t.fin.l := ⟨_, rfl⟩
          obtain ⟨w4, hw4⟩ : ∃ w4, w4 = Tb.writable t.sw.l := ⟨_, rfl⟩
          have HP2 := hide (show Tb.proper t = (bd && (w1 && (w2 && (w3 && w4)))) by
            have h := HPR.out
            rw [R0.out, R1.out, ← hw1, ← hw2, ← hw3, ← hw4] at h
            simpa [Bool.and_assoc] using h)
          rw [← hw1] at C1
          rw [← hw2] at C2
          rw [← hw3] at C3
          rw [← hw4] at C4
          clear hw1 hw2 hw3 hw4 HPR
          obtain ⟨p2, p3, p4, p5, p6, _⟩ := HQ.out wd HBD.out
          cases bd with
          | false =>
            have hfin := hide (VWR.out L0.out L1.out (by rw [HP2.out]; simp))
            clear VWR VTW VNO VFI
            go_wp2_with (first
              | (go_at_call 38; first
                | ((with_reducible refine (unhide CDW).mono ?_); rintro e v1 ⟨rfl, hb⟩; have E1 := hide (HBD.out.trans (hb.mono HBD.out.size)); obtain ⟨p2, p3, p4, p5, p6, _⟩ := HQ.out v1 E1.out; have X1 := hide (C1.out v1 (HWB.out.trans (E1.out.mono HWB.out.size))); clear hb)
                | ((with_reducible refine (unhide X1).mono ?_); rintro e v2 ⟨rfl, hb⟩; have E2 := hide (E1.out.trans (hb.mono E1.out.size)); obtain ⟨p2, p3, p4, p5, p6, _⟩ := HQ.out v2 E2.out; have X2 := hide (C2.out v2 (HWB.out.trans (E2.out.mono HWB.out.size))); clear hb)
                | ((with_reducible refine (unhide X2).mono ?_); rintro e v3 ⟨rfl, hb⟩; have E3 := hide (E2.out.trans (hb.mono E2.out.size)); obtain ⟨p2, p3, p4, p5, p6, _⟩ := HQ.out v3 E3.out; have X3 := hide (C3.out v3 (HWB.out.trans (E3.out.mono HWB.out.size))); clear hb)
                | ((with_reducible refine (unhide X3).mono ?_); rintro e v4 ⟨rfl, hb⟩; have E4 := hide (E3.out.trans (hb.mono E3.out.size)); obtain ⟨p2, p3, p4, p5, p6, _⟩ := HQ.out v4 E4.out; have X4 := hide (C4.out v4 (HWB.out.trans (E4.out.mono HWB.out.size))); clear hb)
                | ((with_reducible refine (unhide X4).mono ?_); rintro e v5 ⟨rfl, hb⟩; have E5 := hide (E4.out.trans (hb.mono E4.out.size)); clear hb)))
            go_ret
            exact ⟨by rw [hfin.out]; rfl, HWB.out.trans (E1.out.mono HWB.out.size)⟩
          | true =>
            cases w1 with
            | false =>
              have hfin := hide (VWR.out L0.out L1.out (by rw [HP2.out]; simp))
              clear VWR VTW VNO VFI
              go_wp2_with (first
                | (go_at_call 38; first
                  | ((with_reducible refine (unhide CDW).mono ?_); rintro e v1 ⟨rfl, hb⟩; have E1 := hide (HBD.out.trans (hb.mono HBD.out.size)); obtain ⟨p2, p3, p4, p5, p6, _⟩ := HQ.out v1 E1.out; have X1 := hide (C1.out v1 (HWB.out.trans (E1.out.mono HWB.out.size))); clear hb)
                  | ((with_reducible refine (unhide X1).mono ?_); rintro e v2 ⟨rfl, hb⟩; have E2 := hide (E1.out.trans (hb.mono E1.out.size)); obtain ⟨p2, p3, p4, p5, p6, _⟩ := HQ.out v2 E2.out; have X2 := hide (C2.out v2 (HWB.out.trans (E2.out.mono HWB.out.size))); clear hb)
                  | ((with_reducible refine (unhide X2).mono ?_); rintro e v3 ⟨rfl, hb⟩; have E3 := hide (E2.out.trans (hb.mono E2.out.size)); obtain ⟨p2, p3, p4, p5, p6, _⟩ := HQ.out v3 E3.out; have X3 := hide (C3.out v3 (HWB.out.trans (E3.out.mono HWB.out.size))); clear hb)
                  | ((with_reducible refine (unhide X3).mono ?_); rintro e v4 ⟨rfl, hb⟩; have E4 := hide (E3.out.trans (hb.mono E3.out.size)); obtain ⟨p2, p3, p4, p5, p6, _⟩ := HQ.out v4 E4.out; have X4 := hide (C4.out v4 (HWB.out.trans (E4.out.mono HWB.out.size))); clear hb)
                  | ((with_reducible refine (unhide X4).mono ?_); rintro e v5 ⟨rfl, hb⟩; have E5 := hide (E4.out.trans (hb.mono E4.out.size)); clear hb)))
              go_ret
              exact ⟨by rw [hfin.out]; rfl, HWB.out.trans (E2.out.mono HWB.out.size)⟩
            | true =>
              cases w2 with
              | false =>
                have hfin := hide (VWR.out L0.out L1.out (by rw [HP2.out]; simp))
                clear VWR VTW VNO VFI
                go_wp2_with (first
                  | (go_at_call 38; first
                    | ((with_reducible refine (unhide CDW).mono ?_); rintro e v1 ⟨rfl, hb⟩; have E1 := hide (HBD.out.trans (hb.mono HBD.out.size)); obtain ⟨p2, p3, p4, p5, p6, _⟩ := HQ.out v1 E1.out; have X1 := hide (C1.out v1 (HWB.out.trans (E1.out.mono HWB.out.size))); clear hb)
                    | ((with_reducible refine (unhide X1).mono ?_); rintro e v2 ⟨rfl, hb⟩; have E2 := hide (E1.out.trans (hb.mono E1.out.size)); obtain ⟨p2, p3, p4, p5, p6, _⟩ := HQ.out v2 E2.out; have X2 := hide (C2.out v2 (HWB.out.trans (E2.out.mono HWB.out.size))); clear hb)
                    | ((with_reducible refine (unhide X2).mono ?_); rintro e v3 ⟨rfl, hb⟩; have E3 := hide (E2.out.trans (hb.mono E2.out.size)); obtain ⟨p2, p3, p4, p5, p6, _⟩ := HQ.out v3 E3.out; have X3 := hide (C3.out v3 (HWB.out.trans (E3.out.mono HWB.out.size))); clear hb)
                    | ((with_reducible refine (unhide X3).mono ?_); rintro e v4 ⟨rfl, hb⟩; have E4 := hide (E3.out.trans (hb.mono E3.out.size)); obtain ⟨p2, p3, p4, p5, p6, _⟩ := HQ.out v4 E4.out; have X4 := hide (C4.out v4 (HWB.out.trans (E4.out.mono HWB.out.size))); clear hb)
                    | ((with_reducible refine (unhide X4).mono ?_); rintro e v5 ⟨rfl, hb⟩; have E5 := hide (E4.out.trans (hb.mono E4.out.size)); clear hb)))
                go_ret
                exact ⟨by rw [hfin.out]; rfl, HWB.out.trans (E3.out.mono HWB.out.size)⟩
              | true =>
                cases w3 with
                | false =>
                  have hfin := hide (VWR.out L0.out L1.out (by rw [HP2.out]; simp))
                  clear VWR VTW VNO VFI
                  go_wp2_with (first
                    | (go_at_call 38; first
                      | ((with_reducible refine (unhide CDW).mono ?_); rintro e v1 ⟨rfl, hb⟩; have E1 := hide (HBD.out.trans (hb.mono HBD.out.size)); obtain ⟨p2, p3, p4, p5, p6, _⟩ := HQ.out v1 E1.out; have X1 := hide (C1.out v1 (HWB.out.trans (E1.out.mono HWB.out.size))); clear hb)
                      | ((with_reducible refine (unhide X1).mono ?_); rintro e v2 ⟨rfl, hb⟩; have E2 := hide (E1.out.trans (hb.mono E1.out.size)); obtain ⟨p2, p3, p4, p5, p6, _⟩ := HQ.out v2 E2.out; have X2 := hide (C2.out v2 (HWB.out.trans (E2.out.mono HWB.out.size))); clear hb)
                      | ((with_reducible refine (unhide X2).mono ?_); rintro e v3 ⟨rfl, hb⟩; have E3 := hide (E2.out.trans (hb.mono E2.out.size)); obtain ⟨p2, p3, p4, p5, p6, _⟩ := HQ.out v3 E3.out; have X3 := hide (C3.out v3 (HWB.out.trans (E3.out.mono HWB.out.size))); clear hb)
                      | ((with_reducible refine (unhide X3).mono ?_); rintro e v4 ⟨rfl, hb⟩; have E4 := hide (E3.out.trans (hb.mono E3.out.size)); obtain ⟨p2, p3, p4, p5, p6, _⟩ := HQ.out v4 E4.out; have X4 := hide (C4.out v4 (HWB.out.trans (E4.out.mono HWB.out.size))); clear hb)
                      | ((with_reducible refine (unhide X4).mono ?_); rintro e v5 ⟨rfl, hb⟩; have E5 := hide (E4.out.trans (hb.mono E4.out.size)); clear hb)))
                  go_ret
                  exact ⟨by rw [hfin.out]; rfl, HWB.out.trans (E4.out.mono HWB.out.size)⟩
                | true =>
                  cases w4 with
                  | false =>
                    have hfin := hide (VWR.out L0.out L1.out (by rw [HP2.out]; simp))
                    clear VWR VTW VNO VFI
                    go_wp2_with (first
                      | (go_at_call 38; first
                        | ((with_reducible refine (unhide CDW).mono ?_); rintro e v1 ⟨rfl, hb⟩; have E1 := hide (HBD.out.trans (hb.mono HBD.out.size)); obtain ⟨p2, p3, p4, p5, p6, _⟩ := HQ.out v1 E1.out; have X1 := hide (C1.out v1 (HWB.out.trans (E1.out.mono HWB.out.size))); clear hb)
                        | ((with_reducible refine (unhide X1).mono ?_); rintro e v2 ⟨rfl, hb⟩; have E2 := hide (E1.out.trans (hb.mono E1.out.size)); obtain ⟨p2, p3, p4, p5, p6, _⟩ := HQ.out v2 E2.out; have X2 := hide (C2.out v2 (HWB.out.trans (E2.out.mono HWB.out.size))); clear hb)
                        | ((with_reducible refine (unhide X2).mono ?_); rintro e v3 ⟨rfl, hb⟩; have E3 := hide (E2.out.trans (hb.mono E2.out.size)); obtain ⟨p2, p3, p4, p5, p6, _⟩ := HQ.out v3 E3.out; have X3 := hide (C3.out v3 (HWB.out.trans (E3.out.mono HWB.out.size))); clear hb)
                        | ((with_reducible refine (unhide X3).mono ?_); rintro e v4 ⟨rfl, hb⟩; have E4 := hide (E3.out.trans (hb.mono E3.out.size)); obtain ⟨p2, p3, p4, p5, p6, _⟩ := HQ.out v4 E4.out; have X4 := hide (C4.out v4 (HWB.out.trans (E4.out.mono HWB.out.size))); clear hb)
                        | ((with_reducible refine (unhide X4).mono ?_); rintro e v5 ⟨rfl, hb⟩; have E5 := hide (E4.out.trans (hb.mono E4.out.size)); clear hb)))
                    go_ret
                    exact ⟨by rw [hfin.out]; rfl, HWB.out.trans (E5.out.mono HWB.out.size)⟩
                  | true =>
                    have HPT := hide (show Tb.proper t = true by rw [HP2.out]; rfl)
                    clear HP2 VWR
                    go_wp2_with (first
                      | (go_at_call 38; first
                        | ((with_reducible refine (unhide CDW).mono ?_); rintro e v1 ⟨rfl, hb⟩; have E1 := hide (HBD.out.trans (hb.mono HBD.out.size)); obtain ⟨p2, p3, p4, p5, p6, _⟩ := HQ.out v1 E1.out; have X1 := hide (C1.out v1 (HWB.out.trans (E1.out.mono HWB.out.size))); clear hb)
                        | ((with_reducible refine (unhide X1).mono ?_); rintro e v2 ⟨rfl, hb⟩; have E2 := hide (E1.out.trans (hb.mono E1.out.size)); obtain ⟨p2, p3, p4, p5, p6, _⟩ := HQ.out v2 E2.out; have X2 := hide (C2.out v2 (HWB.out.trans (E2.out.mono HWB.out.size))); clear hb)
                        | ((with_reducible refine (unhide X2).mono ?_); rintro e v3 ⟨rfl, hb⟩; have E3 := hide (E2.out.trans (hb.mono E2.out.size)); obtain ⟨p2, p3, p4, p5, p6, _⟩ := HQ.out v3 E3.out; have X3 := hide (C3.out v3 (HWB.out.trans (E3.out.mono HWB.out.size))); clear hb)
                        | ((with_reducible refine (unhide X3).mono ?_); rintro e v4 ⟨rfl, hb⟩; have E4 := hide (E3.out.trans (hb.mono E3.out.size)); obtain ⟨p2, p3, p4, p5, p6, _⟩ := HQ.out v4 E4.out; have X4 := hide (C4.out v4 (HWB.out.trans (E4.out.mono HWB.out.size))); clear hb)
                        | ((with_reducible refine (unhide X4).mono ?_); rintro e v5 ⟨rfl, hb⟩; have E5 := hide (E4.out.trans (hb.mono E4.out.size)); clear hb)))
                    clear HQ CDW p2 p3 p4 p5 p6 C1 C2 C3 C4 X1 X2 X3 X4 E1 E2 E3 E4 HBD HWD hk hk0 hk2
                    go_loopw [6] (fun s wr => ∃ k : Nat, k ≤ 2 ∧ s = .int .i64 (k : Int) ∧ Below B.heap.size B wr ∧ Hid (∀ j, j < k → Tb.lone (Tb.rulesN t j) = true)) (fun s _ => 2 - (intOf s).toNat)
                    case atStart => exact ⟨0, by omega, rfl, E5.out, fun j hj => by omega⟩
                    case round =>
                      clear E5
                      obtain ⟨k, hk, rfl, hbel, HL⟩ := hrel
                      obtain ⟨wd, rfl⟩ : ∃ wd, wd = wr := ⟨wr, rfl⟩
                      have HBD := hide hbel
                      clear hbel
                      have hk0 : (0 : Int) ≤ (k : Int) := by omega
                      by_cases hk2 : (k : Int) < 2
                      · obtain ⟨Ak, ck, hcell, hrk⟩ := HCK.out k (by omega)
                        have hcl := hcell wd HBD.out
                        have HRK := hide hrk
                        have HWR := hide (VTW.out L0.out L1.out HPT.out k (by omega))
                        have HLS := hide (fun (h : Tb.lone (Tb.rulesN t k) = true) => (show ∀ j, j < k + 1 → Tb.lone (Tb.rulesN t j) = true from fun j hj => by
                          by_cases hjk : j = k
                          · subst hjk; exact h
                          · exact HL.out j (by omega)))
                        clear hcell hrk HL
                        generalize Tb.rulesN t k = rs at *
                        obtain ⟨n, hn⟩ : ∃ n, n = rs.length := ⟨_, rfl⟩
                        have HN := hide hn
                        have hnb := HRK.out.2.2
                        have hni : (n : Int) ≤ 1048576 := by omega
                        clear hnb
                        rw [← hn] at hcl
                        clear hn
                        go_wp2
                        go_loopw [8] (fun s wr => ∃ i : Nat, i ≤ n ∧ s = .int .i64 (i : Int) ∧ Below B.heap.size B wr ∧ Hid (((rs.take i).map Tb.key).Nodup)) (fun s _ => n - (intOf s).toNat)
                        case atStart => exact ⟨0, by omega, rfl, HBD.out, by rw [List.take_zero]; exact List.nodup_nil⟩
                        case round =>
                          obtain ⟨i, hi, rfl, hbel, HA⟩ := hrel
                          obtain ⟨we, rfl⟩ : ∃ we, we = wr := ⟨wr, rfl⟩
                          have HBE := hide hbel
                          clear hbel hcl
                          have hi0 : (0 : Int) ≤ (i : Int) := by omega
                          by_cases hlt : i < n
                          · have hil : i < rs.length := by have := HN.out; omega
                            have hin : (i : Int) < (n : Int) := by omega
                            have HWE := hide (HWB.out.trans (HBE.out.mono HWB.out.size))
                            have HRE := hide (show RulesAt we w.heap.size Ak rs from HRK.out.below HWE.out)
                            obtain ⟨ad, hA, hadb, hc0, hc1⟩ := rule_fields HRE.out i hil
                            subst hA
                            have HLT := hide hlt
                            have HIL := hide hil
                            clear hlt
                            go_wp2
                            go_loopw [9] (fun s wr => ∃ j q : Nat, j ≤ i ∧ s = .int .i64 (j : Int) ∧ wr = we.drewN q ∧ Hid (Tb.key (rs[i]'hil) ∉ (rs.take j).map Tb.key)) (fun s _ => i - (intOf s).toNat)
                            case atStart => exact ⟨0, 0, by omega, rfl, rfl, by rw [List.take_zero]; exact List.not_mem_nil⟩
                            case round =>
                              obtain ⟨j, q, hj, rfl, rfl, HNM⟩ := hrel
                              have hj0 : (0 : Int) ≤ (j : Int) := by omega
                              by_cases hjl : j < i
                              · have hji : (j : Int) < (i : Int) := by omega
                                have hjn : (j : Int) < (n : Int) := by omega
                                have hjr : j < rs.length := by omega
                                obtain ⟨ad2, hA2, _, hd0, hd1⟩ := rule_fields HRE.out j hjr
                                injection hA2 with hA2
                                subst hA2
                                have HDU := hide (fun (h : Tb.key (rs[i]'hil) = Tb.key (rs[j]'hjr)) => HWR.out (Tb.lone_dup rs i j hil hjl h))
                                have HNX := hide (fun (h : Tb.key (rs[i]'hil) ≠ Tb.key (rs[j]'hjr)) => (show Tb.key (rs[i]'hil) ∉ (rs.take (j + 1)).map Tb.key by
                                  rw [List.take_succ_eq_append_getElem hjr, List.map_append, List.mem_append]
                                  rintro (h2 | h2)
                                  · exact HNM.out h2
                                  · rw [List.map_singleton, List.mem_singleton] at h2
                                    exact h h2))
                                have HKI := hide (show Tb.key (rs[i]'hil) = ((rs[i]'hil).text, (rs[i]'hil).wh) from rfl)
                                have HKJ := hide (show Tb.key (rs[j]'hjr) = ((rs[j]'hjr).text, (rs[j]'hjr).wh) from rfl)
                                have HNE := hide (str_eq (rs[i]'hil).text (rs[j]'hjr).text)
                                have HJL := hide hjl
                                generalize Tb.key (rs[j]'hjr) = kj at *
                                generalize (rs[j]'hjr).text = tj at *
                                generalize (rs[j]'hjr).wh = wj at *
                                have HDU2 := hide (fun (h1 : (rs[i]'hil).text = tj) (h2 : (rs[i]'hil).wh = wj) => HDU.out (by rw [HKI.out, HKJ.out, h1, h2]))
                                have HNX2 := hide (fun (h : ¬ ((rs[i]'hil).text = tj ∧ (rs[i]'hil).wh = wj)) => HNX.out (by
                                  rw [HKI.out, HKJ.out]
                                  intro e
                                  injection e with e1 e2
                                  exact h ⟨e1, e2⟩))
                                clear HDU HNX HKI HKJ HNM
                                by_cases h1 : (rs[i]'hil).text = tj
                                · have hne := HNE.out
                                  rw [decide_eq_true h1] at hne
                                  by_cases h2 : (rs[i]'hil).wh = wj
                                  · have hfin := hide (HDU2.out h1 h2)
                                    have hww : ((rs[i]'hil).wh == wj) = true := by rw [h2]; simp
                                    clear HDU2 HNX2 HNE h1 h2 hjl
                                    generalize S (rs[i]'hil).text = s1 at *
                                    generalize (rs[i]'hil).wh = wi at *
                                    generalize S tj = s2 at *
                                    go_wp2
                                    go_quiet (fail)
                                    go_wp2
                                    go_ret
                                    exact ⟨by rw [hfin.out]; rfl, below_drewN (below_drewN (HWB.out.trans (HBE.out.mono HWB.out.size)) _) _⟩
                                  · have hy := hide (HNX2.out (fun h => h2 h.2))
                                    have hww : ((rs[i]'hil).wh == wj) = false := by rw [beq_eq_false_iff_ne]; exact h2
                                    clear HDU2 HNX2 HNE h1 h2 hjl
                                    generalize S (rs[i]'hil).text = s1 at *
                                    generalize (rs[i]'hil).wh = wi at *
                                    generalize S tj = s2 at *
                                    go_wp2
                                    go_quiet (fail)
                                    go_wp2
                                    have h9 := HJL.out
                                    exact ⟨⟨j + 1, q + nq, by omega, by go_num, by first | rfl | trivial | rw [World.drewN_drewN], hy.out⟩, by simp only [intOf]; omega⟩
                                · have hne := HNE.out
                                  rw [decide_eq_false h1] at hne
                                  have hy := hide (HNX2.out (fun h => h1 h.1))
                                  clear HDU2 HNX2 HNE h1 hjl
                                  generalize S (rs[i]'hil).text = s1 at *
                                  generalize (rs[i]'hil).wh = wi at *
                                  generalize S tj = s2 at *
                                  go_wp2
                                  go_quiet (fail)
                                  go_wp2
                                  have h9 := HJL.out
                                  exact ⟨⟨j + 1, q + nq, by omega, by go_num, by first | rfl | trivial | rw [World.drewN_drewN], hy.out⟩, by simp only [intOf]; omega⟩
                              · obtain rfl : j = i := by omega
                                have hnt : ¬ ((j : Int) < (j : Int)) := by omega
                                have HA2 := hide (Tb.nodup_take rs j hil HA.out HNM.out)
                                clear hjl HNM hc0 hc1
                                go_wp2
                                have h9 := HLT.out
                                exact ⟨⟨j + 1, by omega, by go_num, below_drewN HBE.out q, HA2.out⟩, by simp only [intOf]; omega⟩
                          · have hfull := hide (HLS.out (by
                              have h := HA.out
                              rw [List.take_of_length_le (by have := HN.out; omega)] at h
                              exact decide_eq_true h))
                            obtain rfl : i = n := by omega
                            have hnt : ¬ ((i : Int) < (i : Int)) := by omega
                            clear hlt HA HLS HWR
                            go_wp2
                            exact ⟨⟨k + 1, by omega, by go_num, HBE.out, hfull.out⟩, by simp only [intOf]; omega⟩
                      · have O0 := hide (show Tb.lone t.r0 = true from HL.out 0 (by omega))
                        have O1 := hide (show Tb.lone t.r1 = true from HL.out 1 (by omega))
                        have CO := hide (fun (k : Nat) (hk : k < 2) (A : Option Addr) (c : Nat) (hr : RulesAt w w.heap.size A (Tb.rulesN t k)) (x : UInt8) (W : World) (hb : Below w.heap.size w W) => refOwn_any A c (Tb.rulesN t k) x W ((hr.below hb).more hb.size))
                        clear HL VTW
                        go_wp2
                        go_loopw [10] (fun s wr => ∃ k : Nat, k ≤ 2 ∧ s = .int .i64 (k : Int) ∧ Below B.heap.size B wr ∧ Hid (∀ j, j < k → Tb.owns (Tb.rulesN t j) = true)) (fun s _ => 2 - (intOf s).toNat)
                        case atStart => exact ⟨0, by omega, rfl, HBD.out, fun j hj => by omega⟩
                        case round =>
                          clear hk hk0 hk2 HBD
                          obtain ⟨k, hk, rfl, hbel, HL⟩ := hrel
                          obtain ⟨wf, rfl⟩ : ∃ wf, wf = wr := ⟨wr, rfl⟩
                          have HBF := hide hbel
                          clear hbel
                          have hk0 : (0 : Int) ≤ (k : Int) := by omega
                          by_cases hk2 : (k : Int) < 2
                          · obtain ⟨Ak, ck, hcell, hrk⟩ := HCK.out k (by omega)
                            have HCELL := hide hcell
                            have COK := hide (CO.out k (by omega) Ak ck hrk)
                            have HWR := hide (VNO.out L0.out L1.out HPT.out O0.out O1.out k (by omega))
                            have HLS := hide (fun (h : Tb.owns (Tb.rulesN t k) = true) => (show ∀ j, j < k + 1 → Tb.owns (Tb.rulesN t j) = true from fun j hj => by
                              by_cases hjk : j = k
                              · subst hjk; exact h
                              · exact HL.out j (by omega)))
                            clear hcell hrk HL
                            generalize Tb.rulesN t k = rs at *
                            generalize rs.length = n at *
                            go_wp2
                            go_loopw [11] (fun s wr => ∃ i : Nat, i ≤ 26 ∧ s = .int .i64 ((97 + i : Nat) : Int) ∧ Below B.heap.size B wr ∧ Hid (∀ j, j < i → Tb.ownsC rs (UInt8.ofNat (97 + j)) = true)) (fun s _ => 123 - (intOf s).toNat)
                            case atStart => exact ⟨0, by omega, rfl, HBF.out, fun j hj => by omega⟩
                            case round =>
                              obtain ⟨i, hi, rfl, hbel, HA⟩ := hrel
                              obtain ⟨wg, rfl⟩ : ∃ wg, wg = wr := ⟨wr, rfl⟩
                              have HBG := hide hbel
                              have hcl := HCELL.out wg hbel
                              clear hbel
                              obtain ⟨c, hc⟩ : ∃ c, c = 97 + i := ⟨_, rfl⟩
                              have HC := hide hc
                              rw [← hc]
                              by_cases hlt : i < 26
                              · have hcc : (c : Int) ≤ 122 := by omega
                                have hc0 : (97 : Int) ≤ (c : Int) := by omega
                                have COC := hide (show Calls Try.prog 39 #[.slice Ak n ck, .int .u8 (c : Int)] wg fun e w' => e = .returned (.bool (Tb.ownsC rs (UInt8.ofNat (97 + i)))) ∧ Below wg.heap.size wg w' by
                                  have h := COK.out (UInt8.ofNat (97 + i)) wg (HWB.out.trans (HBG.out.mono HWB.out.size))
                                  unfold VC at h
                                  have e : ((UInt8.ofNat (97 + i)).toNat : Int) = (c : Int) := by simp only [UInt8.toNat_ofNat']; omega
                                  rw [e] at h
                                  exact h)
                                have HSTOP := hide (fun (h : Tb.ownsC rs (UInt8.ofNat (97 + i)) = false) => HWR.out (Tb.owns_stop rs i hlt h))
                                have HLT := hide hlt
                                obtain ⟨ob, hob⟩ : ∃ ob, ob = Tb.ownsC rs (UInt8.ofNat (97 + i)) := ⟨_, rfl⟩
                                have HOB := hide hob
                                rw [← hob] at COC HSTOP
                                clear hob hlt hc
                                cases ob with
                                | false =>
                                  have hfin := hide (HSTOP.out rfl)
                                  clear HSTOP
                                  go_wp2_with (go_at_call 39; refine (unhide COC).mono ?_; rintro e w5 ⟨rfl, hb5⟩; have B5 := hide (HBG.out.trans (hb5.mono HBG.out.size)); clear hb5)
                                  go_ret
                                  exact ⟨by rw [hfin.out]; rfl, HWB.out.trans (B5.out.mono HWB.out.size)⟩
                                | true =>
                                  have HA2 := hide (show ∀ j, j < i + 1 → Tb.ownsC rs (UInt8.ofNat (97 + j)) = true from fun j hj => by
                                    by_cases hji : j = i
                                    · subst hji; exact HOB.out.symm
                                    · exact HA.out j (by omega))
                                  clear HSTOP HA
                                  go_wp2_with (go_at_call 39; refine (unhide COC).mono ?_; rintro e w5 ⟨rfl, hb5⟩; have B5 := hide (HBG.out.trans (hb5.mono HBG.out.size)); clear hb5)
                                  have h9 := HLT.out
                                  have h8 := HC.out
                                  exact ⟨⟨i + 1, by omega, by rw [h8]; go_num, B5.out, HA2.out⟩, by simp only [intOf]; omega⟩
                              · obtain rfl : i = 26 := by omega
                                have hcc : ¬ ((c : Int) ≤ 122) := by omega
                                have hfull := hide (HLS.out (Tb.owns_full rs HA.out))
                                clear hlt HA HLS HWR hc
                                go_wp2
                                exact ⟨⟨k + 1, by omega, by go_num, HBG.out, hfull.out⟩, by simp only [intOf]; omega⟩
                          · have P0 := hide (show Tb.owns t.r0 = true from HL.out 0 (by omega))
                            have P1 := hide (show Tb.owns t.r1 = true from HL.out 1 (by omega))
                            have hfin := hide (VFI.out L0.out L1.out HPT.out O0.out O1.out P0.out P1.out)
                            clear HL VNO VFI CO
                            go_wp2
                            go_ret
                            exact ⟨by rw [hfin.out]; rfl, HWB.out.trans (HBF.out.mono HWB.out.size)⟩
end Go.Proofs.Ytbcfndhnopmbbaa
