/-
  Tables: Written, Cells, Small, own, Right of the reference, by contract.
-/
import Derived.Test.YtbcfndhnopmbbaaTabU
import Derived.Test.YtbcfndhnopmbbaaTabW0
namespace Go.Proofs.Ytbcfndhnopmbbaa
open Go.RowKit
set_option linter.unusedVariables false
set_option linter.unusedSimpArgs false
set_option maxHeartbeats 400000 in
theorem refWritten_any (c : UInt8) (w : World) : Calls Try.prog 48 #[VC c] w fun e w' => e = .returned (.bool (Tb.written c)) ∧ w = w' := by
  unfold VC
  have HS := hide (show Tb.written c = decide (32 ≤ c.toNat ∧ c.toNat ≤ 126) from rfl)
  generalize Tb.written c = r at *
  generalize c.toNat = n at *
  by_cases h1 : (32 : Int) ≤ (n : Int)
  · by_cases h2 : (n : Int) ≤ 126
    · go_enter Try.func48, Try.ntmps48
      go_wp2
      go_ret
      exact ⟨by rw [HS.out, decide_eq_true (by omega)]; rfl, rfl⟩
    · go_enter Try.func48, Try.ntmps48
      go_wp2
      go_ret
      exact ⟨by rw [HS.out, decide_eq_false (by omega)]; rfl, rfl⟩
  · go_enter Try.func48, Try.ntmps48
    go_wp2
    go_ret
    exact ⟨by rw [HS.out, decide_eq_false (by omega)]; rfl, rfl⟩
theorem all_take {α : Type} (p : α → Bool) (l : List α) (i : Nat) (h : i < l.length) (h1 : (l.take i).all p = true) (h2 : p l[i] = true) : (l.take (i + 1)).all p = true := by
  rw [List.take_succ_eq_append_getElem h, List.all_append, h1]
  simp [h2]
theorem all_stop {α : Type} (p : α → Bool) (l : List α) (i : Nat) (h : i < l.length) (h2 : p l[i] = false) : l.all p = false := by
  cases h1 : l.all p with
  | false => rfl
  | true =>
    rw [List.all_eq_true] at h1
    have := h1 l[i] (List.getElem_mem h)
    rw [h2] at this
    cases this
set_option maxHeartbeats 2000000 in
set_option maxRecDepth 100000 in
theorem refCells_any (A : Option Addr) (c : Nat) (l : List UInt8) (lo hi : Nat) (w : World) (h : BsAt w w.heap.size ⟨l, A, c⟩) (hlo : lo ≤ 1000) (hhi : hi ≤ 1000) :
    Calls Try.prog 38 #[.slice A l.length c, .int .i64 (lo : Int), .int .i64 (hi : Int)] w fun e w' => e = .returned (.bool (l.all Tb.filled && decide (lo ≤ l.length ∧ l.length ≤ hi))) ∧ Below w.heap.size w w' := by
  have HR := hide h.1
  have hbig := h.2.2
  obtain ⟨n, hn⟩ : ∃ n, n = l.length := ⟨_, rfl⟩
  have HN := hide hn
  have hbig : n ≤ 1048576 := by rw [hn]; exact hbig
  rw [← hn]
  obtain ⟨res, hres⟩ : ∃ res, res = (l.all Tb.filled && decide (lo ≤ n ∧ n ≤ hi)) := ⟨_, rfl⟩
  have HRES := hide hres
  rw [← hres]
  have HW := hide (Below.refl w.heap.size w)
  clear hn h hres
  have hni : (n : Int) ≤ 1048576 := by omega
  go_enter Try.func38, Try.ntmps38
  go_wp2
  go_loopw [7] (fun s wr => ∃ i : Nat, i ≤ n ∧ s = .int .i64 (i : Int) ∧ wr = w ∧ Hid ((l.take i).all Tb.filled = true)) (fun s _ => n - (intOf s).toNat)
  case atStart => exact ⟨0, by omega, rfl, rfl, by rw [List.take_zero]; exact rfl⟩
  case round =>
    obtain ⟨i, hi', rfl, rfl, HA⟩ := hrel
    have hi0 : (0 : Int) ≤ (i : Int) := by omega
    by_cases hlt : i < n
    · have hil : i < l.length := by have := HN.out; omega
      obtain ⟨ad, hA, _⟩ := reads_item HR.out i (by omega)
      subst hA
      have hcell := reads_cell HR.out i hil
      have HST := hide (fun (h : Tb.filled (l[i]'hil) = false) => all_stop Tb.filled l i hil h)
      have HTK := hide (fun (h : Tb.filled (l[i]'hil) = true) => all_take Tb.filled l i hil HA.out h)
      have hin : (i : Int) < (n : Int) := by omega
      have HLT := hide hlt
      generalize l[i]'hil = c0 at hcell HST HTK
      have HF := hide (show Tb.filled c0 = decide (1 ≤ c0.toNat ∧ c0.toNat ≤ 63) from rfl)
      generalize c0.toNat = ch at hcell HF
      clear hlt
      by_cases h1 : ch < 1
      · have h1i : (ch : Int) < 1 := by omega
        have hfin := hide (show res = false by rw [HRES.out, HST.out (by rw [HF.out]; exact decide_eq_false (by omega))]; rfl)
        go_wp2
        go_ret
        exact ⟨by rw [hfin.out]; rfl, HW.out⟩
      · have h1i : ¬ ((ch : Int) < 1) := by omega
        by_cases h2 : 63 < ch
        · have h2i : (63 : Int) < (ch : Int) := by omega
          have hfin := hide (show res = false by rw [HRES.out, HST.out (by rw [HF.out]; exact decide_eq_false (by omega))]; rfl)
          go_wp2
          go_ret
          exact ⟨by rw [hfin.out]; rfl, HW.out⟩
        · have h2i : ¬ ((63 : Int) < (ch : Int)) := by omega
          have HA2 := hide (HTK.out (by rw [HF.out]; exact decide_eq_true (by omega)))
          go_wp2
          have h9 := HLT.out
          exact ⟨⟨i + 1, by omega, by go_num, by first | trivial | rfl, HA2.out⟩, by simp only [intOf]; omega⟩
    · obtain rfl : i = n := by omega
      have hnt : ¬ ((i : Int) < (i : Int)) := by omega
      have HL := hide (show l.all Tb.filled = true by
        have h := HA.out
        rwa [List.take_of_length_le (by have := HN.out; omega)] at h)
      clear hlt
      by_cases h1 : (lo : Int) ≤ (i : Int)
      · by_cases h2 : (i : Int) ≤ (hi : Int)
        · have hfin := hide (show res = true by rw [HRES.out, HL.out, decide_eq_true (by omega)]; rfl)
          go_wp2
          go_ret
          exact ⟨by rw [hfin.out]; rfl, HW.out⟩
        · have hfin := hide (show res = false by rw [HRES.out, HL.out, decide_eq_false (by omega)]; rfl)
          go_wp2
          go_ret
          exact ⟨by rw [hfin.out]; rfl, HW.out⟩
      · have hfin := hide (show res = false by rw [HRES.out, HL.out, decide_eq_false (by omega)]; rfl)
        go_wp2
        go_ret
        exact ⟨by rw [hfin.out]; rfl, HW.out⟩
set_option maxHeartbeats 2000000 in
set_option maxRecDepth 100000 in
theorem refSmall_any (s : List UInt8) (w : World) (hs : s.length ≤ 1048576) :
    Calls Try.prog 62 #[.string (S s)] w fun e w' => e = .returned (.bool (s.all Tb.small)) ∧ Below w.heap.size w w' := by
  have HSX := hide (fun (i : Nat) (hi : i < s.length) (W : World) => run_index_S s i hi W)
  obtain ⟨n, hn⟩ : ∃ n, n = s.length := ⟨_, rfl⟩
  have hsz : (S s).size = n := by rw [S_size, hn]
  have HN := hide hn
  rw [← hn] at hs
  have hni : (n : Int) ≤ 1048576 := by omega
  obtain ⟨res, hres⟩ : ∃ res, res = s.all Tb.small := ⟨_, rfl⟩
  have HRES := hide hres
  rw [← hres]
  have HW := hide (Below.refl w.heap.size w)
  clear hn hres
  generalize S s = sv at *
  go_enter Try.func62, Try.ntmps62
  go_wp2
  go_loopw [3] (fun q wr => ∃ i : Nat, i ≤ n ∧ q = .int .i64 (i : Int) ∧ wr = w ∧ Hid ((s.take i).all Tb.small = true)) (fun q _ => n - (intOf q).toNat)
  case atStart => exact ⟨0, by omega, rfl, rfl, by rw [List.take_zero]; exact rfl⟩
  case round =>
    obtain ⟨i, hi', rfl, rfl, HA⟩ := hrel
    have hi0 : (0 : Int) ≤ (i : Int) := by omega
    by_cases hlt : i < n
    · have hil : i < s.length := by have := HN.out; omega
      have hix := fun W => HSX.out i hil W
      have hin : (i : Int) < (n : Int) := by omega
      have hgd : s.getD i 0 = s[i]'hil := by simp [List.getD, hil]
      rw [hgd] at hix
      have HST := hide (fun (h : Tb.small (s[i]'hil) = false) => all_stop Tb.small s i hil h)
      have HTK := hide (fun (h : Tb.small (s[i]'hil) = true) => all_take Tb.small s i hil HA.out h)
      have HLT := hide hlt
      clear hgd
      generalize s[i]'hil = c0 at hix HST HTK
      have HF := hide (show Tb.small c0 = decide (97 ≤ c0.toNat ∧ c0.toNat ≤ 122) from rfl)
      generalize c0.toNat = ch at hix HF
      clear hlt HSX
      by_cases h1 : ch < 97
      · have h1i : (ch : Int) < 97 := by omega
        have hfin := hide (show res = false by rw [HRES.out, HST.out (by rw [HF.out]; exact decide_eq_false (by omega))])
        go_wp2
        go_ret
        exact ⟨by rw [hfin.out]; rfl, HW.out⟩
      · have h1i : ¬ ((ch : Int) < 97) := by omega
        by_cases h2 : 122 < ch
        · have h2i : (122 : Int) < (ch : Int) := by omega
          have hfin := hide (show res = false by rw [HRES.out, HST.out (by rw [HF.out]; exact decide_eq_false (by omega))])
          go_wp2
          go_ret
          exact ⟨by rw [hfin.out]; rfl, HW.out⟩
        · have h2i : ¬ ((122 : Int) < (ch : Int)) := by omega
          have HA2 := hide (HTK.out (by rw [HF.out]; exact decide_eq_true (by omega)))
          go_wp2
          have h9 := HLT.out
          exact ⟨⟨i + 1, by omega, by go_num, by first | trivial | rfl, HA2.out⟩, by simp only [intOf]; omega⟩
    · obtain rfl : i = n := by omega
      have hnt : ¬ ((i : Int) < (i : Int)) := by omega
      have hfin := hide (show res = true by
        have h := HA.out
        rw [List.take_of_length_le (by have := HN.out; omega)] at h
        rw [HRES.out, h])
      clear hlt HSX
      go_wp2
      go_ret
      exact ⟨by rw [hfin.out]; rfl, HW.out⟩
set_option maxHeartbeats 4000000 in
set_option maxRecDepth 100000 in
theorem refOwn_any (A : Option Addr) (c : Nat) (rs : List Tb.Rl) (ch : UInt8) (w : World) (hr : RulesAt w w.heap.size A rs) :
    Calls Try.prog 39 #[.slice A rs.length c, VC ch] w fun e w' => e = .returned (.bool (Tb.ownsC rs ch)) ∧ Below w.heap.size w w' := by
  have HR := hide hr
  have hbig := hr.2.2
  obtain ⟨n, hn⟩ : ∃ n, n = rs.length := ⟨_, rfl⟩
  have HN := hide hn
  rw [← hn] at hbig ⊢
  have hni : (n : Int) ≤ 1048576 := by omega
  obtain ⟨res, hres⟩ : ∃ res, res = Tb.ownsC rs ch := ⟨_, rfl⟩
  have HRES := hide (show res = decide (([ch], (0 : Int)) ∈ rs.map Tb.key) from hres)
  rw [← hres]
  have HW := hide (Below.refl w.heap.size w)
  clear hn hr hres
  unfold VC
  go_enter Try.func39, Try.ntmps39
  go_wp2
  go_loopw [5] (fun q wr => ∃ i : Nat, i ≤ n ∧ q = .int .i64 (i : Int) ∧ wr = w ∧ Hid (([ch], (0 : Int)) ∉ (rs.take i).map Tb.key)) (fun q _ => n - (intOf q).toNat)
  case atStart => exact ⟨0, by omega, rfl, rfl, by rw [List.take_zero]; exact List.not_mem_nil⟩
  case round =>
    obtain ⟨i, hi', rfl, rfl, HA⟩ := hrel
    have hi0 : (0 : Int) ≤ (i : Int) := by omega
    by_cases hlt : i < n
    · have hil : i < rs.length := by have := HN.out; omega
      obtain ⟨ad, rfl, _, hc0, hc1⟩ := rule_fields HR.out i hil
      have hin : (i : Int) < (n : Int) := by omega
      have HLT := hide hlt
      have HNX := hide (fun (hk : Tb.key rs[i] ≠ ([ch], 0)) => (show ([ch], (0 : Int)) ∉ (rs.take (i + 1)).map Tb.key by
        rw [List.take_succ_eq_append_getElem hil, List.map_append, List.mem_append]
        rintro (h | h)
        · exact HA.out h
        · rw [List.map_singleton, List.mem_singleton] at h
          exact hk h.symm))
      have HYS := hide (fun (hk : Tb.key rs[i] = ([ch], 0)) => (show res = true by
        rw [HRES.out, ← hk]
        exact decide_eq_true (List.mem_map_of_mem (List.getElem_mem hil))))
      have HKY := hide (show Tb.key rs[i] = (rs[i].text, rs[i].wh) from rfl)
      have htl : rs[i].text.length ≤ 1048576 := (HR.out.2.1 rs[i] (List.getElem_mem hil)).2.1
      generalize Tb.key rs[i] = ky at *
      generalize rs[i].text = tx at *
      generalize rs[i].wh = wh at *
      clear hlt hil
      have go := fun (h : ky ≠ ([ch], 0)) => HNX.out h
      by_cases h1 : wh = 0
      · subst h1
        by_cases h2 : tx.length = 1
        · obtain ⟨d, rfl⟩ : ∃ d, tx = [d] := List.length_eq_one_iff.1 h2
          have hsz : (S [d]).size = 1 := rfl
          have hix : ∀ W, (Instr.index 9 (.string (S [d])) (.int .i64 0)).run Try.prog W = .ok (.int .u8 (d.toNat : Int)) W := fun W => run_index_S [d] 0 (by simp) W
          clear h2 go
          by_cases h3 : d = ch
          · have hy := hide (HYS.out (by rw [HKY.out, h3]))
            have hee : ((d.toNat : Int) == (ch.toNat : Int)) = true := by rw [h3]; simp
            clear HNX HYS HKY h3
            generalize S [d] = sv at *
            generalize d.toNat = dn at *
            generalize ch.toNat = cn at *
            go_wp2
            go_ret
            exact ⟨by rw [hy.out]; rfl, HW.out⟩
          · have hy := hide (HNX.out (by rw [HKY.out]; intro h; injection h with h _; injection h with h _; exact h3 h))
            have hee : ((d.toNat : Int) == (ch.toNat : Int)) = false := by
              rw [beq_eq_false_iff_ne]
              intro h
              exact h3 (UInt8.toNat_inj.1 (by omega))
            clear HNX HYS HKY h3
            generalize S [d] = sv at *
            generalize d.toNat = dn at *
            go_wp2
            have h9 := HLT.out
            exact ⟨⟨i + 1, by omega, by go_num, by first | trivial | rfl, hy.out⟩, by simp only [intOf]; omega⟩
        · have hy := hide (go (by rw [HKY.out]; intro h; injection h with h _; exact h2 (by rw [h]; rfl)))
          have hsz : (S tx).size = tx.length := S_size tx
          have hee : ((tx.length : Int) == 1) = false := by rw [beq_eq_false_iff_ne]; omega
          clear HNX HYS HKY h2 go
          generalize S tx = sv at *
          generalize tx.length = tn at *
          go_wp2
          have h9 := HLT.out
          exact ⟨⟨i + 1, by omega, by go_num, by first | trivial | rfl, hy.out⟩, by simp only [intOf]; omega⟩
      · have hy := hide (go (by rw [HKY.out]; intro h; injection h with _ h; exact h1 h))
        have hee : (wh == 0) = false := by rw [beq_eq_false_iff_ne]; exact h1
        clear HNX HYS HKY h1 go
        go_wp2
        have h9 := HLT.out
        exact ⟨⟨i + 1, by omega, by go_num, by first | trivial | rfl, hy.out⟩, by simp only [intOf]; omega⟩
    · obtain rfl : i = n := by omega
      have hnt : ¬ ((i : Int) < (i : Int)) := by omega
      have hfin := hide (show res = false by
        have h := HA.out
        rw [List.take_of_length_le (by have := HN.out; omega)] at h
        rw [HRES.out]
        exact decide_eq_false h)
      clear hlt
      go_wp2
      go_ret
      exact ⟨by rw [hfin.out]; rfl, HW.out⟩
end Go.Proofs.Ytbcfndhnopmbbaa
