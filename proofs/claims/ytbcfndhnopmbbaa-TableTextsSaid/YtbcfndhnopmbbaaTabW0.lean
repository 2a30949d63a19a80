/-
  Tables: Once of the reference, by contract.
-/
import Derived.Test.YtbcfndhnopmbbaaTabV
namespace Go.Proofs.Ytbcfndhnopmbbaa
open Go.RowKit
set_option linter.unusedVariables false
set_option linter.unusedSimpArgs false
theorem rule_fields {w : World} {B : Nat} {A : Option Addr} {rs : List Tb.Rl} (h : RulesAt w B A rs) (k : Nat) (hk : k < rs.length) :
    ∃ ad, A = some ad ∧ ad.block < B ∧ w.cell? (ad.add (k * 3)) = some (.string (S rs[k].text)) ∧ w.cell? ⟨(ad.add (k * 3)).block, (ad.add (k * 3)).off + 1, none⟩ = some (.int .i64 rs[k].wh) := by
  obtain ⟨ad, hA, hb, hc⟩ := reads_rule h k hk
  exact ⟨ad, hA, hb, hc 0 _ rfl, hc 1 _ rfl⟩
theorem rules_of_own {w : World} {b n : Nat} {v : Value} {rs : List Tb.Rl} (h : w.ownsRow b 74 3 v n (RC rs)) (hf : RulesF w v rs) (hl : rs.length ≤ 1048576) :
    ∃ A c, v = .slice A rs.length c ∧ rs.length ≤ c ∧ RulesAt w w.heap.size A rs ∧ ∀ a, A = some a → b ≤ a.block := by
  obtain ⟨A, c, rfl, hnc, _⟩ := own_slice h
  have hn : n = rs.length := by have := h.1; rw [RC_len] at this; omega
  subst hn
  refine ⟨A, c, rfl, hnc, ⟨Reads.of_own h, fun r hr => ⟨(hf r hr).1.1, (hf r hr).1.2.2⟩, hl⟩, fun a ha => ?_⟩
  subst ha
  rcases h.2 with ⟨h0, _⟩ | ⟨g, cap, cur, hv, hb, _⟩
  · cases h0
  · injection hv with hv
    injection hv with hv
    subst hv
    exact hb
theorem wpList_load_rule {ops : Array Oper} {rest : List Oper} {op : Oper} {a : Act} {w : World} {Q : Exit → Act → World → Prop} (hgd : op.guard = none) (x : Operand) (ho : op.op = .load 74 x)
    (ad : Addr) (hx : a.eval x = .pointer (some ad)) (v0 v1 v2 : Value) (hc : ∀ (j : Nat) (v : Value), ([v0, v1, v2] : List Value)[j]? = some v → w.cell? (ad.add j) = some v)
    (h : wpList Try.prog ops Q rest (a.put op.dst (.agg #[v0, v1, v2])) w) : wpList Try.prog ops Q (op :: rest) a w :=
  wpList_load_at hgd 74 x ho ad hx [v0, v1, v2] _ hc Try.underlying74 rfl ruleInfo h
theorem str_eq (a b : List UInt8) : ((S a).toList == (S b).toList) = decide (a = b) := by
  have e : ∀ l : List UInt8, (S l).toList = l := fun l => ByteArray.toList_mk l
  rw [e, e]
  by_cases h : a = b
  · subst h; simp
  · rw [decide_eq_false h]
    simpa using h
theorem fresh_take (out : List Tb.Rl) (r : Tb.Rl) (k : Nat) (h : k < out.length) : decide (Tb.key r ∉ (out.take (k + 1)).map Tb.key) = (decide (Tb.key r ∉ (out.take k).map Tb.key) && !decide (Tb.key out[k] = Tb.key r)) := by
  rw [List.take_succ_eq_append_getElem h, List.map_append, List.map_singleton]
  generalize (out.take k).map Tb.key = L
  generalize Tb.key out[k] = y
  generalize Tb.key r = x
  by_cases h1 : x ∈ L <;> by_cases h2 : y = x
  · simp [h1, h2]
  · simp [h1]
  · simp [h1, h2]
  · simp [h1, h2, Ne.symm h2]
set_option maxHeartbeats 4000000 in
set_option maxRecDepth 100000 in
theorem once_any (A : Option Addr) (c : Nat) (rs : List Tb.Rl) (w : World) (hr : RulesAt w w.heap.size A rs) (hr0 : ∀ r ∈ rs, 0 < r.cells.l.length) (hn : rs.length ≤ 1000) :
    Calls Try.prog 34 #[.slice A rs.length c] w fun e w' => ∃ v out, e = .returned v ∧ w'.ownsRow w.heap.size 74 3 v out.length (RC out) ∧ RulesF w' v out ∧ out.map Tb.eR = Tb.once (rs.map Tb.eR) ∧ (∀ r ∈ out, r ∈ rs) ∧ Below w.heap.size w w' := by
  have HR := hide hr
  have HR0 := hide hr0
  obtain ⟨n, hnn⟩ : ∃ n, n = rs.length := ⟨_, rfl⟩
  have HN := hide hnn
  rw [← hnn] at hn ⊢
  have hni : (n : Int) ≤ 1000 := by omega
  have HW := hide (Below.refl w.heap.size w)
  clear hr hr0 hnn
  go_enter Try.func34, Try.ntmps34
  go_wp2
  go_loopw [3, 4] (fun s3 s wr => ∃ (i : Nat) (y3 : Value) (out : List Tb.Rl), i ≤ n ∧ s = .int .i64 (i : Int) ∧ y3 = s3 ∧ wr.ownsRow w.heap.size 74 3 y3 out.length (RC out) ∧ RulesF wr y3 out ∧ Hid (out.map Tb.eR = Tb.once ((rs.take i).map Tb.eR)) ∧ Hid (out.length ≤ i) ∧ Hid (∀ r ∈ out, r ∈ rs) ∧ Below w.heap.size w wr) (fun _ s _ => n - (intOf s).toNat)
  case atStart => exact ⟨0, _, [], by omega, rfl, rfl, own_nil _ _ _ _, RulesF.nil _ _, by rw [List.take_zero]; exact rfl, Nat.le_refl _, fun r hr => (by cases hr), HW.out⟩
  case round =>
    obtain ⟨i, y3, out, hi, rfl, rfl, hown, hrf, HO, HL, HAD, hbel⟩ := hrel
    obtain ⟨wd, rfl⟩ : ∃ wd, wd = wr := ⟨wr, rfl⟩
    have hi0 : (0 : Int) ≤ (i : Int) := by omega
    by_cases hlt : i < n
    · have hil : i < rs.length := by rw [← HN.out]; exact hlt
      have hown3 : ∀ g, y3.ownBlock = some g → w.heap.size ≤ g ∧ g < wd.heap.size := fun g hg => hown.lt g hg
      have hol : out.length ≤ 1000 := by have := HL.out; omega
      obtain ⟨oA, oc, hv3, hoc, hro, _⟩ := rules_of_own hown hrf (by omega)
      subst hv3
      have HRO := hide hro
      have HOW := hide hown
      have HRF := hide hrf
      have HB := hide hbel
      obtain ⟨m, hm⟩ : ∃ m, m = out.length := ⟨_, rfl⟩
      have HM := hide hm
      rw [← hm] at hoc hol ⊢
      have hmi : (m : Int) ≤ 1000 := by omega
      obtain ⟨ad, hA, hadb, hc0, hc1⟩ := rule_fields HR.out i hil
      subst hA
      have hk1 : (i : Int) < (n : Int) := by omega
      have hs0 : wd.cell? (ad.add (i * 3)) = some (.string (S rs[i].text)) := by rw [HB.out.cell (by rw [block_of_add]; exact hadb)]; exact hc0
      have hs1 : wd.cell? ⟨(ad.add (i * 3)).block, (ad.add (i * 3)).off + 1, none⟩ = some (.int .i64 rs[i].wh) := by rw [HB.out.cell (by show (ad.add (i * 3)).block < _; rw [block_of_add]; exact hadb)]; exact hc1
      obtain ⟨ad', hA', _, hcs⟩ := reads_rule HR.out i hil
      injection hA' with hA'
      subst hA'
      have HEC := hide (show ∀ (j : Nat) (v : Value), ([.string (S rs[i].text), .int .i64 rs[i].wh, .slice rs[i].cells.ad rs[i].cells.l.length rs[i].cells.c] : List Value)[j]? = some v → wd.cell? ((ad.add (i * 3)).add j) = some v from fun j v hv => by
        rw [HB.out.cell (by rw [block_of_add, block_of_add]; exact hadb)]
        exact hcs j v hv)
      have HRI := hide (HR.out.2.1 rs[i] (List.getElem_mem hil))
      have HRP := hide (HR0.out rs[i] (List.getElem_mem hil))
      have HON := hide (show Tb.once ((rs.take (i + 1)).map Tb.eR) = if Tb.key rs[i] ∈ out.map Tb.key then out.map Tb.eR else out.map Tb.eR ++ [Tb.eR rs[i]] by
        rw [List.take_succ_eq_append_getElem hil, List.map_append, List.map_singleton, Tb.once_snoc, ← HO.out, Tb.map_key_eR, Tb.key_eR])
      have HLT := hide hlt
      have HMEM := hide (show rs[i] ∈ rs from List.getElem_mem hil)
      generalize rs[i] = r at *
      clear hcs hc0 hc1 hlt hil hown hrf hbel hro hm
      go_wp2
      go_loopw [5, 6] (fun s5 s wr => ∃ (k q : Nat) (fr : Bool), k ≤ m ∧ s = .int .i64 (k : Int) ∧ s5 = .bool fr ∧ Hid (fr = decide (Tb.key r ∉ (out.take k).map Tb.key)) ∧ wr = wd.drewN q) (fun _ s _ => m - (intOf s).toNat)
      case atStart => exact ⟨0, 0, true, by omega, rfl, rfl, by rw [List.take_zero]; simp [Hid], rfl⟩
      case round =>
        obtain ⟨k, q, fr, hk, rfl, rfl, HFR, rfl⟩ := hrel
        have hk0 : (0 : Int) ≤ (k : Int) := by omega
        by_cases hkl : k < m
        · have hkl2 : k < out.length := by rw [← HM.out]; exact hkl
          obtain ⟨od, hoA, _, ho0, ho1⟩ := rule_fields HRO.out k hkl2
          subst hoA
          have hkm : (k : Int) < (m : Int) := by omega
          have HFT := hide (fresh_take out r k hkl2)
          have HKEY := hide (show decide (Tb.key out[k] = Tb.key r) = (decide (out[k].text = r.text) && decide (out[k].wh = r.wh)) by
            unfold Tb.key
            by_cases h1 : out[k].text = r.text <;> by_cases h2 : out[k].wh = r.wh <;> simp [h1, h2])
          have HNE := hide (str_eq out[k].text r.text)
          have HNW := hide (int_ne out[k].wh r.wh)
          have HKL := hide hkl
          generalize decide (Tb.key out[k] = Tb.key r) = kq at *
          generalize out[k].text = t1 at *
          generalize out[k].wh = w1 at *
          clear hkl hkl2
          cases fr with
          | false =>
            have HF2 := hide (show false = decide (Tb.key r ∉ (out.take (k + 1)).map Tb.key) by rw [HFT.out, ← HFR.out]; rfl)
            clear HFT HFR HKEY HNE HNW
            go_wp2
            go_quiet (fail)
            go_wp2
            exact ⟨⟨k + 1, _, false, HKL.out, by go_num, rfl, HF2, rfl⟩, by have := HKL.out; simp [intOf]; omega⟩
          | true =>
            by_cases h1 : t1 = r.text
            · have hne := HNE.out
              rw [decide_eq_true h1] at hne
              by_cases h2 : w1 = r.wh
              · have hnw := HNW.out
                rw [decide_eq_true h2] at hnw
                have HF2 := hide (show false = decide (Tb.key r ∉ (out.take (k + 1)).map Tb.key) by rw [HFT.out, ← HFR.out, HKEY.out, decide_eq_true h1, decide_eq_true h2]; rfl)
                clear HFT HFR HKEY HNE HNW h1 h2
                generalize S t1 = sv1 at *
                generalize S r.text = sv2 at *
                generalize r.wh = w2 at *
                go_wp2
                go_quiet (fail)
                go_wp2
                exact ⟨⟨k + 1, _, false, HKL.out, by go_num, rfl, HF2, rfl⟩, by have := HKL.out; simp [intOf]; omega⟩
              · have hnw := HNW.out
                rw [decide_eq_false h2] at hnw
                have HF2 := hide (show true = decide (Tb.key r ∉ (out.take (k + 1)).map Tb.key) by rw [HFT.out, ← HFR.out, HKEY.out, decide_eq_false h2, Bool.and_false]; rfl)
                clear HFT HFR HKEY HNE HNW h1 h2
                generalize S t1 = sv1 at *
                generalize S r.text = sv2 at *
                generalize r.wh = w2 at *
                go_wp2
                go_quiet (fail)
                go_wp2
                exact ⟨⟨k + 1, _, true, HKL.out, by go_num, rfl, HF2, rfl⟩, by have := HKL.out; simp [intOf]; omega⟩
            · have hne := HNE.out
              rw [decide_eq_false h1] at hne
              have HF2 := hide (show true = decide (Tb.key r ∉ (out.take (k + 1)).map Tb.key) by rw [HFT.out, ← HFR.out, HKEY.out, decide_eq_false h1, Bool.false_and]; rfl)
              clear HFT HFR HKEY HNE HNW h1
              generalize S t1 = sv1 at *
              generalize S r.text = sv2 at *
              generalize r.wh = w2 at *
              go_wp2
              go_quiet (fail)
              go_wp2
              exact ⟨⟨k + 1, _, true, HKL.out, by go_num, rfl, HF2, rfl⟩, by have := HKL.out; simp [intOf]; omega⟩
        · obtain rfl : k = m := by omega
          have hnt : ¬ ((k : Int) < (k : Int)) := by omega
          have HFR2 := hide (show fr = decide (Tb.key r ∉ out.map Tb.key) by
            have h := HFR.out
            rwa [List.take_of_length_le (by have := HM.out; omega)] at h)
          clear HFR hkl hs0 hs1
          have HOW2 := hide (own_drewN HOW.out q)
          have HRF2 := hide (show RulesF (wd.drewN q) _ out from HRF.out)
          have HB2 := hide (below_drewN HB.out q)
          have HEC2 := hide (show ∀ (j : Nat) (v : Value), ([.string (S r.text), .int .i64 r.wh, .slice r.cells.ad r.cells.l.length r.cells.c] : List Value)[j]? = some v → (wd.drewN q).cell? ((ad.add (i * 3)).add j) = some v from HEC.out)
          generalize wd.drewN q = we at *
          clear HRO HOW HRF HB HEC
          cases fr with
          | false =>
            have HO2 := hide (show out.map Tb.eR = Tb.once ((rs.take (i + 1)).map Tb.eR) by
              rw [HON.out, if_pos]
              have h := HFR2.out
              by_cases hm : Tb.key r ∈ out.map Tb.key
              · exact hm
              · rw [decide_eq_true hm] at h; cases h)
            clear HON
            go_wp2
            exact ⟨⟨i + 1, _, out, HLT.out, by go_num, rfl, by rw [HM.out]; exact HOW2.out, by rw [HM.out]; exact HRF2.out, HO2, Nat.le_succ_of_le HL.out, HAD, HB2.out⟩, by have := HLT.out; simp [intOf]; omega⟩
          | true =>
            have HO2 := hide (show (out ++ [r]).map Tb.eR = Tb.once ((rs.take (i + 1)).map Tb.eR) by
              rw [HON.out, if_neg, List.map_append]
              · rfl
              · exact of_decide_eq_true HFR2.out.symm)
            obtain ⟨ra, hra, hrab, _⟩ := HRI.out.1.1.2 HRP.out
            have hb2s := HB2.out.size
            obtain ⟨v', W', hrun, hown', hrf', hgrow', _⟩ := rules_push (we.alloc (.cells (ruC r).toArray 74)) w.heap.size we.heap.size (.slice oA k oc) out r (own_below (by rw [HM.out]; exact HOW2.out) (below_alloc we _)) (RulesF.below (by rw [HM.out]; exact HRF2.out) (below_alloc we _)) (Blk.new we _ _)
              ⟨((HRI.out.1.below HB2.out).more hb2s).same (below_alloc we _), HRP.out, HRI.out.2⟩ (fun a ha hc => by
                rw [hra] at ha
                injection ha with ha
                subst ha
                have := hown3 _ (by rw [← HM.out]; exact hc.symm)
                omega) (by simp; omega) (by have := HM.out; omega) 22
            have HRUN := hide hrun
            have HO' := hide hown'
            have HF' := hide hrf'
            have HB' := hide (show Below w.heap.size w W' from ((HB2.out.trans (below_alloc' we _ hb2s)).grown hgrow' (by simp; omega) (fun g hg => (hown3 g (by rw [← HM.out]; exact hg)).1)))
            have HAD' := hide (show ∀ q ∈ out ++ [r], q ∈ rs from fun q hq => by
              rcases List.mem_append.1 hq with hq | hq
              · exact HAD.out q hq
              · rw [List.mem_singleton] at hq
                subst hq
                exact HMEM.out)
            clear hrun hown' hrf' hgrow' HON hra
            go_wp2_with (first
              | (with_reducible refine wpList_load_rule rfl (.tmp 50) rfl (ad.add (i * 3)) rfl (.string (S r.text)) (.int .i64 r.wh) (.slice r.cells.ad r.cells.l.length r.cells.c) HEC2.out ?_)
              | (at_builtin; refine Lib.wpList_append_run _ rfl _ _ _ _ rfl _ _ rfl rfl _ _ HRUN.out ?_))
            exact ⟨⟨i + 1, _, out ++ [r], HLT.out, by go_num, rfl, HO'.out, HF'.out, HO2, by have := HL.out; simp [Hid]; omega, HAD', HB'.out⟩, by have := HLT.out; simp [intOf]; omega⟩
    · obtain rfl : i = n := by omega
      have hnt : ¬ ((i : Int) < (i : Int)) := by omega
      have HO2 := hide (show out.map Tb.eR = Tb.once (rs.map Tb.eR) by
        have h := HO.out
        rwa [List.take_of_length_le (by have := HN.out; omega)] at h)
      clear hlt
      go_wp2
      go_ret
      first
        | exact ⟨_, out, rfl, hown, hrf, HO2.out, HAD.out, hbel⟩
        | exact ⟨_, rfl, out, hown, hrf, HO2.out, HAD.out, hbel⟩
/-- rules of a language in memory, outside block g -/
def LangAt (w : World) (g : Nat) (m : Value) (R : List Tb.Rl) : Prop :=
  ∃ A c rs, m = .slice A rs.length c ∧ rs.length ≤ c ∧ RulesAt w w.heap.size A rs ∧ rs.map Tb.eR = R ∧ (∀ a, A = some a → a.block ≠ g) ∧ ∀ r ∈ rs, ∀ a, r.cells.ad = some a → a.block ≠ g
theorem Reads.grownOff {w w' : World} {size n g : Nat} {A : Option Addr} {xs : List Value} (h : Reads w w.heap.size size A n xs) (hg : w.grownBy w' (some g)) (ho : ∀ a, A = some a → a.block ≠ g) : Reads w' w'.heap.size size A n xs :=
  ⟨h.1, fun hn => by
    obtain ⟨ad, e, hb, hc⟩ := h.2 hn
    refine ⟨ad, e, Nat.lt_of_lt_of_le hb hg.size, fun j u hu => ?_⟩
    rw [World.cell?_of_block (hg.block (ad.add j).block (by rw [block_of_add]; exact hb) (by rw [block_of_add]; intro hc2; injection hc2 with hc2; exact ho ad e hc2))]
    exact hc j u hu⟩
theorem LangAt.grown {w w' : World} {g : Nat} {m : Value} {R : List Tb.Rl} (h : LangAt w g m R) (hg : w.grownBy w' (some g)) : LangAt w' g m R := by
  obtain ⟨A, c, rs, h1, h2, h3, h4, h5, h6⟩ := h
  exact ⟨A, c, rs, h1, h2, ⟨h3.1.grownOff hg h5, fun r hr => ⟨⟨(h3.2.1 r hr).1.1.grownOff hg (h6 r hr), (h3.2.1 r hr).1.2⟩, (h3.2.1 r hr).2⟩, h3.2.2⟩, h4, h5, h6⟩
/-- bytes in memory, outside block g -/
def BsOff (w : World) (g : Nat) (m : Value) (l : List UInt8) : Prop := ∃ A c, m = .slice A l.length c ∧ BsAt w w.heap.size ⟨l, A, c⟩ ∧ ∀ a, A = some a → a.block ≠ g
theorem BsOff.grown {w w' : World} {g : Nat} {m : Value} {l : List UInt8} (h : BsOff w g m l) (hg : w.grownBy w' (some g)) : BsOff w' g m l := by
  obtain ⟨A, c, h1, h2, h3⟩ := h
  exact ⟨A, c, h1, ⟨h2.1.grownOff hg h3, h2.2⟩, h3⟩
theorem BsOff.new {w : World} {g0 g : Nat} {l : List UInt8} (h : Blk w g 5 (BV l).toArray) (hl : l.length ≤ 1048576) (hne : g ≠ g0) : BsOff w g0 (.slice (some ⟨g, 0, none⟩) l.length l.length) l :=
  ⟨_, _, rfl, bs_of_blk w g l h hl, fun a ha => by injection ha with ha; subst ha; exact hne⟩
theorem grown_set {w0 w : World} {g : Nat} (h : w0.grownBy w (some g)) (k : Nat) (v : Value) : w0.grownBy (w.setCell ⟨g, k, none⟩ v) (some g) := only_setCell h (.inl rfl) v
theorem grown_below {w0 w w' : World} {row : Option Nat} (h : w0.grownBy w row) (hb : Below w.heap.size w w') : w0.grownBy w' row :=
  ⟨hb.os.trans h.os, hb.tape.trans h.tape, hb.output.trans h.output, Nat.le_trans h.size hb.size, fun i hi hne => (hb.block i (Nat.lt_of_lt_of_le hi h.size)).trans (h.block i hi hne)⟩
theorem below_of_grown {w0 w w' : World} {g : Nat} (h : Below w0.heap.size w0 w) (hg : w.grownBy w' (some g)) (hle : w0.heap.size ≤ g) : Below w0.heap.size w0 w' :=
  h.grown hg h.size (fun k hk => by injection hk with hk; omega)
end Go.Proofs.Ytbcfndhnopmbbaa
