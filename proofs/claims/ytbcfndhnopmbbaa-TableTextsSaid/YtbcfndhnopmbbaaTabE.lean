/-
  Tables: the keys of rules, plainly; names, by contract.
-/
import Derived.Test.YtbcfndhnopmbbaaTabD
namespace Go.Proofs.Ytbcfndhnopmbbaa
open Go.RowKit
set_option linter.unusedVariables false
set_option linter.unusedSimpArgs false
namespace Tb
def insK (ks : List (List UInt8 × Int)) (k : List UInt8 × Int) : List (List UInt8 × Int) := if k ∈ ks then ks else ks ++ [k]
def keysOf (rs : List Rl) : List (List UInt8 × Int) := rs.foldl (fun ks r => insK ks (key r)) []
theorem keysOf_snoc (rs : List Rl) (r : Rl) : keysOf (rs ++ [r]) = insK (keysOf rs) (key r) := by
  unfold keysOf
  rw [List.foldl_append]
  rfl
theorem keysOf_take (rs : List Rl) (i : Nat) (h : i < rs.length) : keysOf (rs.take (i + 1)) = insK (keysOf (rs.take i)) (key rs[i]) := by
  rw [List.take_succ_eq_append_getElem h, keysOf_snoc]
theorem mem_insK {ks : List (List UInt8 × Int)} {k x : List UInt8 × Int} : x ∈ insK ks k ↔ x ∈ ks ∨ x = k := by
  unfold insK
  split
  · rename_i h
    constructor
    · exact .inl
    · rintro (h1 | rfl)
      · exact h1
      · exact h
  · rw [List.mem_append, List.mem_singleton]
theorem keysOf_facts (rs : List Rl) : (∀ x, x ∈ keysOf rs ↔ x ∈ rs.map key) ∧ (keysOf rs).length ≤ rs.length ∧ ((keysOf rs).length < rs.length ↔ ¬ (rs.map key).Nodup) := by
  refine Wr.snoc_ind (P := fun rs => (∀ x, x ∈ keysOf rs ↔ x ∈ rs.map key) ∧ (keysOf rs).length ≤ rs.length ∧ ((keysOf rs).length < rs.length ↔ ¬ (rs.map key).Nodup)) ?_ ?_ rs
  · exact ⟨fun x => by simp [keysOf], by simp [keysOf], by simp [keysOf]⟩
  · intro l a ⟨h1, h2, h3⟩
    rw [keysOf_snoc]
    refine ⟨fun x => ?_, ?_, ?_⟩
    · rw [mem_insK, h1 x, List.map_append, List.mem_append]
      simp
    · unfold insK
      split <;> simp <;> omega
    · have hnd : ((l ++ [a]).map key).Nodup ↔ (l.map key).Nodup ∧ key a ∉ l.map key := by
        rw [List.map_append, List.nodup_append]
        constructor
        · rintro ⟨p, _, q⟩
          exact ⟨p, fun hm => q _ hm (key a) (by simp) rfl⟩
        · rintro ⟨p, q⟩
          refine ⟨p, by simp, fun x hx y hy => ?_⟩
          simp at hy
          subst hy
          intro he
          exact q (he ▸ hx)
      rw [hnd, List.length_append, List.length_singleton]
      unfold insK
      by_cases hm : key a ∈ keysOf l
      · rw [if_pos hm]
        constructor
        · intro _ h
          exact h.2 ((h1 _).1 hm)
        · intro _
          omega
      · rw [if_neg hm, List.length_append, List.length_singleton]
        constructor
        · intro h h4
          exact h3.1 (by omega) h4.1
        · intro h
          have : (keysOf l).length < l.length := h3.2 (fun h4 => h ⟨h4, fun h5 => hm ((h1 _).2 h5)⟩)
          omega
theorem lone_eq (rs : List Rl) : lone rs = !decide ((keysOf rs).length < rs.length) := by
  unfold lone
  have h := (keysOf_facts rs).2.2
  by_cases hn : (rs.map key).Nodup
  · rw [decide_eq_true hn, decide_eq_false (fun h1 => h.1 h1 hn)]; rfl
  · rw [decide_eq_false hn, decide_eq_true (h.2 hn)]; rfl
theorem ownsC_eq (rs : List Rl) (c : UInt8) : ownsC rs c = decide (([c], (0 : Int)) ∈ keysOf rs) := by
  unfold ownsC
  exact decide_eq_decide.2 ((keysOf_facts rs).1 _).symm
end Tb
theorem wpList_mapUpdate_set {w : World} {ops : Array Oper} {rest : List Oper} {o : Oper} {a : Act} {Q : Exit → Act → World → Prop}
    (hg : o.guard = none) (m x v : Operand) (hop : o.op = Op.mapUpdate 78 m x v) (b : Nat) (ks : List (List UInt8 × Int)) (k : List UInt8 × Int)
    (hm : a.eval m = .map (some b)) (hset : SetMap w b ks) (hx : a.eval x = keyV k) (hv : a.eval v = .bool true) (hk1 : k.1.length ≤ 1048576) (hk2 : Wr.inI k.2) (hks : ∀ x ∈ ks, x.1.length ≤ 1048576 ∧ Wr.inI x.2)
    (hK : ∀ w', SetMap w' b (Tb.insK ks k) → w.grownBy w' (some b) → wpList Try.prog ops Q rest (a.put o.dst undef) w') :
    wpList Try.prog ops Q (o :: rest) a w := by
  refine wpList_plain hg fun K' hK' => ?_
  obtain ⟨kl, hkl⟩ := keyOf_name k hk1 hk2
  obtain ⟨w', hrun, r1, r2, _⟩ := hset.store nameKeyed Try.underlying78 hkl (fun x hx => keyOf_name x (hks x hx).1 (hks x hx).2)
  unfold Oper.wp
  simp [execOp, hop, hm, hx, hv, hrun, Result.andThen]
  exact hK' _ _ (hK w' r1 r2)
theorem run_makeMap_some {P : Program} (t k e : TypeId) (ht : P.underlying t = some (.map k e)) (n : Nat) (W : World) : (Instr.makeMap t (some (.int .i64 (n : Int)))).run P W = .ok (.map (some W.heap.size)) (W.alloc (.map #[] 0)) := by
  simp [Instr.makeMap, run_underlying ht, asInt, asIntOf]
set_option maxHeartbeats 2000000 in
set_option maxRecDepth 100000 in
theorem names_any (A : Option Addr) (c : Nat) (rs : List Tb.Rl) (w : World) (hr : RulesAt w w.heap.size A rs) :
    Calls Try.prog 36 #[.slice A rs.length c] w fun e w' => e = .returned (.map (some w.heap.size)) ∧ SetMap w' w.heap.size (Tb.keysOf rs) ∧ Below w.heap.size w w' := by
  have hbig := hr.2.2
  obtain ⟨n, hn⟩ : ∃ n, n = rs.length := ⟨_, rfl⟩
  have HN := hide hn
  rw [← hn] at hbig ⊢
  have hni : (n : Int) ≤ 1048576 := by omega
  have HR := hide hr
  have HKS := hide (fun (i : Nat) => (show ∀ x ∈ Tb.keysOf (rs.take i), x.1.length ≤ 1048576 ∧ Wr.inI x.2 from fun x hx => by
    have h := ((Tb.keysOf_facts (rs.take i)).1 x).1 hx
    obtain ⟨r, hm, rfl⟩ := List.mem_map.1 h
    exact (hr.2.1 r (List.mem_of_mem_take hm)).2))
  have hmm := fun W => run_makeMap_some (P := Try.prog) 78 _ _ Try.underlying78 n W
  clear hn hr
  go_enter Try.func36, Try.ntmps36
  go_upto_region 2 with fail
  refine name_world fun V hV => ?_
  have VM := hide (show SetMap V w.heap.size [] by rw [← hV.out]; exact SetMap.made w)
  have VB := hide (show Below w.heap.size w V by rw [← hV.out]; exact below_alloc w _)
  have hgB : w.heap.size < V.heap.size := VM.out.lt
  clear hV hmm
  go_wp2
  go_loopw [11] (fun s wr => ∃ i : Nat, i ≤ n ∧ s = .int .i64 (i : Int) ∧ SetMap wr w.heap.size (Tb.keysOf (rs.take i)) ∧ Below w.heap.size w wr) (fun s _ => n - (intOf s).toNat)
  case atStart => exact ⟨0, by omega, rfl, by rw [List.take_zero]; exact VM.out, VB.out⟩
  case round =>
    obtain ⟨i, hi, rfl, hset, hbel⟩ := hrel
    obtain ⟨wd, rfl⟩ : ∃ wd, wd = wr := ⟨wr, rfl⟩
    have HB := hide hbel
    have HS := hide hset
    have hgd : w.heap.size < wd.heap.size := hset.lt
    by_cases hlt : i < n
    · have hil : i < rs.length := by rw [← HN.out]; exact hlt
      obtain ⟨ad, rfl, hadb, hcs⟩ := reads_rule HR.out i hil
      have HEC := hide (show ∀ (j : Nat) (v : Value), ([.string (S rs[i].text), .int .i64 rs[i].wh, .slice rs[i].cells.ad rs[i].cells.l.length rs[i].cells.c] : List Value)[j]? = some v → wd.cell? ((ad.add (i * 3)).add j) = some v from fun j v hv => by
        rw [HB.out.cell (by rw [block_of_add, block_of_add]; exact hadb)]
        exact hcs j v hv)
      have hi0 : (0 : Int) ≤ (i : Int) := by omega
      have hi1 : (i : Int) < (n : Int) := by omega
      have HLT := hide hlt
      have HK := hide (Tb.keysOf_take rs i hil)
      have HRT := hide (HR.out.2.1 rs[i] (List.getElem_mem hil)).2
      generalize rs[i] = r at *
      clear hcs hlt hil hbel hset
      go_upto_region 5 with (with_reducible refine wpList_load_at rfl 74 (.tmp 13) rfl (ad.add (i * 3)) rfl [.string (S r.text), .int .i64 r.wh, .slice r.cells.ad r.cells.l.length r.cells.c] _ HEC.out Try.underlying74 rfl ?c1 ?_)
      case c1 => exact ruleInfo
      refine name_world fun X hX => ?_
      have HX5 := hide (show Blk X wd.heap.size 74 #[.string (S r.text), .int .i64 r.wh, .slice r.cells.ad r.cells.l.length r.cells.c] by rw [← hX.out]; exact Blk.new wd _ _)
      have HXB := hide (show Below wd.heap.size wd X by rw [← hX.out]; exact below_alloc wd _)
      have HXV := hide (show Below w.heap.size w X from HB.out.trans (HXB.out.mono HB.out.size))
      have HXS := hide (HS.out.below HXB.out hgd)
      have f0 : X.cell? ⟨wd.heap.size, 0, none⟩ = some (.string (S r.text)) := HX5.out.cell 0
      have f1 : X.cell? ⟨wd.heap.size, 1, none⟩ = some (.int .i64 r.wh) := HX5.out.cell 1
      clear hX
      go_wp2_with (at_mapUpdate; refine wpList_mapUpdate_set rfl _ _ _ rfl w.heap.size (Tb.keysOf (rs.take i)) (Tb.key r) rfl HXS.out rfl rfl HRT.out.1 HRT.out.2 (HKS.out i) ?_; intro w2 hset2 hgrow2; have S2 := hide hset2; have B2 := hide (HXV.out.grown hgrow2 HXV.out.size (by intro k hk; injection hk with hk; omega)); clear hset2 hgrow2)
      exact ⟨⟨i + 1, HLT.out, by go_num, by rw [HK.out]; exact S2.out, B2.out⟩, by have := HLT.out; simp [intOf]; omega⟩
    · obtain rfl : i = n := by omega
      have hnt : ¬ ((i : Int) < (i : Int)) := by omega
      have HSF := hide (show SetMap wd w.heap.size (Tb.keysOf rs) by
        have h := HS.out
        rwa [List.take_of_length_le (by have := HN.out; omega)] at h)
      clear hlt hbel hset
      go_wp2
      go_ret
      exact ⟨rfl, HSF.out, HB.out⟩
end Go.Proofs.Ytbcfndhnopmbbaa
