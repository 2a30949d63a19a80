/-
  Tables: every over rules; a set of keys in a map of the call's own; names; by contract.
-/
import Derived.Test.YtbcfndhnopmbbaaTabC
import Derived.Maps.Own
import Derived.DeepKeys4
namespace Go.Proofs.Ytbcfndhnopmbbaa
open Go.RowKit
set_option linter.unusedVariables false
set_option linter.unusedSimpArgs false
set_option maxHeartbeats 2000000 in
set_option maxRecDepth 100000 in
theorem every_possible (A : Option Addr) (c : Nat) (rs : List Tb.Rl) (w : World) (hr : RulesAt w w.heap.size A rs) :
    Calls Try.prog 58 #[.slice A rs.length c, .func (.func 59) #[] #[]] w fun e w' => e = .returned (.bool (rs.all Tb.right)) ∧ Below w.heap.size w w' := by
  have hbig := hr.2.2
  obtain ⟨n, hn⟩ : ∃ n, n = rs.length := ⟨_, rfl⟩
  have HN := hide hn
  rw [← hn] at hbig ⊢
  have hni : (n : Int) ≤ 1048576 := by omega
  have HR := hide hr
  have CP := hide (fun (r : Tb.Rl) (hm : r ∈ rs) (W : World) (hb : Below w.heap.size w W) => possible_any r W (((hr.2.1 r hm).1.below hb).more hb.size) (hr.2.1 r hm).2.1)
  clear hn hr
  generalize hres : rs.all Tb.right = res at *
  have HRES := hide hres
  have HW := hide (Below.refl w.heap.size w)
  clear hres
  go_enter Try.func58, Try.ntmps58
  go_wp2
  go_loopw [9] (fun s wr => ∃ i : Nat, i ≤ n ∧ s = .int .i64 (i : Int) ∧ Hid ((rs.take i).all Tb.right = true) ∧ Below w.heap.size w wr) (fun s _ => n - (intOf s).toNat)
  case atStart => exact ⟨0, by omega, rfl, by rw [List.take_zero]; exact rfl, HW.out⟩
  case round =>
    obtain ⟨i, hi, rfl, HT, hbel⟩ := hrel
    obtain ⟨wd, rfl⟩ : ∃ wd, wd = wr := ⟨wr, rfl⟩
    have HB := hide hbel
    by_cases hlt : i < n
    · have hil : i < rs.length := by rw [← HN.out]; exact hlt
      obtain ⟨ad, rfl, hadb, hcs⟩ := reads_rule HR.out i hil
      have HEC := hide (show ∀ (j : Nat) (v : Value), ([.string (S rs[i].text), .int .i64 rs[i].wh, .slice rs[i].cells.ad rs[i].cells.l.length rs[i].cells.c] : List Value)[j]? = some v → wd.cell? ((ad.add (i * 3)).add j) = some v from fun j v hv => by
        rw [HB.out.cell (by rw [block_of_add, block_of_add]; exact hadb)]
        exact hcs j v hv)
      have hi0 : (0 : Int) ≤ (i : Int) := by omega
      have hi1 : (i : Int) < (n : Int) := by omega
      have HLT := hide hlt
      have C := hide (fun (W : World) (hb : Below w.heap.size w W) => CP.out rs[i] (List.getElem_mem hil) W hb)
      have HTS := hide (all_take_succ Tb.right rs i hil)
      have HBAD := hide (all_bad Tb.right rs i hil)
      generalize rs[i] = r at *
      clear hcs hlt hil hbel
      go_upto_region 4 with (with_reducible refine wpList_load_at rfl 74 (.tmp 11) rfl (ad.add (i * 3)) rfl [.string (S r.text), .int .i64 r.wh, .slice r.cells.ad r.cells.l.length r.cells.c] _ HEC.out Try.underlying74 rfl ?c1 ?_)
      case c1 => exact ruleInfo
      refine name_world fun X hX => ?_
      have HX5 := hide (show Blk X wd.heap.size 74 #[.string (S r.text), .int .i64 r.wh, .slice r.cells.ad r.cells.l.length r.cells.c] by rw [← hX.out]; exact Blk.new wd _ _)
      have HXB := hide (show Below wd.heap.size wd X by rw [← hX.out]; exact below_alloc wd _)
      have HXV := hide (show Below w.heap.size w X from HB.out.trans (HXB.out.mono HB.out.size))
      have f0 : X.cell? ⟨wd.heap.size, 0, none⟩ = some (.string (S r.text)) := HX5.out.cell 0
      have f1 : X.cell? ⟨wd.heap.size, 1, none⟩ = some (.int .i64 r.wh) := HX5.out.cell 1
      have f2 : X.cell? ⟨wd.heap.size, 2, none⟩ = some (.slice r.cells.ad r.cells.l.length r.cells.c) := HX5.out.cell 2
      have C1 := hide (C.out X HXV.out)
      clear hX C CP
      cases hpx : Tb.right r with
      | true =>
        have HT2 := hide (show (rs.take (i + 1)).all Tb.right = true by rw [HTS.out, HT.out, hpx]; rfl)
        rw [hpx] at C1
        clear HTS HBAD hpx HRES
        go_wp2_with (go_at_call 59; refine (unhide C1).mono ?_; rintro e w1 ⟨rfl, hb1⟩; have B1 := hide (HXV.out.trans (hb1.mono HXV.out.size)); clear hb1)
        exact ⟨⟨i + 1, HLT.out, by go_num, HT2, B1.out⟩, by have := HLT.out; simp [intOf]; omega⟩
      | false =>
        have HF := hide (show res = false by rw [← HRES.out]; exact HBAD.out hpx)
        rw [hpx] at C1
        clear HTS HBAD hpx HRES HT
        go_wp2_with (go_at_call 59; refine (unhide C1).mono ?_; rintro e w1 ⟨rfl, hb1⟩; have B1 := hide (HXV.out.trans (hb1.mono HXV.out.size)); clear hb1)
        go_ret
        exact ⟨by rw [HF.out]; rfl, B1.out⟩
    · obtain rfl : i = n := by omega
      have HF := hide (show res = true by
        rw [← HRES.out]
        have h := HT.out
        rwa [List.take_of_length_le (by have := HN.out; omega)] at h)
      have hnt : ¬ ((i : Int) < (i : Int)) := by omega
      clear HRES HT hlt hbel CP
      go_wp2
      go_ret
      exact ⟨by rw [HF.out]; rfl, HB.out⟩
/-- the key of a rule as a value -/
def keyV (k : List UInt8 × Int) : Value := .agg #[.string (S k.1), .int .i64 k.2]
theorem keyV_inj {a b : List UInt8 × Int} (h : keyV a = keyV b) : a = b := by
  unfold keyV at h
  injection h with h
  injection h with h
  injection h with h1 h2
  injection h2 with h2
  injection h1 with h1
  injection h2 with _ h2
  exact Prod.ext (S_inj h1) h2
/-- block b of w is a map, a set of the keys ks -/
def SetMap (w : World) (b : Nat) (ks : List (List UInt8 × Int)) : Prop :=
  ∃ es clock, w.heap[b]? = some (.map es clock) ∧ es.toList.map (·.key) = ks.map keyV ∧ ∀ e ∈ es.toList, e.val = .bool true
theorem SetMap.made (w : World) : SetMap (w.alloc (.map #[] 0)) w.heap.size [] := ⟨#[], 0, (MapKept.heap_alloc w _).1, rfl, fun e he => by simp at he⟩
theorem SetMap.lt {w : World} {b : Nat} {ks : List (List UInt8 × Int)} (h : SetMap w b ks) : b < w.heap.size := by
  obtain ⟨es, clock, hb, _⟩ := h
  exact (Array.getElem?_eq_some_iff.1 hb).1
theorem SetMap.below {w w' : World} {b B : Nat} {ks : List (List UInt8 × Int)} (h : SetMap w b ks) (hb : Below B w w') (hB : b < B) : SetMap w' b ks := by
  obtain ⟨es, clock, hh, h2⟩ := h
  exact ⟨es, clock, (hb.block b hB).trans hh, h2⟩
open Go.ChangeMaps (setBlock) in
theorem SetMap.store {P : Program} {t k e : TypeId} {w : World} {b : Nat} {ks : List (List UInt8 × Int)} (h : SetMap w b ks) (K : Maps.Keyed P k) (ht : P.underlying t = some (.map k e)) {key : List UInt8 × Int} {kl : Lit} (hkey : keyOf P k (keyV key) = some kl)
    (hks : ∀ x ∈ ks, ∃ l, keyOf P k (keyV x) = some l) :
    ∃ w', (Instr.mapUpdate t (.map (some b)) (keyV key) (.bool true)).run P w = .ok () w' ∧ SetMap w' b (if key ∈ ks then ks else ks ++ [key]) ∧ w.grownBy w' (some b) ∧ w'.heap.size = w.heap.size := by
  obtain ⟨es, clock, hb, hk, hv⟩ := h
  have yes : ∀ {x : MapEntry}, x ∈ es.toList → x.key = keyV key → key ∈ ks := fun {x} hx hxe => by
    have h : keyV key ∈ ks.map keyV := by rw [← hk, ← hxe]; exact List.mem_map.2 ⟨x, hx, rfl⟩
    obtain ⟨q, hq, hqe⟩ := List.mem_map.1 h
    rwa [← keyV_inj hqe]
  have no : (∀ x ∈ es.toList, x.key ≠ keyV key) → key ∈ ks → False := fun h2 hm => by
    have h : keyV key ∈ es.toList.map (·.key) := by rw [hk]; exact List.mem_map.2 ⟨key, hm, rfl⟩
    obtain ⟨x, hx, hxe⟩ := List.mem_map.1 h
    exact h2 x hx hxe
  have hkeys : ∀ x ∈ es.toList, ∃ l, keyOf P k x.key = some l := fun x hx => by
    have h : x.key ∈ ks.map keyV := by rw [← hk]; exact List.mem_map.2 ⟨x, hx, rfl⟩
    obtain ⟨q, hq, hqe⟩ := List.mem_map.1 h
    rw [← hqe]
    exact hks q hq
  have grow : ∀ o, w.grownBy (setBlock w b o) (some b) := fun o => ⟨rfl, rfl, rfl, by simp [setBlock], fun i _ hi => ChangeMaps.heap_setBlock_other hb _ (fun e => hi (by rw [e]))⟩
  have size : ∀ o, (setBlock w b o).heap.size = w.heap.size := fun o => by simp [setBlock]
  rcases K.find w hkey es.toList hkeys with ⟨h1, h2⟩ | ⟨j, e0, h1, h2, h3⟩
  · refine ⟨setBlock w b (.map (es.push ⟨keyV key, .bool true, clock⟩) (clock + 1)), ?_, ⟨_, _, ChangeMaps.heap_setBlock_same hb _, ?_, ?_⟩, grow _, size _⟩
    · simp [Instr.mapUpdate, run_underlying ht, MapKept.run_getObj_map hb, K.check w false hkey, h1, MapKept.run_setObj_map _ hb, Result.andThen, setBlock]
    · rw [if_neg (fun hm => no h2 hm), Array.toList_push, List.map_append, hk, List.map_append]
      rfl
    · intro x hx
      rw [Array.toList_push, List.mem_append] at hx
      rcases hx with hx | hx
      · exact hv x hx
      · rw [List.mem_singleton] at hx
        rw [hx]
  · have hm : key ∈ ks := yes (List.mem_of_getElem? h2) h3
    have hj : es[j]? = some e0 := by simpa using h2
    have hlist : (es.modify j (fun e' => { e' with key := keyV key, val := .bool true })).toList = es.toList.set j { e0 with key := keyV key, val := .bool true } := by rw [Array.toList_modify, ChangeMaps.modify_eq_set _ _ _ _ h2]
    refine ⟨setBlock w b (.map (es.modify j (fun e' => { e' with key := keyV key, val := .bool true })) clock), ?_, ⟨_, _, ChangeMaps.heap_setBlock_same hb _, ?_, ?_⟩, grow _, size _⟩
    · simp [Instr.mapUpdate, run_underlying ht, MapKept.run_getObj_map hb, K.check w false hkey, h1, hj, h3, K.stays w hkey, MapKept.run_setObj_map _ hb, Result.andThen, setBlock]
    · rw [if_pos hm, hlist, List.map_set, hk]
      have hjk : (ks.map keyV)[j]? = some (keyV key) := by rw [← hk, List.getElem?_map, h2]; simp [h3]
      apply List.ext_getElem?
      intro i
      rw [List.getElem?_set]
      split
      · rename_i hij
        subst hij
        split
        · exact hjk.symm
        · rename_i hlt
          rw [List.getElem?_eq_none (by omega)]
      · rfl
    · intro x hx
      rw [hlist] at hx
      obtain ⟨i, hi, ex⟩ := List.getElem_of_mem hx
      rw [List.getElem_set] at ex
      split at ex
      · rw [← ex]
      · rw [← ex]
        exact hv _ (List.getElem_mem _)
theorem SetMap.look {P : Program} {t k e : TypeId} {w : World} {b : Nat} {ks : List (List UInt8 × Int)} (h : SetMap w b ks) (K : Maps.Keyed P k) (ht : P.underlying t = some (.map k e)) {key : List UInt8 × Int} {kl : Lit} (hkey : keyOf P k (keyV key) = some kl)
    (hks : ∀ x ∈ ks, ∃ l, keyOf P k (keyV x) = some l) (hz : (zeroValue e).run P w = .ok (.bool false) w) :
    (Instr.lookup t (.map (some b)) (keyV key) false).run P w = .ok (.bool (decide (key ∈ ks))) w := by
  obtain ⟨es, clock, hb, hk, hv⟩ := h
  have yes : ∀ {x : MapEntry}, x ∈ es.toList → x.key = keyV key → key ∈ ks := fun {x} hx hxe => by
    have h : keyV key ∈ ks.map keyV := by rw [← hk, ← hxe]; exact List.mem_map.2 ⟨x, hx, rfl⟩
    obtain ⟨q, hq, hqe⟩ := List.mem_map.1 h
    rwa [← keyV_inj hqe]
  have no : (∀ x ∈ es.toList, x.key ≠ keyV key) → key ∈ ks → False := fun h2 hm => by
    have h : keyV key ∈ es.toList.map (·.key) := by rw [hk]; exact List.mem_map.2 ⟨key, hm, rfl⟩
    obtain ⟨x, hx, hxe⟩ := List.mem_map.1 h
    exact h2 x hx hxe
  have hkeys : ∀ x ∈ es.toList, ∃ l, keyOf P k x.key = some l := fun x hx => by
    have h : x.key ∈ ks.map keyV := by rw [← hk]; exact List.mem_map.2 ⟨x, hx, rfl⟩
    obtain ⟨q, hq, hqe⟩ := List.mem_map.1 h
    rw [← hqe]
    exact hks q hq
  rcases K.find w hkey es.toList hkeys with ⟨h1, h2⟩ | ⟨j, e0, h1, h2, h3⟩
  · rw [decide_eq_false (fun hm => no h2 hm)]
    simp [Instr.lookup, run_underlying ht, MapKept.run_getObj_map hb, K.check w _ hkey, h1, hz, Result.andThen]
  · rw [decide_eq_true (yes (List.mem_of_getElem? h2) h3)]
    simp [Instr.lookup, run_underlying ht, MapKept.run_getObj_map hb, K.check w _ hkey, h1, hv e0 (List.mem_of_getElem? h2), Result.andThen]
theorem nameKeyed : Maps.Keyed Try.prog 82 := Maps.Keyed.of_law (by
  exact deep_law_laid (m := 100) (by kernel_rfl) (by decide) (by decide +kernel) (by kernel_rfl) (by kernel_rfl))
theorem nameType : Try.prog.keyType 82 = true := by kernel_rfl
theorem nameCells : Try.prog.cellsOf 82 = 2 := by kernel_rfl
theorem stringCells : Try.prog.cellsOf 9 = 1 := by kernel_rfl
theorem intCells : Try.prog.cellsOf 3 = 1 := by kernel_rfl
theorem keyOf_name (k : List UInt8 × Int) (h1 : k.1.length ≤ 1048576) (h2 : Wr.inI k.2) : ∃ l, keyOf Try.prog 82 (keyV k) = some l := by
  have hw : (Lit.int .i64 k.2).wf = true := by
    unfold Wr.inI at h2
    simp [Lit.wf, IntKind.min, IntKind.max, IntKind.bits, IntKind.signed]
    omega
  have hs : (S k.1).size ≤ maxLen := by rw [S_size]; unfold maxLen; omega
  have a1 : ∀ d, Try.prog.keyLits (d + 1) 9 [.string (S k.1)] = some [.string (S k.1).data.toList] := fun d => by
    unfold Program.keyLits
    rw [Try.underlying9]
    exact if_pos hs
  have a2 : ∀ d, Try.prog.keyLits (d + 1) 3 [.int .i64 k.2] = some [.int .i64 k.2] := fun d => by
    unfold Program.keyLits
    rw [Try.underlying3]
    exact if_pos ⟨rfl, hw⟩
  obtain ⟨d, hd⟩ : ∃ d, Try.prog.types.size = d + 1 := ⟨Try.prog.types.size - 1, by decide +kernel⟩
  unfold keyOf keyV
  rw [Try.underlying82]
  simp only [nameType, Value.formed, Try.underlying82, nameCells, hd]
  unfold Program.keyLits
  rw [Try.underlying82]
  simp [Value.cells, nameCells, stringCells, intCells, a1, a2]
end Go.Proofs.Ytbcfndhnopmbbaa
