/-
  From a walk to the row: a law that answers true and leaves what was there as it was; arguments opened into what the walks read.
-/
import Derived.Test.YtbkpnfejhaedhaaLaw
import Derived.WalkKit
import Derived.ProofKit
import Derived.OpenShut
import Derived.JoinedCond
import Derived.Carry
import Derived.WideKeyArgs
import Derived.SliceStrings
import Derived.ChangeMaps5
import Derived.Deep.Slices
import Derived.SizedLaws
import Derived.Deep.CondSized
namespace Go.Proofs.Ytbkpnfejhaedhaa
open Go.ChangeShapes Go.WideShapes Go.ChangeAt Go.RowKit
set_option linter.unusedVariables false
set_option linter.unusedSimpArgs false

theorem own : ownKnob Try.prog.godebug = none := by kernel_rfl
theorem laidOut : laidOutB Try.prog = true := by kernel_rfl

section
variable {H : Type} {enc : TypeId × Value → H} {P : Program}

theorem trodAll_below (hl : laidOutB P = true) {W W' : World} (hb : Below W.heap.size W W') {sp : Nat → Bool} : ∀ {ts : List TypeId} {vs : List Value} {ds : List (DataW H)} {ps : List MemPlace},
    (ts.all fun t => P.readableRec t && decide (t < P.types.size)) = true → DataW.TrodAll enc P W 0 (fun _ => true) true ts vs ds ps → (∀ p ∈ ps, p.block < W.heap.size) → (∀ p ∈ ps, sp p.block = true) → DataW.TrodAll enc P W' 0 sp true ts vs ds ps
  | [], [], [], _, _, h, _, _ => h
  | t :: ts, _ :: _, _ :: _, _, hp, ⟨p, q, h1, h2, e⟩, hlt, hs => by
    simp only [List.all_cons, Bool.and_eq_true, decide_eq_true_eq] at hp
    refine ⟨p, q, WideElems.Trod_stays hl hp.1.1 hp.1.2 h1 (fun x hx => hb.same (hlt x (by rw [e]; exact List.mem_append_left _ hx))) (fun x hx => hs x (by rw [e]; exact List.mem_append_left _ hx)), ?_, e⟩
    exact trodAll_below hl hb hp.2 h2 (fun x hx => hlt x (by rw [e]; exact List.mem_append_right _ hx)) (fun x hx => hs x (by rw [e]; exact List.mem_append_right _ hx))

/-- the row's post of a law: it answered true, and of what was there nothing has changed -/
theorem post_law {f : Func} {s : ChangeSpec} {W W' : World} {args : Array Value} {ds gs : List (DataW H)} {before : List MemPlace} {tb : TypeId}
    (hl : laidOutB P = true) (hp : (f.params.toList.all fun t => P.readableRec t && decide (t < P.types.size)) = true)
    (hv : s.vars = []) (hr : f.resultTypes = #[tb]) (htb : P.underlying tb = some .bool)
    (hfn : s.fn H ds = { results := [.lit (.bool true)], args := ds })
    (hW : DataW.Whole enc P f.params.toList s.vars false W args.toList ds gs before) (hb : Below W.heap.size W W') :
    s.post enc P f false true false false W args (.bool true) W' := by
  have hlt : ∀ p ∈ before, p.block < W.heap.size := fun p hp => hW.lt p hp
  have hW' := hW
  obtain ⟨p, q, hA, hV, rfl, hfz, hnd⟩ := hW
  rw [hv] at hV
  obtain ⟨rfl, rfl⟩ := trodVars_none hV
  refine post_of_below (pa := p) (pv := []) hW' ?_ ?_ ?_ rfl hb ?_
  · intro b sp hd
    rw [List.append_nil, hfn, hr]
    exact trodAll_cons_mk (shut_bool htb _) trodAll_mk0
  · intro sp hsp
    rw [List.append_nil, hfn]
    exact trodAll_below hl hb hp hA (fun x hx => hlt x (by simpa using hx)) (fun x hx => hsp x (by simpa using hx))
  · intro sp hsp
    rw [List.append_nil, hfn, hv]
    rfl
  · exact ok_one hr rfl (okWide_bool_mk htb _)
end

theorem inI_of_wf {a : Int} (h : (Lit.int .i64 a).wf = true) : Wr.inI a := by
  simp [Lit.wf] at h
  exact h

section
variable {H : Type} {enc : TypeId × Value → H} {W : World}

theorem byte_of_wf {z : Int} (h : (Lit.int .u8 z).wf = true) : z = ((UInt8.ofNat z.toNat).toNat : Int) := by
  have hx : 0 ≤ z ∧ z ≤ 255 := by simpa [Lit.wf, IntKind.min, IntKind.max, IntKind.signed, IntKind.bits] using h
  simp only [UInt8.toNat_ofNat']
  omega

/-- the datum of a slice of capacity c -/
def Capped (d : DataW H) (c : Nat) : Prop := (d = .nil ∧ c = 0) ∨ ∃ elems spare, d = .slice elems spare ∧ elems.length + spare.length = c
theorem capped_sized {P : Program} {ts : List TypeId} {ds : List (DataW H)} (h : (DataW.weightsEach P ts ds).all (· ≤ reachBytes) = true) {j : Nat} {t e : TypeId} {d : DataW H} {c : Nat} (ht : ts[j]? = some t) (hd : ds[j]? = some d) (hu : P.underlying t = some (.slice e)) (hc : Capped d c) : c * P.bytesOf e ≤ 140737488351232 := by
  rcases hc with ⟨_, rfl⟩ | ⟨el, sp, rfl, rfl⟩
  · simp
  · exact sized_slice h ht hd hu
theorem bytes_u8 : Try.prog.bytesOf 5 = 1 := by kernel_rfl
theorem bytes_int : Try.prog.bytesOf 3 = 8 := by kernel_rfl
theorem bytes_string : Try.prog.bytesOf 9 = 16 := by kernel_rfl
theorem bytes_digest : Try.prog.bytesOf 57 = 16 := by kernel_rfl

/-- a []byte that came in -/
theorem open_bytes {base : Nat} {v : Value} {d : DataW H} {ps : List MemPlace} (hval : Value.okWide Try.prog W .any base 28 v) (h : DataW.Trod enc Try.prog W 0 (fun _ => true) true 28 v d ps) :
    ∃ A n c l, v = .slice A n c ∧ Reads W W.heap.size 1 A n (BV l) ∧ n ≤ c ∧ c ≤ maxLen ∧ Capped d c := by
  obtain ⟨a0, len, cap, rfl⟩ := okWide_slice Try.underlying28 hval
  obtain ⟨fuel, hf⟩ := h
  rcases open_ints Try.underlying28 Try.underlying5 (by kernel_rfl) hf with ⟨hcs, hx⟩ | ⟨a, len', cap', zs, hcs, _, hl, hm, hz, hx, hcell, hwz⟩
  · simp [Value.cells] at hcs
    obtain ⟨rfl, rfl, rfl⟩ := hcs
    simp only [Prod.mk.injEq] at hx
    exact ⟨none, 0, 0, [], rfl, Reads.none_, Nat.le_refl _, by unfold maxLen; omega, .inl ⟨hx.1, rfl⟩⟩
  · simp [Value.cells] at hcs
    obtain ⟨rfl, rfl, rfl⟩ := hcs
    simp only [if_true] at hz
    simp only [Prod.mk.injEq] at hx
    refine ⟨some a, len, cap, (zs.take len).map (fun z => UInt8.ofNat z.toNat), rfl, ⟨?_, fun hn => ⟨a, rfl, ?_, fun j u hj => ?_⟩⟩, hl, hm, .inr ⟨_, _, hx.1, by simp [lits]; omega⟩⟩
    · rw [BV_len, List.length_map, List.length_take]; omega
    · have := hcell 0 (by omega)
      have := block_lt_of_cell this
      rwa [block_of_add] at this
    · have hjl : j < len := by
        rcases Nat.lt_or_ge j len with h | h
        · exact h
        · rw [List.getElem?_eq_none (by rw [BV_len, List.length_map, List.length_take]; omega)] at hj; cases hj
      have hjz : j < zs.length := by omega
      rw [hcell j hjz]
      rw [BV_get _ j (by rw [List.length_map, List.length_take]; omega)] at hj
      injection hj with hj
      rw [← hj]
      simp only [List.getElem_map, List.getElem_take, List.getD, List.getElem?_eq_getElem hjz, Option.getD_some]
      rw [← byte_of_wf (hwz _ (List.getElem_mem hjz))]

/-- a []int that came in -/
theorem open_intRow {base : Nat} {v : Value} {d : DataW H} {ps : List MemPlace} (hval : Value.okWide Try.prog W .any base 22 v) (h : DataW.Trod enc Try.prog W 0 (fun _ => true) true 22 v d ps) :
    ∃ A n c, ∃ xs : List Int, v = .slice A n c ∧ Reads W W.heap.size 1 A n (xs.map (Value.int .i64)) ∧ n ≤ c ∧ c ≤ maxLen ∧ Capped d c ∧ ∀ x ∈ xs, Wr.inI x := by
  obtain ⟨a0, len, cap, rfl⟩ := okWide_slice Try.underlying22 hval
  obtain ⟨fuel, hf⟩ := h
  rcases open_ints Try.underlying22 Try.underlying3 (by kernel_rfl) hf with ⟨hcs, hx⟩ | ⟨a, len', cap', zs, hcs, _, hl, hm, hz, hx, hcell, hwz⟩
  · simp [Value.cells] at hcs
    obtain ⟨rfl, rfl, rfl⟩ := hcs
    simp only [Prod.mk.injEq] at hx
    exact ⟨none, 0, 0, [], rfl, Reads.none_, Nat.le_refl _, by unfold maxLen; omega, .inl ⟨hx.1, rfl⟩, by simp⟩
  · simp [Value.cells] at hcs
    obtain ⟨rfl, rfl, rfl⟩ := hcs
    simp only [if_true] at hz
    simp only [Prod.mk.injEq] at hx
    refine ⟨some a, len, cap, zs.take len, rfl, ⟨?_, fun hn => ⟨a, rfl, ?_, fun j u hj => ?_⟩⟩, hl, hm, .inr ⟨_, _, hx.1, by simp [lits]; omega⟩, fun x hx => inI_of_wf (hwz x (List.mem_of_mem_take hx))⟩
    · rw [List.length_map, List.length_take]; omega
    · have := hcell 0 (by omega)
      have := block_lt_of_cell this
      rwa [block_of_add] at this
    · have hjl : j < len := by
        rcases Nat.lt_or_ge j len with h | h
        · exact h
        · rw [List.getElem?_eq_none (by rw [List.length_map, List.length_take]; omega)] at hj; cases hj
      have hjz : j < zs.length := by omega
      rw [hcell j hjz]
      rw [List.getElem?_map, List.getElem?_take, if_pos hjl, List.getElem?_eq_getElem hjz] at hj
      simpa [List.getD, List.getElem?_eq_getElem hjz] using hj

/-- a []string that came in -/
theorem open_textRow {base : Nat} {v : Value} {d : DataW H} {ps : List MemPlace} (hval : Value.okWide Try.prog W .any base 23 v) (h : DataW.Trod enc Try.prog W 0 (fun _ => true) true 23 v d ps) :
    ∃ A n c, ∃ xs : List (List UInt8), v = .slice A n c ∧ Reads W W.heap.size 1 A n (xs.map VS) ∧ n ≤ c ∧ c ≤ maxLen ∧ Capped d c ∧ ((d = .nil ∧ xs = []) ∨ ∃ sp, d = .slice (xs.map fun x => .lit (.string x)) sp) ∧ ∀ x ∈ xs, x.length ≤ maxLen := by
  obtain ⟨a0, len, cap, rfl⟩ := okWide_slice Try.underlying23 hval
  obtain ⟨fuel, hf⟩ := h
  rcases open_strings Try.underlying23 Try.underlying9 (by kernel_rfl) hf with ⟨hcs, hx⟩ | ⟨a, len', cap', ss, hcs, _, hl, hm, hz, hx, hcell, hws⟩
  · simp [Value.cells] at hcs
    obtain ⟨rfl, rfl, rfl⟩ := hcs
    simp only [Prod.mk.injEq] at hx
    exact ⟨none, 0, 0, [], rfl, Reads.none_, Nat.le_refl _, by unfold maxLen; omega, .inl ⟨hx.1, rfl⟩, .inl ⟨hx.1, rfl⟩, by simp⟩
  · simp [Value.cells] at hcs
    obtain ⟨rfl, rfl, rfl⟩ := hcs
    simp only [if_true] at hz
    simp only [Prod.mk.injEq] at hx
    refine ⟨some a, len, cap, (ss.take len).map (fun s => s.data.toList), rfl, ⟨?_, fun hn => ⟨a, rfl, ?_, fun j u hj => ?_⟩⟩, hl, hm, .inr ⟨_, _, hx.1, by simp [strs]; omega⟩, .inr ⟨_, by rw [hx.1]; unfold strs; rw [List.map_map]; rfl⟩, fun x hx => ?_⟩
    · rw [List.length_map, List.length_map, List.length_take]; omega
    · have := hcell 0 (by omega)
      have := block_lt_of_cell this
      rwa [block_of_add] at this
    · have hjl : j < len := by
        rcases Nat.lt_or_ge j len with h | h
        · exact h
        · rw [List.getElem?_eq_none (by rw [List.length_map, List.length_map, List.length_take]; omega)] at hj; cases hj
      have hjz : j < ss.length := by omega
      rw [hcell j hjz]
      rw [List.getElem?_map, List.getElem?_map, List.getElem?_take, if_pos hjl, List.getElem?_eq_getElem hjz] at hj
      simpa [List.getD, List.getElem?_eq_getElem hjz, VS, S_of] using hj
    · obtain ⟨s, hs, rfl⟩ := List.mem_map.1 hx
      have := hws s (List.mem_of_mem_take hs)
      simpa using this

theorem flat_cells (a : Addr) (w : World) (f : Nat → List UInt8) : ∀ n : Nat, (∀ i, i < n → (f i).length = 16) → (∀ i, i < n → ∀ j v, (BV (f i))[j]? = some v → w.cell? (a.add (i * 16 + j)) = some v) →
    (BV ((List.range n).map f).flatten).length = n * 16 ∧ ∀ j v, (BV ((List.range n).map f).flatten)[j]? = some v → w.cell? (a.add j) = some v
  | 0, _, _ => ⟨rfl, fun j v h => by simp [BV] at h⟩
  | n + 1, h16, hc => by
    obtain ⟨i1, i2⟩ := flat_cells a w f n (fun i hi => h16 i (by omega)) (fun i hi => hc i (by omega))
    have he : BV ((List.range (n + 1)).map f).flatten = BV ((List.range n).map f).flatten ++ BV (f n) := by
      rw [List.range_succ, List.map_append, List.flatten_append, BV_append]; simp
    rw [he]
    have hl := h16 n (by omega)
    refine ⟨by rw [List.length_append, i1, BV_len, hl]; omega, fun j v hj => ?_⟩
    rcases Nat.lt_or_ge j (n * 16) with hlt | hge
    · rw [List.getElem?_append_left (by rw [i1]; exact hlt)] at hj
      exact i2 j v hj
    · rw [List.getElem?_append_right (by rw [i1]; exact hge), i1] at hj
      have := hc n (by omega) _ v hj
      rwa [show n * 16 + (j - n * 16) = j by omega] at this

theorem digest_bytes {base : Nat} {spare : Nat → Bool} {held : Bool} {fuel : Nat} {cs : List Value} {x : DataW H × List MemPlace} (h : DataW.trod enc Try.prog W base spare held fuel 57 cs = some x) :
    ∃ b : List UInt8, b.length = 16 ∧ cs = BV b := by
  obtain ⟨xs, m, rfl, rfl, hcl, hxl, hel⟩ := DataW.trod_array Try.underlying57 h
  have hcs : Try.prog.cellsOf 57 = 16 := by kernel_rfl
  have hc1 : Try.prog.cellsOf 5 = 1 := by kernel_rfl
  rw [hcs] at hcl
  rw [hc1] at hel
  have each : ∀ i, i < 16 → ∃ c : UInt8, cs[i]? = some (.int .u8 (c.toNat : Int)) := fun i hi => by
    have h1 := hel i hi
    rw [Nat.mul_one, List.getElem?_eq_getElem (by omega)] at h1
    obtain ⟨z, hz, _, hw⟩ := DataW.trod_int Try.underlying5 h1
    refine ⟨UInt8.ofNat z.toNat, ?_⟩
    rw [← byte_of_wf hw]
    have h2 := congrArg (fun l => l[0]?) hz
    simpa using h2
  obtain ⟨f, hf⟩ := Deep.choose_lt (α := UInt8) (p := fun i c => cs[i]? = some (.int .u8 (c.toNat : Int))) each
  refine ⟨(List.range 16).map f, by simp, ?_⟩
  apply List.ext_getElem?
  intro i
  by_cases hi : i < 16
  · rw [hf i hi, BV_get _ i (by simpa using hi)]
    simp
  · rw [List.getElem?_eq_none (by omega), List.getElem?_eq_none (by rw [BV_len]; simp; omega)]

/-- a []Digest that came in -/
theorem open_digestRow {base : Nat} {v : Value} {d : DataW H} {ps : List MemPlace} (hval : Value.okWide Try.prog W .any base 24 v) (h : DataW.Trod enc Try.prog W 0 (fun _ => true) true 24 v d ps) :
    ∃ A n c, ∃ ds : List (List UInt8), v = .slice A n c ∧ Reads W W.heap.size 16 A n (BV ds.flatten) ∧ n ≤ c ∧ c ≤ maxLen ∧ Capped d c ∧ n = ds.length ∧ ∀ x ∈ ds, x.length = 16 := by
  obtain ⟨a0, len, cap, rfl⟩ := okWide_slice Try.underlying24 hval
  obtain ⟨fuel, hf⟩ := h
  have hcs16 : Try.prog.cellsOf 57 = 16 := by kernel_rfl
  rcases Deep.open_slice Try.underlying24 hf with ⟨hcs, hx⟩ | ⟨a, len', cap', m, k, D, Pl, hcs, _, hl, hm, hmm, hx, hel⟩
  · simp [Value.cells] at hcs
    obtain ⟨rfl, rfl, rfl⟩ := hcs
    simp only [Prod.mk.injEq] at hx
    exact ⟨none, 0, 0, [], rfl, ⟨rfl, fun h => absurd h (by omega)⟩, Nat.le_refl _, by unfold maxLen; omega, .inl ⟨hx.1, rfl⟩, rfl, by simp⟩
  · simp [Value.cells] at hcs
    obtain ⟨rfl, rfl, rfl⟩ := hcs
    simp only [if_true] at hmm
    subst hmm
    simp only [Prod.mk.injEq] at hx
    rw [hcs16] at hel
    obtain ⟨f, hfn⟩ := Deep.choose_lt (α := List UInt8) (n := len) (p := fun i b => b.length = 16 ∧ ∀ j v, (BV b)[j]? = some v → W.cell? (a.add (i * 16 + j)) = some v) (fun i hi => by
      obtain ⟨cs', h1, h2⟩ := hel i (by omega)
      obtain ⟨b, hb, rfl⟩ := digest_bytes h2
      obtain ⟨_, hcl, hcc⟩ := World.cells?_some h1
      refine ⟨b, hb, fun j v hj => ?_⟩
      have hj' : j < 16 := by
        rcases Nat.lt_or_ge j 16 with h | h
        · exact h
        · rw [List.getElem?_eq_none (by omega)] at hj; cases hj
      have := hcc j hj'
      rw [add_of_add] at this
      rw [this]; exact hj)
    obtain ⟨i1, i2⟩ := flat_cells a W f len (fun i hi => (hfn i hi).1) (fun i hi => (hfn i hi).2)
    refine ⟨some a, len, m, (List.range len).map f, rfl, ⟨i1, fun hn => ⟨a, rfl, ?_, i2⟩⟩, hl, hm, .inr ⟨_, _, hx.1, by simp; omega⟩, by simp, ?_⟩
    · have h0 : 0 < (BV ((List.range len).map f).flatten).length := by rw [i1]; omega
      have := i2 0 _ (List.getElem?_eq_getElem h0)
      have := block_lt_of_cell this
      rwa [block_of_add] at this
    · intro x hx
      obtain ⟨i, hi, rfl⟩ := List.mem_map.1 hx
      exact (hfn i (List.mem_range.1 hi)).1
end

end Go.Proofs.Ytbkpnfejhaedhaa
