/-
  From a walk to the row: a law that answers true and leaves what was there as it was; arguments opened into what the walks read; what the listed tables give.
-/
import Derived.Test.YtedgjpoejoepjaaDoorSane
import Derived.Test.YtedgjpoejoepjaaDoorRefSum
import Derived.Test.YtedgjpoejoepjaaDoorRows
import Derived.WalkKit
import Derived.ProofKit
import Derived.OpenShut
import Derived.JoinedCond
import Derived.Carry
import Derived.WideKeyArgs
import Derived.SliceStrings
import Derived.ChangeMaps5
import Derived.Deep.Slices
import Derived.SizedLaws
import Derived.Deep.CondSized
import Derived.LaidMore
import Derived.Stop.Joined
namespace Go.Proofs.YtedgjpoejoepjaaDoor
open Go.ChangeShapes Go.WideShapes Go.ChangeAt Go.WideMaps Go.WideElems Go.RowKit
set_option linter.unusedVariables false
set_option linter.unusedSimpArgs false

set_option linter.unusedVariables false
set_option linter.unusedSimpArgs false
theorem own : ownKnob Tryd.prog.godebug = none := by kernel_rfl
theorem laidOut : laidOutB Tryd.prog = true := by kernel_rfl
section
variable {H : Type} {enc : TypeId × Value → H} {P : Program}
theorem trodAll_below (hl : laidOutB P = true) {W W' : World} (hb : Below W.heap.size W W') {sp : Nat → Bool} : ∀ {ts : List TypeId} {vs : List Value} {ds : List (DataW H)} {ps : List MemPlace},
    (ts.all fun t => P.readableRec t && decide (t < P.types.size)) = true → DataW.TrodAll enc P W 0 (fun _ => true) true ts vs ds ps → (∀ p ∈ ps, p.block < W.heap.size) → (∀ p ∈ ps, sp p.block = true) → DataW.TrodAll enc P W' 0 sp true ts vs ds ps
  | [], [], [], _, _, h, _, _ => h
  | t :: ts, _ :: _, _ :: _, _, hp, ⟨p, q, h1, h2, e⟩, hlt, hs => by
    simp only [List.all_cons, Bool.and_eq_true, decide_eq_true_eq] at hp
    refine ⟨p, q, WideElems.Trod_stays hl hp.1.1 hp.1.2 h1 (fun x hx => hb.same (hlt x (by rw [e]; exact List.mem_append_left _ hx))) (fun x hx => hs x (by rw [e]; exact List.mem_append_left _ hx)), ?_, e⟩
    exact trodAll_below hl hb hp.2 h2 (fun x hx => hlt x (by rw [e]; exact List.mem_append_right _ hx)) (fun x hx => hs x (by rw [e]; exact List.mem_append_right _ hx))
/-- the row's post of a law: it answered true, and of what was there nothing has changed -/
theorem post_law {f : Func} {s : ChangeSpec} {W W' : World} {args : Array Value} {ds gs : List (DataW H)} {before : List MemPlace} {tb : TypeId}
    (hl : laidOutB P = true) (hp : (f.params.toList.all fun t => P.readableRec t && decide (t < P.types.size)) = true)
    (hv : s.vars = []) (hr : f.resultTypes = #[tb]) (htb : P.underlying tb = some .bool)
    (hfn : s.fn H ds = { results := [.lit (.bool true)], args := ds })
    (hW : DataW.Whole enc P f.params.toList s.vars false W args.toList ds gs before) (hb : Below W.heap.size W W') :
    s.post enc P f false true false false W args (.bool true) W' := by
  have hlt : ∀ p ∈ before, p.block < W.heap.size := fun p hp => hW.lt p hp
  have hW' := hW
  obtain ⟨p, q, hA, hV, rfl, hfz, hnd⟩ := hW
  rw [hv] at hV
  obtain ⟨rfl, rfl⟩ := trodVars_none hV
  refine post_of_below (pa := p) (pv := []) hW' ?_ ?_ ?_ rfl hb ?_
  · intro b sp hd
    rw [List.append_nil, hfn, hr]
    exact trodAll_cons_mk (shut_bool htb _) trodAll_mk0
  · intro sp hsp
    rw [List.append_nil, hfn]
    exact trodAll_below hl hb hp hA (fun x hx => hlt x (by simpa using hx)) (fun x hx => hsp x (by simpa using hx))
  · intro sp hsp
    rw [List.append_nil, hfn, hv]
    rfl
  · exact ok_one hr rfl (okWide_bool_mk htb _)
end
section
variable {H : Type} {enc : TypeId × Value → H} {W : World}
theorem byte_of_wf {z : Int} (h : (Lit.int .u8 z).wf = true) : z = ((UInt8.ofNat z.toNat).toNat : Int) := by
  have hx : 0 ≤ z ∧ z ≤ 255 := by simpa [Lit.wf, IntKind.min, IntKind.max, IntKind.signed, IntKind.bits] using h
  simp only [UInt8.toNat_ofNat']
  omega
/-- the datum of a slice of capacity c -/
def Capped (d : DataW H) (c : Nat) : Prop := (d = .nil ∧ c = 0) ∨ ∃ elems spare, d = .slice elems spare ∧ elems.length + spare.length = c
theorem capped_sized {P : Program} {ts : List TypeId} {ds : List (DataW H)} (h : (DataW.weightsEach P ts ds).all (· ≤ reachBytes) = true) {j : Nat} {t e : TypeId} {d : DataW H} {c : Nat} (ht : ts[j]? = some t) (hd : ds[j]? = some d) (hu : P.underlying t = some (.slice e)) (hc : Capped d c) : c * P.bytesOf e ≤ 140737488351232 := by
  rcases hc with ⟨_, rfl⟩ | ⟨el, sp, rfl, rfl⟩
  · simp
  · exact sized_slice h ht hd hu
theorem bytes_u8 : Tryd.prog.bytesOf 5 = 1 := by kernel_rfl
theorem bytes_string : Tryd.prog.bytesOf 9 = 16 := by kernel_rfl
/-- a []byte that came in -/
theorem open_bytes {base : Nat} {v : Value} {d : DataW H} {ps : List MemPlace} (hval : Value.okWide Tryd.prog W .any base 51 v) (h : DataW.Trod enc Tryd.prog W 0 (fun _ => true) true 51 v d ps) :
    ∃ A n c l, v = .slice A n c ∧ Reads W W.heap.size 1 A n (BV l) ∧ n ≤ c ∧ c ≤ maxLen ∧ Capped d c := by
  obtain ⟨a0, len, cap, rfl⟩ := okWide_slice Tryd.underlying51 hval
  obtain ⟨fuel, hf⟩ := h
  rcases open_ints Tryd.underlying51 Tryd.underlying5 (by kernel_rfl) hf with ⟨hcs, hx⟩ | ⟨a, len', cap', zs, hcs, _, hl, hm, hz, hx, hcell, hwz⟩
  · simp [Value.cells] at hcs
    obtain ⟨rfl, rfl, rfl⟩ := hcs
    simp only [Prod.mk.injEq] at hx
    exact ⟨none, 0, 0, [], rfl, Reads.none_, Nat.le_refl _, by unfold maxLen; omega, .inl ⟨hx.1, rfl⟩⟩
  · simp [Value.cells] at hcs
    obtain ⟨rfl, rfl, rfl⟩ := hcs
    simp only [if_true] at hz
    simp only [Prod.mk.injEq] at hx
    refine ⟨some a, len, cap, (zs.take len).map (fun z => UInt8.ofNat z.toNat), rfl, ⟨?_, fun hn => ⟨a, rfl, ?_, fun j u hj => ?_⟩⟩, hl, hm, .inr ⟨_, _, hx.1, by simp [lits]; omega⟩⟩
    · rw [BV_len, List.length_map, List.length_take]; omega
    · have := hcell 0 (by omega)
      have := block_lt_of_cell this
      rwa [block_of_add] at this
    · have hjl : j < len := by
        rcases Nat.lt_or_ge j len with h | h
        · exact h
        · rw [List.getElem?_eq_none (by rw [BV_len, List.length_map, List.length_take]; omega)] at hj; cases hj
      have hjz : j < zs.length := by omega
      rw [hcell j hjz]
      rw [BV_get _ j (by rw [List.length_map, List.length_take]; omega)] at hj
      injection hj with hj
      rw [← hj]
      simp only [List.getElem_map, List.getElem_take, List.getD, List.getElem?_eq_getElem hjz, Option.getD_some]
      rw [← byte_of_wf (hwz _ (List.getElem_mem hjz))]
/-- a []string that came in -/
theorem open_textRow {base : Nat} {v : Value} {d : DataW H} {ps : List MemPlace} (hval : Value.okWide Tryd.prog W .any base 62 v) (h : DataW.Trod enc Tryd.prog W 0 (fun _ => true) true 62 v d ps) :
    ∃ A n c, ∃ xs : List (List UInt8), v = .slice A n c ∧ Reads W W.heap.size 1 A n (xs.map VS) ∧ n ≤ c ∧ c ≤ maxLen ∧ Capped d c ∧ ((d = .nil ∧ xs = []) ∨ ∃ sp, d = .slice (xs.map fun x => .lit (.string x)) sp) ∧ ∀ x ∈ xs, x.length ≤ maxLen := by
  obtain ⟨a0, len, cap, rfl⟩ := okWide_slice Tryd.underlying62 hval
  obtain ⟨fuel, hf⟩ := h
  rcases open_strings Tryd.underlying62 Tryd.underlying9 (by kernel_rfl) hf with ⟨hcs, hx⟩ | ⟨a, len', cap', ss, hcs, _, hl, hm, hz, hx, hcell, hws⟩
  · simp [Value.cells] at hcs
    obtain ⟨rfl, rfl, rfl⟩ := hcs
    simp only [Prod.mk.injEq] at hx
    exact ⟨none, 0, 0, [], rfl, Reads.none_, Nat.le_refl _, by unfold maxLen; omega, .inl ⟨hx.1, rfl⟩, .inl ⟨hx.1, rfl⟩, by simp⟩
  · simp [Value.cells] at hcs
    obtain ⟨rfl, rfl, rfl⟩ := hcs
    simp only [if_true] at hz
    simp only [Prod.mk.injEq] at hx
    refine ⟨some a, len, cap, (ss.take len).map (fun s => s.data.toList), rfl, ⟨?_, fun hn => ⟨a, rfl, ?_, fun j u hj => ?_⟩⟩, hl, hm, .inr ⟨_, _, hx.1, by simp [strs]; omega⟩, .inr ⟨_, by rw [hx.1]; unfold strs; rw [List.map_map]; rfl⟩, fun x hx => ?_⟩
    · rw [List.length_map, List.length_map, List.length_take]; omega
    · have := hcell 0 (by omega)
      have := block_lt_of_cell this
      rwa [block_of_add] at this
    · have hjl : j < len := by
        rcases Nat.lt_or_ge j len with h | h
        · exact h
        · rw [List.getElem?_eq_none (by rw [List.length_map, List.length_map, List.length_take]; omega)] at hj; cases hj
      have hjz : j < ss.length := by omega
      rw [hcell j hjz]
      rw [List.getElem?_map, List.getElem?_map, List.getElem?_take, if_pos hjl, List.getElem?_eq_getElem hjz] at hj
      simpa [List.getD, List.getElem?_eq_getElem hjz, VS, S_of] using hj
    · obtain ⟨s, hs, rfl⟩ := List.mem_map.1 hx
      have := hws s (List.mem_of_mem_take hs)
      simpa using this
end

/-- the datum of the table of round constants -/
def tableD {H : Type} : DataW H := .agg (Sha.K.map fun x => .lit (.int .u32 (x.toNat : Int)))
theorem row_of_table {W : World} {n : String} {g : Nat} {enc : TypeId × Value → Unit} {cs : Array Value} {f : Nat} {sp : Nat → Bool} {held : Bool} {b : Nat} {q : List MemPlace} (hg : Tryd.prog.globalNamed n = some g) (hv : W.var? Tryd.prog n = some cs)
    (hd : DataW.trod enc Tryd.prog W b sp held f 97 cs.toList = some (tableD, q)) : ∀ k, k < 64 → W.cell? ⟨g, k, none⟩ = some (U (Sha.K.getD k 0)) := by
  intro k hk
  obtain ⟨xs, m, rfl, hx, hlen, hn, hel⟩ := DataW.trod_array Tryd.underlying97 hd
  have c29 : Tryd.prog.cellsOf 75 = 1 := by kernel_rfl
  have hkk := hel k hk
  simp only [c29, Nat.mul_one] at hkk
  have hxk : xs[k]? = some (xs[k]'(by omega)) := List.getElem?_eq_getElem (by omega)
  rw [hxk] at hkk
  obtain ⟨z, e1, e2, _⟩ := DataW.trod_int Tryd.underlying75 hkk
  simp only [tableD, Prod.mk.injEq, DataW.agg.injEq] at hx
  have hK64 : Sha.K.length = 64 := rfl
  have h1 : (Sha.K.map fun x => (.lit (.int .u32 (x.toNat : Int)) : DataW Unit))[k]? = (xs.map (·.1))[k]? := by rw [hx.1]
  rw [List.getElem?_map, List.getElem?_map, hxk, e2, List.getElem?_eq_getElem (by omega)] at h1
  simp only [Option.map_some, Option.some.injEq, DataW.lit.injEq, Lit.int.injEq] at h1
  have hz : z = ((Sha.K.getD k 0).toNat : Int) := by
    rw [← h1.2, List.getD_eq_getElem?_getD, List.getElem?_eq_getElem (by omega)]
    rfl
  subst hz
  rw [World.var?_cell hg hv k]
  have hdk : cs.toList[k]? = some (Value.int .u32 ((Sha.K.getD k 0).toNat : Int)) := by
    have h2 : ((cs.toList.drop k).take 1)[0]? = some (Value.int .u32 ((Sha.K.getD k 0).toNat : Int)) := by rw [e1]; rfl
    rw [List.getElem?_take_of_lt (by omega), List.getElem?_drop] at h2
    simpa using h2
  simpa using hdk
end Go.Proofs.YtedgjpoejoepjaaDoor
