/-
  Running text: plainly; pieces in memory.
-/
import Derived.Test.YtbcfndhnopmbbaaTabTb
namespace Go.Proofs.Ytbcfndhnopmbbaa
open Go.RowKit
set_option linter.unusedVariables false
set_option linter.unusedSimpArgs false
namespace Tb
abbrev Run := Int × List UInt8
def flat (l : List Run) : Text := l.flatMap fun r => r.2.map fun c => (r.1, c)
def runOk (r : Run) : Bool := langOk r.1 && r.2.all written
def symE (l : List Run) : Int := if l.all runOk = true then (if 2048 < (flat l).length then 4 else 0) else 1
def symT (l : List Run) : Text := if l.all runOk = true ∧ (flat l).length ≤ 2048 then flat l else []
def gstep (rs : List Run) (x : Int × UInt8) : List Run :=
  match rs.getLast? with
  | some r => if r.1 = x.1 then rs.dropLast ++ [(r.1, r.2 ++ [x.2])] else rs ++ [(x.1, [x.2])]
  | none => [(x.1, [x.2])]
def groups (l : Text) : List Run := l.foldl gstep []
def runsT (l : Text) : List Run := if l.all symOk = true then groups l else []
theorem flat_append (a b : List Run) : flat (a ++ b) = flat a ++ flat b := by unfold flat; rw [List.flatMap_append]
theorem flat_one (r : Run) : flat [r] = r.2.map fun c => (r.1, c) := by unfold flat; simp
theorem gstep_nil (x : Int × UInt8) : gstep [] x = [(x.1, [x.2])] := rfl
theorem gstep_snoc (rs : List Run) (r : Run) (x : Int × UInt8) : gstep (rs ++ [r]) x = if r.1 = x.1 then rs ++ [(r.1, r.2 ++ [x.2])] else rs ++ [r] ++ [(x.1, [x.2])] := by
  unfold gstep
  rw [List.getLast?_concat, List.dropLast_concat]
theorem groups_snoc (l : Text) (x : Int × UInt8) : groups (l ++ [x]) = gstep (groups l) x := by
  unfold groups
  rw [List.foldl_append]
  rfl
theorem groups_take (l : Text) (i : Nat) (h : i < l.length) : groups (l.take (i + 1)) = gstep (groups (l.take i)) (at_ l i) := by
  have e : at_ l i = l[i] := by unfold at_; simp [List.getD, h]
  rw [List.take_succ_eq_append_getElem h, groups_snoc, e]
/-- what holds at a place: the pieces, and the text of the one that goes on -/
def Inv (l : Text) (i : Nat) (rs : List Run) (tx : List UInt8) : Prop :=
  (i < l.length → groups (l.take (i + 1)) = rs ++ [((at_ l i).1, tx ++ [(at_ l i).2])]) ∧ (l.length ≤ i → rs = groups l)
theorem Inv.start (l : Text) : Inv l 0 [] [] := by
  refine ⟨fun h => ?_, fun h => ?_⟩
  · rw [groups_take l 0 h, List.take_zero]
    rfl
  · have : l = [] := List.eq_nil_of_length_eq_zero (by omega)
    rw [this]
    rfl
/-- the piece ends here -/
theorem Inv.close {l : Text} {i : Nat} {rs : List Run} {tx : List UInt8} (h : Inv l i rs tx) (hi : i < l.length) (hb : i + 1 = l.length ∨ (at_ l (i + 1)).1 ≠ (at_ l i).1) : Inv l (i + 1) (rs ++ [((at_ l i).1, tx ++ [(at_ l i).2])]) [] := by
  have h1 := h.1 hi
  refine ⟨fun h2 => ?_, fun h2 => ?_⟩
  · rw [groups_take l (i + 1) h2, h1, gstep_snoc, if_neg]
    · rfl
    · intro e
      rcases hb with hb | hb
      · omega
      · exact hb e.symm
  · rw [← h1, List.take_of_length_le (by omega)]
/-- the piece goes on -/
theorem Inv.more {l : Text} {i : Nat} {rs : List Run} {tx : List UInt8} (h : Inv l i rs tx) (hi : i + 1 < l.length) (hb : (at_ l (i + 1)).1 = (at_ l i).1) : Inv l (i + 1) rs (tx ++ [(at_ l i).2]) := by
  have h1 := h.1 (by omega)
  refine ⟨fun h2 => ?_, fun h2 => by omega⟩
  rw [groups_take l (i + 1) h2, h1, gstep_snoc, if_pos hb.symm, hb]
theorem flat_gstep (rs : List Run) (x : Int × UInt8) : flat (gstep rs x) = flat rs ++ [x] := by
  rcases List.eq_nil_or_concat rs with h | ⟨rs', r, h⟩
  · subst h
    rfl
  · rw [List.concat_eq_append] at h
    subst h
    rw [gstep_snoc]
    split
    · rename_i h
      rw [flat_append, flat_append, flat_one, flat_one, List.map_append, List.append_assoc]
      congr 2
      simp [h]
    · rw [flat_append, flat_one]
      rfl
theorem flat_foldl (l : Text) (rs : List Run) : flat (l.foldl gstep rs) = flat rs ++ l := by
  induction l generalizing rs with
  | nil => simp
  | cons x l ih => rw [List.foldl_cons, ih, flat_gstep, List.append_assoc]; rfl
theorem flat_groups (l : Text) : flat (groups l) = l := by
  unfold groups
  rw [flat_foldl]
  rfl
theorem gstep_ne (rs : List Run) (x : Int × UInt8) (h : ∀ r ∈ rs, r.2 ≠ []) : ∀ r ∈ gstep rs x, r.2 ≠ [] := by
  rcases List.eq_nil_or_concat rs with e | ⟨rs', r', e⟩
  · subst e
    intro r hr
    rw [gstep_nil, List.mem_singleton] at hr
    subst hr
    simp
  · rw [List.concat_eq_append] at e
    subst e
    rw [gstep_snoc]
    intro r hr
    split at hr
    · rcases List.mem_append.1 hr with h1 | h1
      · exact h r (List.mem_append_left _ h1)
      · rw [List.mem_singleton] at h1
        subst h1
        simp
    · rcases List.mem_append.1 hr with h1 | h1
      · exact h r h1
      · rw [List.mem_singleton] at h1
        subst h1
        simp
theorem groups_ne (l : Text) : ∀ r ∈ groups l, r.2 ≠ [] := by
  unfold groups
  have go : ∀ (l : Text) (rs : List Run), (∀ r ∈ rs, r.2 ≠ []) → ∀ r ∈ l.foldl gstep rs, r.2 ≠ [] := by
    intro l
    induction l with
    | nil => exact fun rs h => h
    | cons x l ih => exact fun rs h => ih _ (gstep_ne rs x h)
  exact go l [] (fun r hr => by cases hr)
theorem mem_flat {l : List Run} {r : Run} {c : UInt8} (hr : r ∈ l) (hc : c ∈ r.2) : (r.1, c) ∈ flat l := by
  unfold flat
  rw [List.mem_flatMap]
  exact ⟨r, hr, List.mem_map.2 ⟨c, hc, rfl⟩⟩
theorem groups_ok {l : Text} (h : l.all symOk = true) : (groups l).all runOk = true := by
  rw [List.all_eq_true] at h ⊢
  intro r hr
  have hf : ∀ c ∈ r.2, symOk (r.1, c) = true := fun c hc => h _ (by
    have := mem_flat hr hc
    rwa [flat_groups] at this)
  unfold symOk at hf
  unfold runOk
  rw [Bool.and_eq_true, List.all_eq_true]
  refine ⟨?_, fun c hc => ?_⟩
  · obtain ⟨c, hc⟩ := List.exists_mem_of_ne_nil r.2 (groups_ne l r hr)
    have := hf c hc
    rw [Bool.and_eq_true] at this
    exact this.1
  · have := hf c hc
    rw [Bool.and_eq_true] at this
    exact this.2
theorem symT_ok (l : List Run) : (symT l).all symOk = true ∧ (symT l).length ≤ 2048 := by
  unfold symT
  split
  · rename_i h
    refine ⟨?_, h.2⟩
    rw [List.all_eq_true]
    intro x hx
    unfold flat at hx
    rw [List.mem_flatMap] at hx
    obtain ⟨r, hr, hx⟩ := hx
    obtain ⟨c, hc, rfl⟩ := List.mem_map.1 hx
    have := (List.all_eq_true.1 h.1) r hr
    unfold runOk at this
    rw [Bool.and_eq_true, List.all_eq_true] at this
    unfold symOk
    rw [Bool.and_eq_true]
    exact ⟨this.1, this.2 c hc⟩
  · exact ⟨rfl, by simp⟩
/-- Symbols leads back -/
theorem back_ok {a : Text} (h : a.all symOk = true) (hl : a.length ≤ 2048) : symE (runsT a) = 0 ∧ symT (runsT a) = a := by
  have e : runsT a = groups a := if_pos h
  rw [e]
  unfold symE symT
  rw [flat_groups]
  rw [if_pos (groups_ok h), if_neg (by omega), if_pos ⟨groups_ok h, hl⟩]
  exact ⟨rfl, rfl⟩
theorem flat_len_mem {l : List Run} {r : Run} (h : r ∈ l) : r.2.length ≤ (flat l).length := by
  induction l with
  | nil => cases h
  | cons x l ih =>
    have e : flat (x :: l) = (x.2.map fun c => (x.1, c)) ++ flat l := by unfold flat; rw [List.flatMap_cons]
    rw [e, List.length_append, List.length_map]
    rcases List.mem_cons.1 h with h | h
    · subst h; omega
    · have := ih h; omega
theorem groups_len (l : Text) : (groups l).length ≤ l.length := by
  have h : ∀ rs : List Run, (∀ r ∈ rs, r.2 ≠ []) → rs.length ≤ (flat rs).length := by
    intro rs
    induction rs with
    | nil => intro _; simp
    | cons x rs ih =>
      intro h
      have e : flat (x :: rs) = (x.2.map fun c => (x.1, c)) ++ flat rs := by unfold flat; rw [List.flatMap_cons]
      rw [e, List.length_append, List.length_map, List.length_cons]
      have h1 := ih fun r hr => h r (List.mem_cons_of_mem _ hr)
      have h2 : 0 < x.2.length := List.length_pos_iff.2 (h x (by simp))
      omega
  have := h (groups l) (groups_ne l)
  rwa [flat_groups] at this
end Tb
/-- a piece as cells -/
def rnC (r : Tb.Run) : List Value := [.int .i64 r.1, .string (S r.2)]
def RNC (l : List Tb.Run) : List Value := l.flatMap rnC
theorem RNC_len (es : List Tb.Run) : (RNC es).length = es.length * 2 := by
  induction es with
  | nil => rfl
  | cons e r ih =>
    unfold RNC at ih ⊢
    rw [List.flatMap_cons, List.length_append, ih, List.length_cons]
    show 2 + _ = _
    omega
theorem RNC_get (es : List Tb.Run) (k j : Nat) (h : k < es.length) (hj : j < 2) : (RNC es)[k * 2 + j]? = (rnC es[k])[j]? := by
  induction es generalizing k with
  | nil => exact absurd h (by simp)
  | cons e r ih =>
    unfold RNC at ih ⊢
    rw [List.flatMap_cons]
    cases k with
    | zero => rw [List.getElem?_append_left (by show 0 * 2 + j < 2; omega), Nat.zero_mul, Nat.zero_add]; rfl
    | succ k =>
      have h' : k < r.length := by simpa using h
      rw [List.getElem?_append_right (by show 2 ≤ _; omega)]
      show (r.flatMap rnC)[(k + 1) * 2 + j - 2]? = _
      rw [show (k + 1) * 2 + j - 2 = k * 2 + j by omega, ih k h']
      rfl
theorem RNC_append (a b : List Tb.Run) : RNC (a ++ b) = RNC a ++ RNC b := by unfold RNC; rw [List.flatMap_append]
theorem RNC_one (l : List Tb.Run) : ∀ u ∈ RNC l, u.oneCell' = true := by
  intro u hu
  unfold RNC at hu
  rw [List.mem_flatMap] at hu
  obtain ⟨r, _, hu⟩ := hu
  unfold rnC at hu
  rcases List.mem_cons.1 hu with h | h
  · subst h; rfl
  · rw [List.mem_singleton] at h; subst h; rfl
/-- pieces of running text in memory below B -/
def RunsAt (w : World) (B : Nat) (A : Option Addr) (l : List Tb.Run) : Prop := Reads w B 2 A l.length (RNC l) ∧ l.length ≤ 100000 ∧ (Tb.flat l).length ≤ 100000
theorem RunsAt.below {w w' : World} {B : Nat} {A : Option Addr} {l : List Tb.Run} (h : RunsAt w B A l) (hb : Below B w w') : RunsAt w' B A l := ⟨h.1.below hb, h.2⟩
theorem RunsAt.more {w : World} {B B' : Nat} {A : Option Addr} {l : List Tb.Run} (h : RunsAt w B A l) (hB : B ≤ B') : RunsAt w B' A l := ⟨h.1.more hB, h.2⟩
theorem RunsAt.same {w w' : World} {A : Option Addr} {l : List Tb.Run} (h : RunsAt w w.heap.size A l) (hb : Below w.heap.size w w') : RunsAt w' w'.heap.size A l := (h.below hb).more hb.size
theorem reads_run {w : World} {B : Nat} {A : Option Addr} {l : List Tb.Run} (h : Reads w B 2 A l.length (RNC l)) (k : Nat) (hk : k < l.length) :
    ∃ ad, A = some ad ∧ ad.block < B ∧ w.cell? (ad.add (k * 2)) = some (.int .i64 l[k].1) ∧ w.cell? ⟨(ad.add (k * 2)).block, (ad.add (k * 2)).off + 1, none⟩ = some (.string (S l[k].2)) := by
  obtain ⟨ad, hA, hb, hc⟩ := h.2 (by omega)
  have h1 := hc (k * 2 + 1) _ (by rw [RNC_get l k 1 hk (by decide)]; rfl)
  rw [← add_of_add] at h1
  exact ⟨ad, hA, hb, hc _ _ (by rw [show k * 2 = k * 2 + 0 from rfl, RNC_get l k 0 hk (by decide)]; rfl), h1⟩
theorem run_cells (r : Tb.Run) (w : World) (ad : Addr) (k : Nat) (h0 : w.cell? (ad.add (k * 2)) = some (.int .i64 r.1)) (h1 : w.cell? ⟨(ad.add (k * 2)).block, (ad.add (k * 2)).off + 1, none⟩ = some (.string (S r.2))) :
    ∀ (j : Nat) (v : Value), ([.int .i64 r.1, .string (S r.2)] : List Value)[j]? = some v → w.cell? ((ad.add (k * 2)).add j) = some v := by
  intro j v hv
  match j, hv with
  | 0, hv => rw [show (ad.add (k * 2)).add 0 = ad.add (k * 2) by rw [add_of_add, Nat.add_zero], h0]; exact hv
  | 1, hv =>
    have e : (ad.add (k * 2)).add 1 = ⟨(ad.add (k * 2)).block, (ad.add (k * 2)).off + 1, none⟩ := rfl
    rw [e, h1]
    exact hv
  | j + 2, hv => exact absurd hv (by simp)
theorem runInfo3 : (Try.prog.info? 91).map (fun i => (i.zero, i.size, i.bytes)) = some (some (.agg #[.int .i64 0, .string { data := #[] }]), 2, 24) := by kernel_rfl
theorem runInfo : (Try.prog.info? 91).map (·.size) = some 2 := by kernel_rfl
theorem runs_push (W : World) (base g : Nat) (v : Value) (l : List Tb.Run) (r : Tb.Run) (hown : W.ownsRow base 91 2 v l.length (RNC l)) (hg : Blk W g 91 #[.int .i64 r.1, .string (S r.2)]) (hbase : base ≤ W.heap.size) (hlen : l.length ≤ 100000) (ty : TypeId) :
    ∃ v' W', (Builtin.append_ #[36, 36] ty #[v, .slice (some ⟨g, 0, none⟩) 1 1]).run Try.prog W = .ok v' W' ∧ W'.ownsRow base 91 2 v' (l ++ [r]).length (RNC (l ++ [r])) ∧ W.grownBy W' v.ownBlock ∧ (v'.ownBlock = v.ownBlock ∨ v'.ownBlock = some W.heap.size) := by
  obtain ⟨j0, hj, hy0, hy1, hy2⟩ := info_parts runInfo3
  obtain ⟨v', w', hrun, hown', hgrow', hat'⟩ := run_append_any (P := Try.prog) W base 36 ty 91 j0 (.agg #[.int .i64 0, .string { data := #[] }]) 2 24 Try.underlying36 hj hy0 hy1 hy2 rfl (by omega)
    v l.length (RNC l) hown W.heap.size (some ⟨g, 0, none⟩) 1 1 (RNC [r])
    ⟨rfl, fun _ => ⟨_, rfl, hg.lt, fun j u hu => by
      have h2 := Blk.cell hg j
      rw [show ((⟨g, 0, none⟩ : Addr).add j) = ⟨g, j, none⟩ by unfold Addr.add; split <;> simp_all, h2, ← hu]
      rw [List.getElem?_toArray]
      rfl⟩⟩
    (RNC_one [r]) (by unfold maxLen; omega) (by omega) hbase
  refine ⟨v', w', hrun, ?_, hgrow', hat'⟩
  rw [RNC_append, List.length_append]
  exact hown'
end Go.Proofs.Ytbcfndhnopmbbaa
