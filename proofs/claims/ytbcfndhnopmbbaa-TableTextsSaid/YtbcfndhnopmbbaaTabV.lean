/-
  Tables: those that the reference makes of a number, plainly; rules of the call's own in memory.
-/
import Derived.Test.YtbcfndhnopmbbaaTabU
namespace Go.Proofs.Ytbcfndhnopmbbaa
open Go.RowKit
set_option linter.unusedVariables false
set_option linter.unusedSimpArgs false
namespace Tb
def mkR (text : List UInt8) (wh : Int) (cells : List UInt8) : Rl := ⟨text, wh, ⟨cells, none, 0⟩⟩
def eB (b : Bs) : Bs := ⟨b.l, none, 0⟩
def eR (r : Rl) : Rl := mkR r.text r.wh r.cells.l
def eT (t : Tab) : Tab := ⟨t.r0.map eR, t.r1.map eR, eB t.dig, eB t.cap, eB t.num, eB t.fin, eB t.sw⟩
def letterR (n : Int) (lang i : Nat) : Rl := mkR [UInt8.ofNat (97 + i)] 0 [cellC n ((i + 3 * lang) % 26)]
def markB : List UInt8 := [32, 46, 44, 63, 39, 45]
def markR (n : Int) (i : Nat) : Rl := mkR [markB.getD i 0] 0 [cellC n (26 + i)]
def words : List (List UInt8) := [[116, 104], [101, 114], [116, 104, 101], [105, 110, 103], [97, 110, 100], [97, 110], [115, 116], [105, 110], [111, 117], [116, 105, 111, 110], [98, 101], [98, 117, 116]]
def manyOf (n : Int) (lang : Nat) : Nat := 3 + Ce.around (n.tdiv 630 + lang) 6
def wordOf (n : Int) (lang i : Nat) : Nat := Ce.around (n.tdiv 3780 + 5 * i + lang) 12
def whereOf (n : Int) (i : Nat) : Nat := Ce.around (n.tdiv 7 + i * i) 6 % 4
def shortCells (n : Int) (i : Nat) : List UInt8 :=
  if Ce.around (n.tdiv 17 + i) 23 = 0 then [cellC n (Ce.around (n.tdiv 19) 32), cellC n (Ce.around (n.tdiv 23) 32)]
  else if Ce.around (n.tdiv 11 + i) 3 = 0 then [cellC n 36, cellC n (Ce.around (n.tdiv 13 + i) 26)]
  else [cellC n (37 + i)]
def shortR (n : Int) (lang i : Nat) : Rl := mkR (words.getD (wordOf n lang i) []) (whereOf n i) (shortCells n i)
def rawR (n : Int) (lang : Nat) : List Rl := (List.range 26).map (letterR n lang) ++ (List.range 6).map (markR n) ++ (List.range (manyOf n lang)).map (shortR n lang)
/-- rules without those whose text and place stood before -/
def once (l : List Rl) : List Rl := l.foldl (fun out r => if key r ∈ out.map key then out else out ++ [r]) []
def swC (n : Int) : List UInt8 := if Ce.around (n.tdiv 29) 5 = 0 then [cellC n 35, cellC n 34] else [cellC n 35]
def tablesT (n : Int) : Tab := ⟨once (rawR n 0), once (rawR n 1), ⟨(List.range 10).map (cellC n), none, 0⟩, ⟨[cellC n 32], none, 0⟩, ⟨[cellC n 33], none, 0⟩, ⟨[cellC n 34], none, 0⟩, ⟨swC n, none, 0⟩⟩
theorem once_snoc (l : List Rl) (r : Rl) : once (l ++ [r]) = if key r ∈ (once l).map key then once l else once l ++ [r] := by
  unfold once
  rw [List.foldl_append]
  rfl
theorem key_eR (r : Rl) : key (eR r) = key r := rfl
theorem map_key_eR (l : List Rl) : (l.map eR).map key = l.map key := by rw [List.map_map]; rfl
theorem once_eR (l : List Rl) : once (l.map eR) = (once l).map eR := by
  refine Wr.snoc_ind (P := fun l => once (l.map eR) = (once l).map eR) rfl (fun l a ih => ?_) l
  rw [List.map_append, List.map_singleton, once_snoc, once_snoc, ih, map_key_eR, key_eR]
  split
  · rfl
  · rw [List.map_append]; rfl
end Tb
/-- rules whose cells lie outside the block of their row -/
def RuleOk (w : World) (r : Tb.Rl) : Prop := BsAt w w.heap.size r.cells ∧ 0 < r.cells.l.length ∧ r.text.length ≤ 1048576 ∧ Wr.inI r.wh
def RulesF (w : World) (v : Value) (rs : List Tb.Rl) : Prop := ∀ r ∈ rs, RuleOk w r ∧ ∀ a, r.cells.ad = some a → some a.block ≠ v.ownBlock
theorem RulesF.below {w w' : World} {v : Value} {xs : List Tb.Rl} (h : RulesF w v xs) (hb : Below w.heap.size w w') : RulesF w' v xs := fun x hx => ⟨⟨(h x hx).1.1.same hb, (h x hx).1.2⟩, (h x hx).2⟩
theorem RulesF.nil (w : World) (v : Value) : RulesF w v [] := fun x hx => by cases hx
theorem RulesF.snoc {w w' : World} {v v' : Value} {xs : List Tb.Rl} {x : Tb.Rl} (h : RulesF w v xs) (hx : RuleOk w x) (hxb : ∀ a, x.cells.ad = some a → some a.block ≠ v.ownBlock) (hg : w.grownBy w' v.ownBlock)
    (hat : v'.ownBlock = v.ownBlock ∨ v'.ownBlock = some w.heap.size) : RulesF w' v' (xs ++ [x]) := by
  have one : ∀ y : Tb.Rl, RuleOk w y → (∀ a, y.cells.ad = some a → some a.block ≠ v.ownBlock) → RuleOk w' y ∧ ∀ a, y.cells.ad = some a → some a.block ≠ v'.ownBlock := fun y hy hyb => by
    obtain ⟨ad, e, hb, _⟩ := hy.1.1.2 hy.2.1
    refine ⟨⟨hy.1.grown hg (fun a ha => hyb a ha), hy.2⟩, fun a ha => ?_⟩
    rcases hat with h1 | h1
    · rw [h1]; exact hyb a ha
    · rw [h1]
      rw [e] at ha
      injection ha with ha
      subst ha
      intro hc
      injection hc with hc
      omega
  intro y hy
  rcases List.mem_append.1 hy with hy | hy
  · exact one y (h y hy).1 (h y hy).2
  · rw [List.mem_singleton] at hy
    subst hy
    exact one y hx hxb
theorem RC_one (es : List Tb.Rl) : ∀ v ∈ RC es, v.oneCell' = true := by
  intro v hv
  unfold RC at hv
  obtain ⟨x, _, hx⟩ := List.mem_flatMap.1 hv
  simp only [ruC, List.mem_cons, List.not_mem_nil, or_false] at hx
  rcases hx with rfl | rfl | rfl <;> rfl
theorem ruleInfo3' : (Try.prog.info? 74).map (fun i => (i.zero, i.size, i.bytes)) = some (some (.agg #[.string { data := #[] }, .int .i64 0, .slice none 0 0]), 3, 48) := by kernel_rfl
/-- a rule more at the end of a row of rules -/
theorem rules_push (W : World) (base g : Nat) (v : Value) (rs : List Tb.Rl) (r : Tb.Rl) (hown : W.ownsRow base 74 3 v rs.length (RC rs)) (F : RulesF W v rs) (hg : Blk W g 74 (ruC r).toArray) (hr : RuleOk W r)
    (hrb : ∀ a, r.cells.ad = some a → some a.block ≠ v.ownBlock) (hbase : base ≤ W.heap.size) (hlen : rs.length ≤ 100000) (ty : TypeId) :
    ∃ v' W', (Builtin.append_ #[22, 22] ty #[v, .slice (some ⟨g, 0, none⟩) 1 1]).run Try.prog W = .ok v' W' ∧ W'.ownsRow base 74 3 v' (rs ++ [r]).length (RC (rs ++ [r])) ∧ RulesF W' v' (rs ++ [r]) ∧ W.grownBy W' v.ownBlock ∧ (v'.ownBlock = v.ownBlock ∨ v'.ownBlock = some W.heap.size) := by
  obtain ⟨j0, hj, hy0, hy1, hy2⟩ := info_parts ruleInfo3'
  obtain ⟨v', w', hrun, hown', hgrow', hat'⟩ := run_append_any (P := Try.prog) W base 22 ty 74 j0 (.agg #[.string { data := #[] }, .int .i64 0, .slice none 0 0]) 3 48 Try.underlying22 hj hy0 hy1 hy2 rfl (by omega)
    v rs.length (RC rs) hown W.heap.size (some ⟨g, 0, none⟩) 1 1 (ruC r)
    ⟨rfl, fun _ => ⟨_, rfl, hg.lt, fun j u hu => by
      have h2 := Blk.cell hg j
      rw [show ((⟨g, 0, none⟩ : Addr).add j) = ⟨g, j, none⟩ by unfold Addr.add; split <;> simp_all, h2, ← hu]
      rw [List.getElem?_toArray]⟩⟩
    (fun u hu => RC_one [r] u (by unfold RC; simpa using hu)) (by unfold maxLen; omega) (by omega) hbase
  refine ⟨v', w', hrun, ?_, F.snoc hr hrb hgrow' hat', hgrow', hat'⟩
  rw [RC_append, List.length_append]
  have e : RC [r] = ruC r := by unfold RC; simp
  rw [e]
  exact hown'
theorem reads_bytes (W : World) (g : Nat) (l : List UInt8) (h : Blk W g 5 (BV l).toArray) : Reads W W.heap.size 1 (some ⟨g, 0, none⟩) l.length (BV l) :=
  ⟨by rw [BV_len]; omega, fun _ => ⟨_, rfl, h.lt, fun j u hu => by
    have h2 := Blk.cell h j
    rw [show ((⟨g, 0, none⟩ : Addr).add j) = ⟨g, j, none⟩ by unfold Addr.add; split <;> simp_all, h2, ← hu]
    rw [List.getElem?_toArray]⟩⟩
theorem bs_of_blk (W : World) (g : Nat) (l : List UInt8) (h : Blk W g 5 (BV l).toArray) (hl : l.length ≤ 1048576) : BsAt W W.heap.size ⟨l, some ⟨g, 0, none⟩, l.length⟩ := ⟨reads_bytes W g l h, Nat.le_refl _, hl⟩
/-- a value that is a new row, from block b0 on -/
def RNew (b0 : Nat) (T : TypeId) (cs : List Value) (v : Value) (W : World) : Prop := ∃ g, v = .slice (some ⟨g, 0, none⟩) cs.length cs.length ∧ b0 ≤ g ∧ Blk W g T cs.toArray
theorem RNew.below {b0 : Nat} {T : TypeId} {cs : List Value} {v : Value} {W W' : World} (h : RNew b0 T cs v W) (hb : Below W.heap.size W W') : RNew b0 T cs v W' := by
  obtain ⟨g, h1, h2, h3⟩ := h
  exact ⟨g, h1, h2, h3.below hb h3.lt⟩
theorem RNew.grown {b0 : Nat} {T : TypeId} {cs : List Value} {v : Value} {W W' : World} {row : Option Nat} (h : RNew b0 T cs v W) (hg : W.grownBy W' row) (hr : ∀ g, row = some g → g < b0) : RNew b0 T cs v W' := by
  obtain ⟨g, h1, h2, h3⟩ := h
  exact ⟨g, h1, h2, h3.grown hg (fun e => by have := hr g e.symm; omega)⟩
end Go.Proofs.Ytbcfndhnopmbbaa
