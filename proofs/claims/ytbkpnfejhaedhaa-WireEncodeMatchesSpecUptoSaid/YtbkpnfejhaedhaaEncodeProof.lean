/-
  Proved: for every integer, string and lists WireEncodeMatchesSpec answers true (each encoding is that of the reference). Where what comes in is together of bulk at most 1048576.
-/
import Derived.Test.YtbkpnfejhaedhaaRows
import Derived.Test.YtbkpnfejhaedhaaWrap
import Derived.Test.YtbkpnfejhaedhaaUpto
import Derived.Test.YtbkpnfejhaedhaaEncode
namespace Go.Proofs.Ytbkpnfejhaedhaa.wireEncodeMatchesSpec
open Go.ChangeShapes Go.WideShapes Go.ChangeAt Go.RowKit Go.ChangeMaps
set_option linter.unusedVariables false
set_option linter.unusedSimpArgs false

theorem contract (H : Type) (enc : TypeId × Value → H) (W : World) (base : Nat) (args : Array Value) (ds gs : List (DataW H)) (before : List MemPlace)
    (hval : ∀ (j : Nat) t v, Try.f3.params[j]? = some t → args[j]? = some v → Value.okWide Try.prog W .any base t v)
    (hW : DataW.Whole enc Try.prog Try.f3.params.toList Rows.wireEncodeMatchesSpecSpec.vars false W args.toList ds gs before) (hk : Rows.uptoSmall H (ds ++ gs) = true)
    (hsz : (DataW.weightsEach Try.prog (Try.f3.params.toList ++ []) (ds ++ gs)).all (· ≤ reachBytes) = true) :
    Calls Try.prog 3 args W fun e W' => ∃ v, e = .returned v ∧ Rows.wireEncodeMatchesSpecSpec.post enc Try.prog Try.f3 false true false false W args v W' := by
  have hW' := hW
  obtain ⟨p, q, hA0, hV, rfl, hfz, hnd⟩ := hW
  have hA : DataW.TrodAll enc Try.prog W 0 (fun _ => true) true Try.f3.params.toList args.toList ds p := hA0
  rw [Try.params3] at hA hval hsz
  obtain ⟨v0, vs0, d0, ds0, p0, q0, hargs, rfl, rfl, h0, r0⟩ := trodAll_cons hA
  obtain ⟨v1, vs1, d1, ds1, p1, q1, rfl, rfl, rfl, h1, r1⟩ := trodAll_cons r0
  obtain ⟨v2, vs2, d2, ds2, p2, q2, rfl, rfl, rfl, h2, r2⟩ := trodAll_cons r1
  obtain ⟨v3, vs3, d3, ds3, p3, q3, rfl, rfl, rfl, h3, r3⟩ := trodAll_cons r2
  obtain ⟨v4, vs4, d4, ds4, p4, q4, rfl, rfl, rfl, h4, r4⟩ := trodAll_cons r3
  obtain ⟨rfl, rfl, rfl⟩ := trodAll_nil r4
  obtain rfl : args = #[v0, v1, v2, v3, v4] := by cases args; simp_all
  obtain ⟨rfl, rfl⟩ := trodVars_none hV
  simp only [List.append_nil] at hsz
  obtain ⟨a0, rfl, e0, _, w0⟩ := open_int Try.underlying3 (hval 0 3 v0 rfl rfl) h0
  obtain ⟨s1, rfl, rfl, _, hs1⟩ := open_string Try.underlying9 (hval 1 9 v1 rfl rfl) h1
  have hq1 : s1.data.toList.length ≤ 140737488351232 := sized_string hsz (j := 1) (t := 9) rfl rfl
  obtain ⟨A2, n2, c2, l2, rfl, hr2, hn2, hc2, hk2, hx2⟩ := open_intRow (hval 2 22 v2 rfl rfl) h2
  have hq2 := capped_sized hsz (j := 2) (t := 22) (e := 3) rfl rfl Try.underlying22 hk2
  rw [bytes_int] at hq2
  obtain ⟨A3, n3, c3, l3, rfl, hr3, hn3, hc3, hk3, ht3, hx3⟩ := open_textRow (hval 3 23 v3 rfl rfl) h3
  have hq3 := capped_sized hsz (j := 3) (t := 23) (e := 9) rfl rfl Try.underlying23 hk3
  rw [bytes_string] at hq3
  obtain ⟨A4, n4, c4, l4, rfl, hr4, hn4, hc4, hk4, hd4, hx4⟩ := open_digestRow (hval 4 24 v4 rfl rfl) h4
  have hq4 := capped_sized hsz (j := 4) (t := 24) (e := 57) rfl rfl Try.underlying24 hk4
  rw [bytes_digest] at hq4
  have hbk : Rows.uptoBulkAll [d0, (.lit (.string s1.data.toList) : DataW H), d2, d3, d4] ≤ 1048576 := by simpa [Rows.uptoSmall] using hk
  simp only [Rows.uptoBulkAll] at hbk
  have hz1 := bulk_string (H := H) s1.data.toList
  have hz2 := bulk_capped hk2
  have hz3 := bulk_capped hk3
  have hy3 := bulk_text ht3
  have hl3 : n3 = l3.length := by have := hr3.1; simpa using this.symm
  have hz4 := bulk_capped hk4
  rw [← S_of s1]
  refine (encode_walk a0 s1.data.toList l2 l3 l4 A2 A3 A4 n2 n3 n4 c2 c3 c4 W (inI_of_wf w0) (by omega) hr2 hr3 hr4 hd4 hn2 hn3 hn4 (by omega) (by omega) (by omega) hx2 hx4).mono fun e W' ⟨he, hb⟩ => ?_
  subst he
  exact ⟨_, rfl, post_law laidOut (by kernel_rfl) rfl (by kernel_rfl) Try.underlying4 rfl hW' hb⟩

set_option maxRecDepth 100000 in
theorem lifted (os : Os) (started : os.Started) (H : Type) (enc : TypeId × Value → H) (F : Stop.Interp) :
    ReturnsInHanded {} Try.checked os 3 .any ((Rows.OpenSpec.upto Rows.wireEncodeMatchesSpecSpec).pre6 enc Try.prog Try.f3 Rows.wireEncodeMatchesSpecUptoRow.domain false) (((Rows.OpenSpec.upto Rows.wireEncodeMatchesSpecSpec).at F).post enc Try.prog Try.f3 false true false false) := by
  refine returnsInHanded_of_cond_sized (C := Try.checked) (s := Rows.OpenSpec.upto Rows.wireEncodeMatchesSpecSpec) (k := Rows.uptoSmall) rfl own started (by kernel_rfl) Try.func3
    (OpenSpec.witness (enc := enc) (C := Try.checked) (s := Rows.OpenSpec.upto Rows.wireEncodeMatchesSpecSpec) (k := Rows.uptoSmall) rfl false ⟨#[], #[.int .i64 0, .string ByteArray.empty, .slice none 0 0, .slice none 0 0, .slice none 0 0], []⟩ 8 (by kernel_rfl) (by kernel_rfl) (by kernel_rfl)
      (x := ([.lit (.int .i64 0), .lit (.string []), .nil, .nil, .nil], [], [])) (by kernel_rfl) rfl (by kernel_rfl)) ?_
  intro W base args ds gs before hval hW _ hk hsz _
  exact contract H enc W base args ds gs before hval hW hk hsz

theorem over : Rows.wireEncodeMatchesSpecUptoRow.holds Try.pinned (Rows.OpenSpec.upto Rows.wireEncodeMatchesSpecSpec) :=
  OpenClaim.holds_of_cond 3 Try.f3 rfl rfl rfl rfl rfl rfl rfl ⟨rfl, rfl, rfl, rfl, rfl⟩ rfl rfl rfl rfl rfl (by kernel_rfl) Try.func3 (by kernel_rfl)
    (of_decide_eq_true (by kernel_rfl)) (by unfold Func.isWrapper; first | (rw [if_pos (by decide +kernel)]; kernel_rfl) | (rw [if_neg (by decide +kernel)]; exact ⟨rfl, rfl⟩))
    (fun os started H enc _ F => lifted os started H enc F)

theorem proved : Rows.WireEncodeMatchesSpecUptoSaid :=
  over
#print axioms proved
end Go.Proofs.Ytbkpnfejhaedhaa.wireEncodeMatchesSpec
