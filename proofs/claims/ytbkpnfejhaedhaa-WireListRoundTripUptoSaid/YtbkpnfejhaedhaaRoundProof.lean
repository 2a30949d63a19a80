/-
  Proved: for every string and lists of integers, strings and digests and every tail WireListRoundTrip answers true (decoding the encoding returns the value and the length of the encoding). Where what comes in is together of bulk at most 1048576.
-/
import Derived.Test.YtbkpnfejhaedhaaRows
import Derived.Test.YtbkpnfejhaedhaaWrap
import Derived.Test.YtbkpnfejhaedhaaUpto
import Derived.Test.YtbkpnfejhaedhaaRound
namespace Go.Proofs.Ytbkpnfejhaedhaa.wireListRoundTrip
open Go.ChangeShapes Go.WideShapes Go.ChangeAt Go.RowKit Go.ChangeMaps
set_option linter.unusedVariables false
set_option linter.unusedSimpArgs false

theorem contract (H : Type) (enc : TypeId × Value → H) (W : World) (base : Nat) (args : Array Value) (ds gs : List (DataW H)) (before : List MemPlace)
    (hval : ∀ (j : Nat) t v, Try.f8.params[j]? = some t → args[j]? = some v → Value.okWide Try.prog W .any base t v)
    (hW : DataW.Whole enc Try.prog Try.f8.params.toList Rows.wireListRoundTripSpec.vars false W args.toList ds gs before) (hk : Rows.uptoSmall H (ds ++ gs) = true)
    (hsz : (DataW.weightsEach Try.prog (Try.f8.params.toList ++ []) (ds ++ gs)).all (· ≤ reachBytes) = true) :
    Calls Try.prog 8 args W fun e W' => ∃ v, e = .returned v ∧ Rows.wireListRoundTripSpec.post enc Try.prog Try.f8 false true false false W args v W' := by
  have hW' := hW
  obtain ⟨p, q, hA0, hV, rfl, hfz, hnd⟩ := hW
  have hA : DataW.TrodAll enc Try.prog W 0 (fun _ => true) true Try.f8.params.toList args.toList ds p := hA0
  rw [Try.params8] at hA hval hsz
  obtain ⟨v0, vs0, d0, ds0, p0, q0, hargs, rfl, rfl, h0, r0⟩ := trodAll_cons hA
  obtain ⟨v1, vs1, d1, ds1, p1, q1, rfl, rfl, rfl, h1, r1⟩ := trodAll_cons r0
  obtain ⟨v2, vs2, d2, ds2, p2, q2, rfl, rfl, rfl, h2, r2⟩ := trodAll_cons r1
  obtain ⟨v3, vs3, d3, ds3, p3, q3, rfl, rfl, rfl, h3, r3⟩ := trodAll_cons r2
  obtain ⟨v4, vs4, d4, ds4, p4, q4, rfl, rfl, rfl, h4, r4⟩ := trodAll_cons r3
  obtain ⟨rfl, rfl, rfl⟩ := trodAll_nil r4
  obtain rfl : args = #[v0, v1, v2, v3, v4] := by cases args; simp_all
  obtain ⟨rfl, rfl⟩ := trodVars_none hV
  simp only [List.append_nil] at hsz
  obtain ⟨s0, rfl, rfl, _, hs0⟩ := open_string Try.underlying9 (hval 0 9 v0 rfl rfl) h0
  have hq0 : s0.data.toList.length ≤ 140737488351232 := sized_string hsz (j := 0) (t := 9) rfl rfl
  obtain ⟨A1, n1, c1, l1, rfl, hr1, hn1, hc1, hk1, hx1⟩ := open_intRow (hval 1 22 v1 rfl rfl) h1
  have hq1 := capped_sized hsz (j := 1) (t := 22) (e := 3) rfl rfl Try.underlying22 hk1
  rw [bytes_int] at hq1
  obtain ⟨A2, n2, c2, l2, rfl, hr2, hn2, hc2, hk2, ht2, hx2⟩ := open_textRow (hval 2 23 v2 rfl rfl) h2
  have hq2 := capped_sized hsz (j := 2) (t := 23) (e := 9) rfl rfl Try.underlying23 hk2
  rw [bytes_string] at hq2
  obtain ⟨A3, n3, c3, l3, rfl, hr3, hn3, hc3, hk3, hd3, hx3⟩ := open_digestRow (hval 3 24 v3 rfl rfl) h3
  have hq3 := capped_sized hsz (j := 3) (t := 24) (e := 57) rfl rfl Try.underlying24 hk3
  rw [bytes_digest] at hq3
  obtain ⟨A4, n4, c4, l4, rfl, hr4, hn4, hc4, hk4⟩ := open_bytes (hval 4 28 v4 rfl rfl) h4
  have hq4 := capped_sized hsz (j := 4) (t := 28) (e := 5) rfl rfl Try.underlying28 hk4
  rw [bytes_u8] at hq4
  have hbk : Rows.uptoBulkAll [(.lit (.string s0.data.toList) : DataW H), d1, d2, d3, d4] ≤ 1048576 := by simpa [Rows.uptoSmall] using hk
  simp only [Rows.uptoBulkAll] at hbk
  have hz0 := bulk_string (H := H) s0.data.toList
  have hz1 := bulk_capped hk1
  have hz2 := bulk_capped hk2
  have hy2 := bulk_text ht2
  have hl2 : n2 = l2.length := by have := hr2.1; simpa using this.symm
  have hz3 := bulk_capped hk3
  have hz4 := bulk_capped hk4
  rw [← S_of s0]
  refine (round_walk s0.data.toList l4 l1 l2 l3 A1 A2 A3 A4 n1 n2 n3 n4 c1 c2 c3 c4 W (by omega) hr1 hr2 hr3 hr4 hd3 hn1 hn2 hn3 hn4 (by omega) (by omega) (by omega) (by omega) hx1 hx3).mono fun e W' ⟨he, hb⟩ => ?_
  subst he
  exact ⟨_, rfl, post_law laidOut (by kernel_rfl) rfl (by kernel_rfl) Try.underlying4 rfl hW' hb⟩

set_option maxRecDepth 100000 in
theorem lifted (os : Os) (started : os.Started) (H : Type) (enc : TypeId × Value → H) (F : Stop.Interp) :
    ReturnsInHanded {} Try.checked os 8 .any ((Rows.OpenSpec.upto Rows.wireListRoundTripSpec).pre6 enc Try.prog Try.f8 Rows.wireListRoundTripUptoRow.domain false) (((Rows.OpenSpec.upto Rows.wireListRoundTripSpec).at F).post enc Try.prog Try.f8 false true false false) := by
  refine returnsInHanded_of_cond_sized (C := Try.checked) (s := Rows.OpenSpec.upto Rows.wireListRoundTripSpec) (k := Rows.uptoSmall) rfl own started (by kernel_rfl) Try.func8
    (OpenSpec.witness (enc := enc) (C := Try.checked) (s := Rows.OpenSpec.upto Rows.wireListRoundTripSpec) (k := Rows.uptoSmall) rfl false ⟨#[], #[.string ByteArray.empty, .slice none 0 0, .slice none 0 0, .slice none 0 0, .slice none 0 0], []⟩ 8 (by kernel_rfl) (by kernel_rfl) (by kernel_rfl)
      (x := ([.lit (.string []), .nil, .nil, .nil, .nil], [], [])) (by kernel_rfl) rfl (by kernel_rfl)) ?_
  intro W base args ds gs before hval hW _ hk hsz _
  exact contract H enc W base args ds gs before hval hW hk hsz

theorem over : Rows.wireListRoundTripUptoRow.holds Try.pinned (Rows.OpenSpec.upto Rows.wireListRoundTripSpec) :=
  OpenClaim.holds_of_cond 8 Try.f8 rfl rfl rfl rfl rfl rfl rfl ⟨rfl, rfl, rfl, rfl, rfl⟩ rfl rfl rfl rfl rfl (by kernel_rfl) Try.func8 (by kernel_rfl)
    (of_decide_eq_true (by kernel_rfl)) (by unfold Func.isWrapper; first | (rw [if_pos (by decide +kernel)]; kernel_rfl) | (rw [if_neg (by decide +kernel)]; exact ⟨rfl, rfl⟩))
    (fun os started H enc _ F => lifted os started H enc F)

theorem proved : Rows.WireListRoundTripUptoSaid :=
  over
#print axioms proved
end Go.Proofs.Ytbkpnfejhaedhaa.wireListRoundTrip
