/-
  Tables: Valid, by contract.
-/
import Derived.Test.YtbcfndhnopmbbaaTabF
namespace Go.Proofs.Ytbcfndhnopmbbaa
open Go.RowKit
set_option linter.unusedVariables false
set_option linter.unusedSimpArgs false
theorem run_index_map0 (a b : Value) (W : World) : (Instr.index 79 (.agg #[a, b]) (.int .i64 0)).run Try.prog W = .ok a W := by
  have hs : ∀ W, (sizeOf 78).run Try.prog W = .ok 1 W := fun W => Try.sizeOf78 W
  have hg : ∀ W, (isAgg 78).run Try.prog W = .ok false W := fun W => Try.isAgg78 W
  simp [Instr.index, run_underlying Try.underlying79, asIntOf, hs, hg, part]
theorem run_index_map1 (a b : Value) (W : World) : (Instr.index 79 (.agg #[a, b]) (.int .i64 1)).run Try.prog W = .ok b W := by
  have hs : ∀ W, (sizeOf 78).run Try.prog W = .ok 1 W := fun W => Try.sizeOf78 W
  have hg : ∀ W, (isAgg 78).run Try.prog W = .ok false W := fun W => Try.isAgg78 W
  simp [Instr.index, run_underlying Try.underlying79, asIntOf, hs, hg, part]
theorem encode_small : ∀ j : Fin 26, Utf8.encode (97 + (j.val : Int)) = S [UInt8.ofNat (97 + j.val)] := by decide +kernel
theorem encode_letter (j : Nat) (h : j < 26) : Utf8.encode (97 + (j : Int)) = S [UInt8.ofNat (97 + j)] := encode_small ⟨j, h⟩
theorem inI_zero : Wr.inI 0 := by unfold Wr.inI; omega
theorem run_look (W : World) (b : Nat) (ks : List (List UInt8 × Int)) (h : SetMap W b ks) (hks : ∀ x ∈ ks, x.1.length ≤ 1048576 ∧ Wr.inI x.2) (j : Nat) (hj : j < 26) :
    (Instr.lookup 78 (.map (some b)) (.agg #[.string (Utf8.encode (97 + (j : Int))), .int .i64 0]) false).run Try.prog W = .ok (.bool (decide (([UInt8.ofNat (97 + j)], (0 : Int)) ∈ ks))) W := by
  rw [encode_letter j hj]
  obtain ⟨kl, hkl⟩ := keyOf_name ([UInt8.ofNat (97 + j)], (0 : Int)) (by simp) inI_zero
  have hz : (zeroValue 4).run Try.prog W = .ok (.bool false) W := Try.zeroValue4 W
  exact h.look nameKeyed Try.underlying78 (key := ([UInt8.ofNat (97 + j)], (0 : Int))) hkl (fun x hx => keyOf_name x (hks x hx).1 (hks x hx).2) hz
theorem run_lenMap (W : World) (b : Nat) (ks : List (List UInt8 × Int)) (h : SetMap W b ks) (ty : TypeId) :
    (Builtin.len_ #[78] ty #[.map (some b)]).run Try.prog W = .ok (.int .i64 (ks.length : Int)) W := by
  obtain ⟨es, clock, hb, hk, _⟩ := h
  have hl : es.size = ks.length := by
    have := congrArg List.length hk
    simpa using this
  simp [Builtin.len_, run_underlying Try.underlying78, run_getObj_map W b es clock hb, hl, goInt]
namespace Tb
def validTail (t : Tab) : Int := if lone t.r0 = false ∨ lone t.r1 = false then 7 else if owns t.r0 = false ∨ owns t.r1 = false then 6 else 0
theorem valid_eq (t : Tab) : valid t = if 96 < t.r0.length ∨ 96 < t.r1.length then 4 else if proper t = false then 1 else validTail t := rfl
theorem owns_all (rs : List Rl) : owns rs = (List.range 26).all fun j => decide (([UInt8.ofNat (97 + j)], (0 : Int)) ∈ keysOf rs) := by
  unfold owns
  congr 1
  funext j
  exact ownsC_eq rs _
end Tb
end Go.Proofs.Ytbcfndhnopmbbaa
