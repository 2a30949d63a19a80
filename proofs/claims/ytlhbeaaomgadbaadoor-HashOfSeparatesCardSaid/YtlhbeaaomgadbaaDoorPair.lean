/-
  A [2]uint8 that came in.
-/
import Derived.Test.YtlhbeaaomgadbaaDoorWrap
import Derived.WideKeyPair
namespace Go.Proofs.YtlhbeaaomgadbaaDoor
open Go.ChangeShapes Go.WideShapes Go.ChangeAt Go.WideMaps Go.WideElems Go.RowKit Go.ChangeMaps
section
variable {H : Type} {enc : TypeId × Value → H} {W : World}
theorem pairKey : ArrKey Tryd.prog 48 5 2 := by
  constructor <;> first | exact Tryd.underlying48 | kernel_rfl
theorem open_tags {base : Nat} {v : Value} {d : DataW H} {ps : List MemPlace} (hval : Value.okWide Tryd.prog W .any base 48 v) (h : DataW.Trod enc Tryd.prog W 0 (fun _ => true) true 48 v d ps) :
    ∃ s t : UInt8, v = .agg #[.int .u8 ((s.toNat : Nat) : Int), .int .u8 ((t.toNat : Nat) : Int)] := by
  obtain ⟨a, b, rfl, _, _, wa, wb⟩ := open_pair pairKey Tryd.underlying5 hval h
  exact ⟨UInt8.ofNat a.toNat, UInt8.ofNat b.toNat, by rw [← byte_of_wf wa, ← byte_of_wf wb]⟩
end
end Go.Proofs.YtlhbeaaomgadbaaDoor
