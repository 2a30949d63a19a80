/-
  The reference's Bytes, Ints, Strings by their contracts.
-/
import Derived.Test.YtdjmfjmijpfijaaRef3
import Derived.Laws.IdiomStrings
namespace Go.Proofs.Ytdjmfjmijpfijaa
open Go.RowKit
set_option linter.unusedVariables false
set_option linter.unusedSimpArgs false
end Go.Proofs.Ytdjmfjmijpfijaa
