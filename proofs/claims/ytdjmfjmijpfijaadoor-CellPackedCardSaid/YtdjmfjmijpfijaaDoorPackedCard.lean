/-
  Proved: for every two lists of numbers CellPacked answers true (Unpack leads back from Pack, and Pack from Unpack). Condition: the listed tables of package unicode/utf8 hold what its own text lays (the card ties them to it); the call does not read them.
-/
import Derived.Test.YtdjmfjmijpfijaaDoorRows
import Derived.Test.YtdjmfjmijpfijaaDoorCards
import Derived.Test.YtdjmfjmijpfijaaDoorTie
import Derived.Test.YtdjmfjmijpfijaaDoorWrapC
import Derived.Test.YtdjmfjmijpfijaaDoorPackedLaw
import Derived.SevenTiedAt
import Derived.Lay
namespace Go.Proofs.YtdjmfjmijpfijaaDoor.cellPacked
open Go.ChangeShapes Go.WideShapes Go.ChangeAt Go.WideMaps Go.WideElems Go.RowKit Go.ChangeMaps
set_option linter.unusedVariables false
set_option linter.unusedSimpArgs false
#print axioms proved
end Go.Proofs.YtdjmfjmijpfijaaDoor.cellPacked
