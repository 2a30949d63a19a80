/-
  DERIVED. GIVEN WITH THE SEED: THE CARDS: each row of YtdjmfjmijpfijaaDoorRows.lean that lists a variable, with what it lists TIED to the program's text (the seventh form; the later family's looks); each row that meets fmt, with fmt's text TOLD by the authors' own Lean function (tested against real Go, not proved from fmt's source: count such statements apart). THE CARD IS WHAT COUNTS. Prove the row's statement (the work); the ties are given (YtdjmfjmijpfijaaDoorTie.lean); close each card by the builder's one call (the guide's Derived/Test/ToyasCard.lean, 'card_holds'). Laid BY PROGRAM, IN A SANDBOX (cutbox-door.mjs). By AI agents, Wed Nov 11 2026. No macro, syntax, notation, axiom, sorry.
-/
import Derived.Test.YtdjmfjmijpfijaaDoorRows
import GoSem.ClaimSeven
namespace Go.Proofs.YtdjmfjmijpfijaaDoor
namespace Rows

/-- THE TIED CARD OF 'dactyllaw04.CellCounts'. -/
def cellCountsCard : Claim7 := { stood := { row := cellCountsRow, standIns := [], harness := (true, "9ccdf4859ee157e4aad4e5539056ae6437f88dc0194cfa69164d4e797c99ca0e"), looks := false }, kinds := [], alts := [], laidByText := true, laidKinds := [.data, .pinned], laidTests := true, laidLooks := .later }
def CellCountsCardSaid : Prop := Claim7.holds Tryd.pinned (.plain (OpenSpec.ofChange cellCountsSpec)) cellCountsCard

/-- THE TIED CARD OF 'dactyllaw04.CellPacked'. -/
def cellPackedCard : Claim7 := { stood := { row := cellPackedRow, standIns := [], harness := (true, "9ccdf4859ee157e4aad4e5539056ae6437f88dc0194cfa69164d4e797c99ca0e"), looks := false }, kinds := [], alts := [], laidByText := true, laidKinds := [.data, .pinned], laidTests := true, laidLooks := .later }
def CellPackedCardSaid : Prop := Claim7.holds Tryd.pinned (.plain (OpenSpec.ofChange cellPackedSpec)) cellPackedCard

/-- THE SECOND FORM's CARD OF 'dactyllaw04.CellCounts'. -/
def cellCountsUptoCard : Claim7 := { stood := { row := cellCountsUptoRow, standIns := [], harness := (true, "9ccdf4859ee157e4aad4e5539056ae6437f88dc0194cfa69164d4e797c99ca0e"), looks := false }, kinds := [], alts := [], laidByText := true, laidKinds := [.data, .pinned], laidTests := true, laidLooks := .later }
def CellCountsUptoCardSaid : Prop := Claim7.holds Tryd.pinned (.plain (OpenSpec.upto cellCountsSpec)) cellCountsUptoCard

/-- THE SECOND FORM's CARD OF 'dactyllaw04.CellPacked'. -/
def cellPackedUptoCard : Claim7 := { stood := { row := cellPackedUptoRow, standIns := [], harness := (true, "9ccdf4859ee157e4aad4e5539056ae6437f88dc0194cfa69164d4e797c99ca0e"), looks := false }, kinds := [], alts := [], laidByText := true, laidKinds := [.data, .pinned], laidTests := true, laidLooks := .later }
def CellPackedUptoCardSaid : Prop := Claim7.holds Tryd.pinned (.plain (OpenSpec.upto cellPackedSpec)) cellPackedUptoCard
end Rows
end Go.Proofs.YtdjmfjmijpfijaaDoor
