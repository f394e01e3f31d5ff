/-
  DERIVED. GIVEN WITH THE SEED: THE CARDS: each row of YtlagjnlajkmmeaaDoorRows.lean that lists a variable, with what it lists TIED to the program's text (the seventh form; the later family's looks); each row that meets fmt, with fmt's text TOLD by the authors' own Lean function (tested against real Go, not proved from fmt's source: count such statements apart). THE CARD IS WHAT COUNTS. Prove the row's statement (the work); the ties are given (YtlagjnlajkmmeaaDoorTie.lean); close each card by the builder's one call (the guide's Derived/Test/ToyasCard.lean, 'card_holds'). Laid BY PROGRAM, IN A SANDBOX (cutbox-door.mjs). By AI agents, Wed Nov 11 2026. No macro, syntax, notation, axiom, sorry.
-/
import Derived.Test.YtlagjnlajkmmeaaDoorRows
import GoSem.ClaimSeven
namespace Go.Proofs.YtlagjnlajkmmeaaDoor
namespace Rows

/-- THE TIED CARD OF 'quadrillelaw09.TreeSigns'. -/
def treeSignsCard : Claim7 := { stood := { row := treeSignsRow, standIns := [], harness := (true, "b0834b169eae3a2924583112460910d6c5070ad605db40d5e697357031b26d0e"), looks := false }, kinds := [], alts := [], laidByText := true, laidKinds := [.data, .data, .data, .data, .data, .pinned], laidTests := true, laidLooks := .later }
def TreeSignsCardSaid : Prop := Claim7.holds Tryd.pinned (.plain (OpenSpec.ofChange treeSignsSpec)) treeSignsCard

/-- THE TIED CARD OF 'quadrillelaw09.TreeRight'. -/
def treeRightCard : Claim7 := { stood := { row := treeRightRow, standIns := [], harness := (true, "b0834b169eae3a2924583112460910d6c5070ad605db40d5e697357031b26d0e"), looks := false }, kinds := [], alts := [], laidByText := true, laidKinds := [.data, .data, .data, .data, .data, .pinned], laidTests := true, laidLooks := .later }
def TreeRightCardSaid : Prop := Claim7.holds Tryd.pinned (.plain (OpenSpec.ofChange treeRightSpec)) treeRightCard

/-- THE SECOND FORM's CARD OF 'quadrillelaw09.TreeSigns'. -/
def treeSignsUptoCard : Claim7 := { stood := { row := treeSignsUptoRow, standIns := [], harness := (true, "b0834b169eae3a2924583112460910d6c5070ad605db40d5e697357031b26d0e"), looks := false }, kinds := [], alts := [], laidByText := true, laidKinds := [.data, .data, .data, .data, .data, .pinned], laidTests := true, laidLooks := .later }
def TreeSignsUptoCardSaid : Prop := Claim7.holds Tryd.pinned (.plain (OpenSpec.upto treeSignsSpec)) treeSignsUptoCard

/-- THE SECOND FORM's CARD OF 'quadrillelaw09.TreeRight'. -/
def treeRightUptoCard : Claim7 := { stood := { row := treeRightUptoRow, standIns := [], harness := (true, "b0834b169eae3a2924583112460910d6c5070ad605db40d5e697357031b26d0e"), looks := false }, kinds := [], alts := [], laidByText := true, laidKinds := [.data, .data, .data, .data, .data, .pinned], laidTests := true, laidLooks := .later }
def TreeRightUptoCardSaid : Prop := Claim7.holds Tryd.pinned (.plain (OpenSpec.upto treeRightSpec)) treeRightUptoCard
end Rows
end Go.Proofs.YtlagjnlajkmmeaaDoor
