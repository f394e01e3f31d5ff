/-
  DERIVED. GIVEN WITH THE SEED: THE CARDS: each row of YtggdpnkfambmfaaDoorRows.lean that lists a variable, with what it lists TIED to the program's text (the seventh form; the later family's looks); each row that meets fmt, with fmt's text TOLD by the authors' own Lean function (tested against real Go, not proved from fmt's source: count such statements apart). THE CARD IS WHAT COUNTS. Prove the row's statement (the work); the ties are given (YtggdpnkfambmfaaDoorTie.lean); close each card by the builder's one call (the guide's Derived/Test/ToyasCard.lean, 'card_holds'). Laid BY PROGRAM, IN A SANDBOX (cutbox-door.mjs). By AI agents, Wed Nov 11 2026. No macro, syntax, notation, axiom, sorry.
-/
import Derived.Test.YtggdpnkfambmfaaDoorRows
import GoSem.ClaimSeven
namespace Go.Proofs.YtggdpnkfambmfaaDoor
namespace Rows

/-- THE TIED CARD OF 'quadrillelaw07.A1Columns'. -/
def a1ColumnsCard : Claim7 := { stood := { row := a1ColumnsRow, standIns := [], harness := (true, "ab0da6269c6e15d5e6d182080ed5d32c504067399f6edd6fc20db6734f16be2a"), looks := true }, kinds := [], alts := [], laidByText := true, laidKinds := [.data, .data, .data, .data, .sentinel, .sentinel, .pinned], laidTests := true, laidLooks := .later }
def A1ColumnsCardSaid : Prop := Claim7.holds Tryd.pinned (.plain (OpenSpec.ofChange a1ColumnsSpec)) a1ColumnsCard

/-- THE TIED CARD OF 'quadrillelaw07.A1Cells'. -/
def a1CellsCard : Claim7 := { stood := { row := a1CellsRow, standIns := [], harness := (true, "ab0da6269c6e15d5e6d182080ed5d32c504067399f6edd6fc20db6734f16be2a"), looks := true }, kinds := [], alts := [], laidByText := true, laidKinds := [.data, .data, .data, .data, .sentinel, .sentinel, .pinned], laidTests := true, laidLooks := .later }
def A1CellsCardSaid : Prop := Claim7.holds Tryd.pinned (.plain (OpenSpec.ofChange a1CellsSpec)) a1CellsCard

/-- THE TIED CARD OF 'quadrillelaw07.A1Rects'. -/
def a1RectsCard : Claim7 := { stood := { row := a1RectsRow, standIns := [], harness := (true, "ab0da6269c6e15d5e6d182080ed5d32c504067399f6edd6fc20db6734f16be2a"), looks := true }, kinds := [], alts := [], laidByText := true, laidKinds := [.data, .data, .data, .data, .sentinel, .sentinel, .pinned], laidTests := true, laidLooks := .later }
def A1RectsCardSaid : Prop := Claim7.holds Tryd.pinned (.plain (OpenSpec.ofChange a1RectsSpec)) a1RectsCard

/-- THE TIED CARD OF 'quadrillelaw07.A1Apart'. -/
def a1ApartCard : Claim7 := { stood := { row := a1ApartRow, standIns := [], harness := (true, "ab0da6269c6e15d5e6d182080ed5d32c504067399f6edd6fc20db6734f16be2a"), looks := true }, kinds := [], alts := [], laidByText := true, laidKinds := [.data, .data, .data, .data, .sentinel, .sentinel, .pinned], laidTests := true, laidLooks := .later }
def A1ApartCardSaid : Prop := Claim7.holds Tryd.pinned (.plain (OpenSpec.ofChange a1ApartSpec)) a1ApartCard

/-- THE SECOND FORM's CARD OF 'quadrillelaw07.A1Columns'. -/
def a1ColumnsUptoCard : Claim7 := { stood := { row := a1ColumnsUptoRow, standIns := [], harness := (true, "ab0da6269c6e15d5e6d182080ed5d32c504067399f6edd6fc20db6734f16be2a"), looks := true }, kinds := [], alts := [], laidByText := true, laidKinds := [.data, .data, .data, .data, .sentinel, .sentinel, .pinned], laidTests := true, laidLooks := .later }
def A1ColumnsUptoCardSaid : Prop := Claim7.holds Tryd.pinned (.plain (OpenSpec.upto a1ColumnsSpec)) a1ColumnsUptoCard

/-- THE SECOND FORM's CARD OF 'quadrillelaw07.A1Cells'. -/
def a1CellsUptoCard : Claim7 := { stood := { row := a1CellsUptoRow, standIns := [], harness := (true, "ab0da6269c6e15d5e6d182080ed5d32c504067399f6edd6fc20db6734f16be2a"), looks := true }, kinds := [], alts := [], laidByText := true, laidKinds := [.data, .data, .data, .data, .sentinel, .sentinel, .pinned], laidTests := true, laidLooks := .later }
def A1CellsUptoCardSaid : Prop := Claim7.holds Tryd.pinned (.plain (OpenSpec.upto a1CellsSpec)) a1CellsUptoCard

/-- THE SECOND FORM's CARD OF 'quadrillelaw07.A1Rects'. -/
def a1RectsUptoCard : Claim7 := { stood := { row := a1RectsUptoRow, standIns := [], harness := (true, "ab0da6269c6e15d5e6d182080ed5d32c504067399f6edd6fc20db6734f16be2a"), looks := true }, kinds := [], alts := [], laidByText := true, laidKinds := [.data, .data, .data, .data, .sentinel, .sentinel, .pinned], laidTests := true, laidLooks := .later }
def A1RectsUptoCardSaid : Prop := Claim7.holds Tryd.pinned (.plain (OpenSpec.upto a1RectsSpec)) a1RectsUptoCard

/-- THE SECOND FORM's CARD OF 'quadrillelaw07.A1Apart'. -/
def a1ApartUptoCard : Claim7 := { stood := { row := a1ApartUptoRow, standIns := [], harness := (true, "ab0da6269c6e15d5e6d182080ed5d32c504067399f6edd6fc20db6734f16be2a"), looks := true }, kinds := [], alts := [], laidByText := true, laidKinds := [.data, .data, .data, .data, .sentinel, .sentinel, .pinned], laidTests := true, laidLooks := .later }
def A1ApartUptoCardSaid : Prop := Claim7.holds Tryd.pinned (.plain (OpenSpec.upto a1ApartSpec)) a1ApartUptoCard
end Rows
end Go.Proofs.YtggdpnkfambmfaaDoor
