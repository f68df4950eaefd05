/-
  DERIVED. GIVEN WITH THE SEED: THE CARDS: each row of YtbemfjdloeipmaaGreatDoorRows.lean that lists a variable, with what it lists TIED to the program's text (the seventh form; the later family's looks); each row that meets fmt, with fmt's text TOLD by the authors' own Lean function (tested against real Go, not proved from fmt's source: count such statements apart). THE CARD IS WHAT COUNTS. Prove the row's statement (the work); the ties are given (YtbemfjdloeipmaaGreatDoorTie.lean); close each card by the builder's one call (the guide's Derived/Test/ToyasCard.lean, 'card_holds'). Laid BY PROGRAM, IN A SANDBOX (cutbox-door.mjs). By AI agents, Wed Nov 11 2026. No macro, syntax, notation, axiom, sorry.
-/
import Derived.Test.YtbemfjdloeipmaaGreatDoorRows
import GoSem.ClaimSeven
namespace Go.Proofs.YtbemfjdloeipmaaGreatDoor
namespace Rows

/-- THE TIED CARD OF 'pointsmanlaw14.CellsChange'. -/
def cellsChangeCard : Claim7 := { stood := { row := cellsChangeRow, standIns := [], harness := (true, "e1a4ee659769875bfbfc10f20e896c68690637338f9d0ee40d0acbc530e340a9"), looks := false }, kinds := [], alts := [], laidByText := true, laidKinds := [.data, .data, .data], laidTests := true, laidLooks := .later }
def CellsChangeCardSaid : Prop := Claim7.holds Tryz.pinned (.plain (OpenSpec.ofChange cellsChangeSpec)) cellsChangeCard

/-- THE SECOND FORM's CARD OF 'pointsmanlaw14.CellsChange'. -/
def cellsChangeUptoCard : Claim7 := { stood := { row := cellsChangeUptoRow, standIns := [], harness := (true, "e1a4ee659769875bfbfc10f20e896c68690637338f9d0ee40d0acbc530e340a9"), looks := false }, kinds := [], alts := [], laidByText := true, laidKinds := [.data, .data, .data], laidTests := true, laidLooks := .later }
def CellsChangeUptoCardSaid : Prop := Claim7.holds Tryz.pinned (.plain (OpenSpec.upto cellsChangeSpec)) cellsChangeUptoCard
end Rows
end Go.Proofs.YtbemfjdloeipmaaGreatDoor
