/-
  DERIVED. GIVEN WITH THE SEED: THE CARDS: each row of YtnihneicoikdhaaGreatDoorRows.lean that lists a variable, with what it lists TIED to the program's text (the seventh form; the later family's looks); each row that meets fmt, with fmt's text TOLD by the authors' own Lean function (tested against real Go, not proved from fmt's source: count such statements apart). THE CARD IS WHAT COUNTS. Prove the row's statement (the work); the ties are given (YtnihneicoikdhaaGreatDoorTie.lean); close each card by the builder's one call (the guide's Derived/Test/ToyasCard.lean, 'card_holds'). Laid BY PROGRAM, IN A SANDBOX (cutbox-door.mjs). By AI agents, Wed Nov 11 2026. No macro, syntax, notation, axiom, sorry.
-/
import Derived.Test.YtnihneicoikdhaaGreatDoorRows
import GoSem.ClaimSeven
namespace Go.Proofs.YtnihneicoikdhaaGreatDoor
namespace Rows

/-- THE TIED CARD OF 'pointsmanlaw17.QueuePlays'. -/
def queuePlaysCard : Claim7 := { stood := { row := queuePlaysRow, standIns := [], harness := (true, "ff9826ba08052f7a629089cf0c6c7c3c832a687186f51c84ce836c0ba5cae1f9"), looks := false }, kinds := [], alts := [], laidByText := true, laidKinds := [.data, .data, .data], laidTests := true, laidLooks := .later }
def QueuePlaysCardSaid : Prop := Claim7.holds Tryz.pinned (.plain (OpenSpec.ofChange queuePlaysSpec)) queuePlaysCard

/-- THE TIED CARD OF 'pointsmanlaw17.QueueCopies'. -/
def queueCopiesCard : Claim7 := { stood := { row := queueCopiesRow, standIns := [], harness := (true, "ff9826ba08052f7a629089cf0c6c7c3c832a687186f51c84ce836c0ba5cae1f9"), looks := false }, kinds := [], alts := [], laidByText := true, laidKinds := [.data, .data, .data], laidTests := true, laidLooks := .later }
def QueueCopiesCardSaid : Prop := Claim7.holds Tryz.pinned (.plain (OpenSpec.ofChange queueCopiesSpec)) queueCopiesCard

/-- THE SECOND FORM's CARD OF 'pointsmanlaw17.QueuePlays'. -/
def queuePlaysUptoCard : Claim7 := { stood := { row := queuePlaysUptoRow, standIns := [], harness := (true, "ff9826ba08052f7a629089cf0c6c7c3c832a687186f51c84ce836c0ba5cae1f9"), looks := false }, kinds := [], alts := [], laidByText := true, laidKinds := [.data, .data, .data], laidTests := true, laidLooks := .later }
def QueuePlaysUptoCardSaid : Prop := Claim7.holds Tryz.pinned (.plain (OpenSpec.upto queuePlaysSpec)) queuePlaysUptoCard

/-- THE SECOND FORM's CARD OF 'pointsmanlaw17.QueueCopies'. -/
def queueCopiesUptoCard : Claim7 := { stood := { row := queueCopiesUptoRow, standIns := [], harness := (true, "ff9826ba08052f7a629089cf0c6c7c3c832a687186f51c84ce836c0ba5cae1f9"), looks := false }, kinds := [], alts := [], laidByText := true, laidKinds := [.data, .data, .data], laidTests := true, laidLooks := .later }
def QueueCopiesUptoCardSaid : Prop := Claim7.holds Tryz.pinned (.plain (OpenSpec.upto queueCopiesSpec)) queueCopiesUptoCard
end Rows
end Go.Proofs.YtnihneicoikdhaaGreatDoor
