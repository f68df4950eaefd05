/-
  DERIVED. GIVEN WITH THE SEED: THE CARDS: each row of YtclhmggnkhnnlaaGreatDoorRows.lean that lists a variable, with what it lists TIED to the program's text (the seventh form; the later family's looks); each row that meets fmt, with fmt's text TOLD by the authors' own Lean function (tested against real Go, not proved from fmt's source: count such statements apart). THE CARD IS WHAT COUNTS. Prove the row's statement (the work); the ties are given (YtclhmggnkhnnlaaGreatDoorTie.lean); close each card by the builder's one call (the guide's Derived/Test/ToyasCard.lean, 'card_holds'). Laid BY PROGRAM, IN A SANDBOX (cutbox-door.mjs). By AI agents, Wed Nov 11 2026. No macro, syntax, notation, axiom, sorry.
-/
import Derived.Test.YtclhmggnkhnnlaaGreatDoorRows
import GoSem.ClaimSeven
namespace Go.Proofs.YtclhmggnkhnnlaaGreatDoor
namespace Rows

/-- THE TIED CARD OF 'pointsmanlaw17.QueueCopies'. -/
def queueCopiesCard : Claim7 := { stood := { row := queueCopiesRow, standIns := [], harness := (true, "3606803eb5c9acc0ae892771149332ff40d92a763128dcf0f65c7d09195d50ca"), looks := false }, kinds := [], alts := [], laidByText := true, laidKinds := [.data, .data, .data], laidTests := true, laidLooks := .later }
def QueueCopiesCardSaid : Prop := Claim7.holds Tryz.pinned (.plain (OpenSpec.ofChange queueCopiesSpec)) queueCopiesCard

/-- THE SECOND FORM's CARD OF 'pointsmanlaw17.QueueCopies'. -/
def queueCopiesUptoCard : Claim7 := { stood := { row := queueCopiesUptoRow, standIns := [], harness := (true, "3606803eb5c9acc0ae892771149332ff40d92a763128dcf0f65c7d09195d50ca"), looks := false }, kinds := [], alts := [], laidByText := true, laidKinds := [.data, .data, .data], laidTests := true, laidLooks := .later }
def QueueCopiesUptoCardSaid : Prop := Claim7.holds Tryz.pinned (.plain (OpenSpec.upto queueCopiesSpec)) queueCopiesUptoCard
end Rows
end Go.Proofs.YtclhmggnkhnnlaaGreatDoor
