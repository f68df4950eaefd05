/-
  DERIVED. GIVEN WITH THE SEED: THE CARDS: each row of YteflnicgohjiiaaGreatDoorRows.lean that lists a variable, with what it lists TIED to the program's text (the seventh form; the later family's looks); each row that meets fmt, with fmt's text TOLD by the authors' own Lean function (tested against real Go, not proved from fmt's source: count such statements apart). THE CARD IS WHAT COUNTS. Prove the row's statement (the work); the ties are given (YteflnicgohjiiaaGreatDoorTie.lean); close each card by the builder's one call (the guide's Derived/Test/ToyasCard.lean, 'card_holds'). Laid BY PROGRAM, IN A SANDBOX (cutbox-door.mjs). By AI agents, Wed Nov 11 2026. No macro, syntax, notation, axiom, sorry.
-/
import Derived.Test.YteflnicgohjiiaaGreatDoorRows
import GoSem.ClaimSeven
namespace Go.Proofs.YteflnicgohjiiaaGreatDoor
namespace Rows

/-- THE TIED CARD OF 'pointsmanlaw13.MatchChanges'. -/
def matchChangesCard : Claim7 := { stood := { row := matchChangesRow, standIns := [], harness := (true, "bdf35f88111e86b07e7dcfc3173a5566232d256c41990fd676c43068df8b04c0"), looks := false }, kinds := [], alts := [], laidByText := true, laidKinds := [.data, .data, .data], laidTests := true, laidLooks := .later }
def MatchChangesCardSaid : Prop := Claim7.holds Tryz.pinned (.plain (OpenSpec.ofChange matchChangesSpec)) matchChangesCard

/-- THE SECOND FORM's CARD OF 'pointsmanlaw13.MatchChanges'. -/
def matchChangesUptoCard : Claim7 := { stood := { row := matchChangesUptoRow, standIns := [], harness := (true, "bdf35f88111e86b07e7dcfc3173a5566232d256c41990fd676c43068df8b04c0"), looks := false }, kinds := [], alts := [], laidByText := true, laidKinds := [.data, .data, .data], laidTests := true, laidLooks := .later }
def MatchChangesUptoCardSaid : Prop := Claim7.holds Tryz.pinned (.plain (OpenSpec.upto matchChangesSpec)) matchChangesUptoCard
end Rows
end Go.Proofs.YteflnicgohjiiaaGreatDoor
