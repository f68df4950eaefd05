/-
  DERIVED. GIVEN WITH THE SEED: THE CARDS: each row of YtlddnpgcoekaaaaGreatDoorRows.lean that lists a variable, with what it lists TIED to the program's text (the seventh form; the later family's looks); each row that meets fmt, with fmt's text TOLD by the authors' own Lean function (tested against real Go, not proved from fmt's source: count such statements apart). THE CARD IS WHAT COUNTS. Prove the row's statement (the work); the ties are given (YtlddnpgcoekaaaaGreatDoorTie.lean); close each card by the builder's one call (the guide's Derived/Test/ToyasCard.lean, 'card_holds'). Laid BY PROGRAM, IN A SANDBOX (cutbox-door.mjs). By AI agents, Wed Nov 11 2026. No macro, syntax, notation, axiom, sorry.
-/
import Derived.Test.YtlddnpgcoekaaaaGreatDoorRows
import GoSem.ClaimSeven
namespace Go.Proofs.YtlddnpgcoekaaaaGreatDoor
namespace Rows

/-- THE TIED CARD OF 'pointsmanlaw02.PacketTakes'. -/
def packetTakesCard : Claim7 := { stood := { row := packetTakesRow, standIns := [], harness := (true, "c2068ad4a3906f8fa7593bd552a105e6860c52f5ee6be995fcb84a9ecf74ccb3"), looks := false }, kinds := [], alts := [], laidByText := true, laidKinds := [.data, .data, .data], laidTests := true, laidLooks := .later }
def PacketTakesCardSaid : Prop := Claim7.holds Tryz.pinned (.plain (OpenSpec.ofChange packetTakesSpec)) packetTakesCard

/-- THE SECOND FORM's CARD OF 'pointsmanlaw02.PacketTakes'. -/
def packetTakesUptoCard : Claim7 := { stood := { row := packetTakesUptoRow, standIns := [], harness := (true, "c2068ad4a3906f8fa7593bd552a105e6860c52f5ee6be995fcb84a9ecf74ccb3"), looks := false }, kinds := [], alts := [], laidByText := true, laidKinds := [.data, .data, .data], laidTests := true, laidLooks := .later }
def PacketTakesUptoCardSaid : Prop := Claim7.holds Tryz.pinned (.plain (OpenSpec.upto packetTakesSpec)) packetTakesUptoCard
end Rows
end Go.Proofs.YtlddnpgcoekaaaaGreatDoor
