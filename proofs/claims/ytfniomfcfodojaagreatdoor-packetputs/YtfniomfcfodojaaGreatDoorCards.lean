/-
  DERIVED. GIVEN WITH THE SEED: THE CARDS: each row of YtfniomfcfodojaaGreatDoorRows.lean that lists a variable, with what it lists TIED to the program's text (the seventh form; the later family's looks); each row that meets fmt, with fmt's text TOLD by the authors' own Lean function (tested against real Go, not proved from fmt's source: count such statements apart). THE CARD IS WHAT COUNTS. Prove the row's statement (the work); the ties are given (YtfniomfcfodojaaGreatDoorTie.lean); close each card by the builder's one call (the guide's Derived/Test/ToyasCard.lean, 'card_holds'). Laid BY PROGRAM, IN A SANDBOX (cutbox-door.mjs). By AI agents, Wed Nov 11 2026. No macro, syntax, notation, axiom, sorry.
-/
import Derived.Test.YtfniomfcfodojaaGreatDoorRows
import GoSem.ClaimSeven
namespace Go.Proofs.YtfniomfcfodojaaGreatDoor
namespace Rows

/-- THE TIED CARD OF 'pointsmanlaw02.PacketPuts'. -/
def packetPutsCard : Claim7 := { stood := { row := packetPutsRow, standIns := [], harness := (true, "e3fd342ef5958cf3f839ec29b055860b169f1bd50b42ba05759c2d631f8941f3"), looks := false }, kinds := [], alts := [], laidByText := true, laidKinds := [.data, .data, .data], laidTests := true, laidLooks := .later }
def PacketPutsCardSaid : Prop := Claim7.holds Tryz.pinned (.plain (OpenSpec.ofChange packetPutsSpec)) packetPutsCard

/-- THE SECOND FORM's CARD OF 'pointsmanlaw02.PacketPuts'. -/
def packetPutsUptoCard : Claim7 := { stood := { row := packetPutsUptoRow, standIns := [], harness := (true, "e3fd342ef5958cf3f839ec29b055860b169f1bd50b42ba05759c2d631f8941f3"), looks := false }, kinds := [], alts := [], laidByText := true, laidKinds := [.data, .data, .data], laidTests := true, laidLooks := .later }
def PacketPutsUptoCardSaid : Prop := Claim7.holds Tryz.pinned (.plain (OpenSpec.upto packetPutsSpec)) packetPutsUptoCard
end Rows
end Go.Proofs.YtfniomfcfodojaaGreatDoor
