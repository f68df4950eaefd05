/-
  DERIVED. GIVEN WITH THE SEED: THE CARDS: each row of YtbaihikhmmhnpaaDoorRows.lean that lists a variable, with what it lists TIED to the program's text (the seventh form; the later family's looks); each row that meets fmt, with fmt's text TOLD by the authors' own Lean function (tested against real Go, not proved from fmt's source: count such statements apart). THE CARD IS WHAT COUNTS. Prove the row's statement (the work); the ties are given (YtbaihikhmmhnpaaDoorTie.lean); close each card by the builder's one call (the guide's Derived/Test/ToyasCard.lean, 'card_holds'). Laid BY PROGRAM, IN A SANDBOX (cutbox-door.mjs). By AI agents, Wed Nov 11 2026. No macro, syntax, notation, axiom, sorry.
-/
import Derived.Test.YtbaihikhmmhnpaaDoorRows
import GoSem.ClaimSeven
namespace Go.Proofs.YtbaihikhmmhnpaaDoor
namespace Rows

/-- THE TIED CARD OF 'pointsmanlaw01.BitsRings'. -/
def bitsRingsCard : Claim7 := { stood := { row := bitsRingsRow, standIns := [], harness := (true, "e9b4e88c39f9e4cbaf2fb47f98b82576b2b1dde52c42c522f3eec7bf70cbf1f4"), looks := false }, kinds := [], alts := [], laidByText := true, laidKinds := [.data, .data, .data], laidTests := true, laidLooks := .later }
def BitsRingsCardSaid : Prop := Claim7.holds Tryd.pinned (.plain (OpenSpec.ofChange bitsRingsSpec)) bitsRingsCard

/-- THE TIED CARD OF 'pointsmanlaw01.BitsCuts'. -/
def bitsCutsCard : Claim7 := { stood := { row := bitsCutsRow, standIns := [], harness := (true, "e9b4e88c39f9e4cbaf2fb47f98b82576b2b1dde52c42c522f3eec7bf70cbf1f4"), looks := false }, kinds := [], alts := [], laidByText := true, laidKinds := [.data, .data, .data], laidTests := true, laidLooks := .later }
def BitsCutsCardSaid : Prop := Claim7.holds Tryd.pinned (.plain (OpenSpec.ofChange bitsCutsSpec)) bitsCutsCard

/-- THE TIED CARD OF 'pointsmanlaw01.BitsOrders'. -/
def bitsOrdersCard : Claim7 := { stood := { row := bitsOrdersRow, standIns := [], harness := (true, "e9b4e88c39f9e4cbaf2fb47f98b82576b2b1dde52c42c522f3eec7bf70cbf1f4"), looks := false }, kinds := [], alts := [], laidByText := true, laidKinds := [.data, .data, .data], laidTests := true, laidLooks := .later }
def BitsOrdersCardSaid : Prop := Claim7.holds Tryd.pinned (.plain (OpenSpec.ofChange bitsOrdersSpec)) bitsOrdersCard

/-- THE SECOND FORM's CARD OF 'pointsmanlaw01.BitsRings'. -/
def bitsRingsUptoCard : Claim7 := { stood := { row := bitsRingsUptoRow, standIns := [], harness := (true, "e9b4e88c39f9e4cbaf2fb47f98b82576b2b1dde52c42c522f3eec7bf70cbf1f4"), looks := false }, kinds := [], alts := [], laidByText := true, laidKinds := [.data, .data, .data], laidTests := true, laidLooks := .later }
def BitsRingsUptoCardSaid : Prop := Claim7.holds Tryd.pinned (.plain (OpenSpec.upto bitsRingsSpec)) bitsRingsUptoCard

/-- THE SECOND FORM's CARD OF 'pointsmanlaw01.BitsCuts'. -/
def bitsCutsUptoCard : Claim7 := { stood := { row := bitsCutsUptoRow, standIns := [], harness := (true, "e9b4e88c39f9e4cbaf2fb47f98b82576b2b1dde52c42c522f3eec7bf70cbf1f4"), looks := false }, kinds := [], alts := [], laidByText := true, laidKinds := [.data, .data, .data], laidTests := true, laidLooks := .later }
def BitsCutsUptoCardSaid : Prop := Claim7.holds Tryd.pinned (.plain (OpenSpec.upto bitsCutsSpec)) bitsCutsUptoCard

/-- THE SECOND FORM's CARD OF 'pointsmanlaw01.BitsOrders'. -/
def bitsOrdersUptoCard : Claim7 := { stood := { row := bitsOrdersUptoRow, standIns := [], harness := (true, "e9b4e88c39f9e4cbaf2fb47f98b82576b2b1dde52c42c522f3eec7bf70cbf1f4"), looks := false }, kinds := [], alts := [], laidByText := true, laidKinds := [.data, .data, .data], laidTests := true, laidLooks := .later }
def BitsOrdersUptoCardSaid : Prop := Claim7.holds Tryd.pinned (.plain (OpenSpec.upto bitsOrdersSpec)) bitsOrdersUptoCard
end Rows
end Go.Proofs.YtbaihikhmmhnpaaDoor
