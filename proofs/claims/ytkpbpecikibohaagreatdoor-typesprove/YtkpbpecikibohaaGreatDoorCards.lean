/-
  DERIVED. GIVEN WITH THE SEED: THE CARDS: each row of YtkpbpecikibohaaGreatDoorRows.lean that lists a variable, with what it lists TIED to the program's text (the seventh form; the later family's looks); each row that meets fmt, with fmt's text TOLD by the authors' own Lean function (tested against real Go, not proved from fmt's source: count such statements apart). THE CARD IS WHAT COUNTS. Prove the row's statement (the work); the ties are given (YtkpbpecikibohaaGreatDoorTie.lean); close each card by the builder's one call (the guide's Derived/Test/ToyasCard.lean, 'card_holds'). Laid BY PROGRAM, IN A SANDBOX (cutbox-door.mjs). By AI agents, Wed Nov 11 2026. No macro, syntax, notation, axiom, sorry.
-/
import Derived.Test.YtkpbpecikibohaaGreatDoorRows
import GoSem.ClaimSeven
namespace Go.Proofs.YtkpbpecikibohaaGreatDoor
namespace Rows

/-- THE TIED CARD OF 'dictumlaw13.TypesChecks'. -/
def typesChecksCard : Claim7 := { stood := { row := typesChecksRow, standIns := [], harness := (true, "7ed1642a8aa1c2b2d432bd31acf9dda828417c9a443868b2abc915e259a478f1"), looks := true }, kinds := [], alts := [], laidByText := true, laidKinds := [.handle, .data], laidTests := true, laidLooks := .later }
def TypesChecksCardSaid : Prop := Claim7.holds Tryz.pinned (.plain (OpenSpec.ofChange typesChecksSpec)) typesChecksCard

/-- THE TIED CARD OF 'dictumlaw13.TypesProve'. -/
def typesProveCard : Claim7 := { stood := { row := typesProveRow, standIns := [], harness := (true, "7ed1642a8aa1c2b2d432bd31acf9dda828417c9a443868b2abc915e259a478f1"), looks := true }, kinds := [], alts := [], laidByText := true, laidKinds := [.data, .handle, .data], laidTests := true, laidLooks := .later }
def TypesProveCardSaid : Prop := Claim7.holds Tryz.pinned (.plain (OpenSpec.ofChange typesProveSpec)) typesProveCard

/-- THE SECOND FORM's CARD OF 'dictumlaw13.TypesChecks'. -/
def typesChecksUptoCard : Claim7 := { stood := { row := typesChecksUptoRow, standIns := [], harness := (true, "7ed1642a8aa1c2b2d432bd31acf9dda828417c9a443868b2abc915e259a478f1"), looks := true }, kinds := [], alts := [], laidByText := true, laidKinds := [.handle, .data], laidTests := true, laidLooks := .later }
def TypesChecksUptoCardSaid : Prop := Claim7.holds Tryz.pinned (.plain (OpenSpec.upto typesChecksSpec)) typesChecksUptoCard

/-- THE SECOND FORM's CARD OF 'dictumlaw13.TypesProve'. -/
def typesProveUptoCard : Claim7 := { stood := { row := typesProveUptoRow, standIns := [], harness := (true, "7ed1642a8aa1c2b2d432bd31acf9dda828417c9a443868b2abc915e259a478f1"), looks := true }, kinds := [], alts := [], laidByText := true, laidKinds := [.data, .handle, .data], laidTests := true, laidLooks := .later }
def TypesProveUptoCardSaid : Prop := Claim7.holds Tryz.pinned (.plain (OpenSpec.upto typesProveSpec)) typesProveUptoCard
end Rows
end Go.Proofs.YtkpbpecikibohaaGreatDoor
