/-
  DERIVED. GIVEN WITH THE SEED: THE CARDS: each row of YtkejippimkjjaabDoorRows.lean that lists a variable, with what it lists TIED to the program's text (the seventh form; the later family's looks); each row that meets fmt, with fmt's text TOLD by the authors' own Lean function (tested against real Go, not proved from fmt's source: count such statements apart). THE CARD IS WHAT COUNTS. Prove the row's statement (the work); the ties are given (YtkejippimkjjaabDoorTie.lean); close each card by the builder's one call (the guide's Derived/Test/ToyasCard.lean, 'card_holds'). Laid BY PROGRAM, IN A SANDBOX (cutbox-door.mjs). By AI agents, Wed Nov 11 2026. No macro, syntax, notation, axiom, sorry.
-/
import Derived.Test.YtkejippimkjjaabDoorRows
import GoSem.ClaimSeven
namespace Go.Proofs.YtkejippimkjjaabDoor
namespace Rows

/-- THE TIED CARD OF 'dictumlaw11.SearchNobody'. -/
def searchNobodyCard : Claim7 := { stood := { row := searchNobodyRow, standIns := [], harness := (true, "3aa99b735c0183378583eab3ecff03dd414e2ff0d0d9b331870a211c83a8c023"), looks := false }, kinds := [], alts := [], laidByText := true, laidKinds := [.data], laidTests := true, laidLooks := .later }
def SearchNobodyCardSaid : Prop := Claim7.holds Tryd.pinned (.plain (OpenSpec.ofChange searchNobodySpec)) searchNobodyCard

/-- THE SECOND FORM's CARD OF 'dictumlaw11.SearchNobody'. -/
def searchNobodyUptoCard : Claim7 := { stood := { row := searchNobodyUptoRow, standIns := [], harness := (true, "3aa99b735c0183378583eab3ecff03dd414e2ff0d0d9b331870a211c83a8c023"), looks := false }, kinds := [], alts := [], laidByText := true, laidKinds := [.data], laidTests := true, laidLooks := .later }
def SearchNobodyUptoCardSaid : Prop := Claim7.holds Tryd.pinned (.plain (OpenSpec.upto searchNobodySpec)) searchNobodyUptoCard
end Rows
end Go.Proofs.YtkejippimkjjaabDoor
