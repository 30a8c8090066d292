/-
  DERIVED. GIVEN WITH THE SEED: THE CARDS: each row of YtpddfooeaecekaaGreatDoorRows.lean that lists a variable, with what it lists TIED to the program's text (the seventh form; the later family's looks); each row that meets fmt, with fmt's text TOLD by the authors' own Lean function (tested against real Go, not proved from fmt's source: count such statements apart). THE CARD IS WHAT COUNTS. Prove the row's statement (the work); the ties are given (YtpddfooeaecekaaGreatDoorTie.lean); close each card by the builder's one call (the guide's Derived/Test/ToyasCard.lean, 'card_holds'). Laid BY PROGRAM, IN A SANDBOX (cutbox-door.mjs). By AI agents, Wed Nov 11 2026. No macro, syntax, notation, axiom, sorry.
-/
import Derived.Test.YtpddfooeaecekaaGreatDoorRows
import GoSem.ClaimSeven
namespace Go.Proofs.YtpddfooeaecekaaGreatDoor
namespace Rows

/-- THE TIED CARD OF 'dictumlaw09.RuleTells'. -/
def ruleTellsCard : Claim7 := { stood := { row := ruleTellsRow, standIns := [], harness := (true, "d099b6b079b99e9e966b05d237403c97818721c1865b99f6780331edb4ff9bef"), looks := false }, kinds := [], alts := [], laidByText := true, laidKinds := [.data], laidTests := true, laidLooks := .later }
def RuleTellsCardSaid : Prop := Claim7.holds Tryz.pinned (.plain (OpenSpec.ofChange ruleTellsSpec)) ruleTellsCard

/-- THE TIED CARD OF 'dictumlaw09.RulePremises'. -/
def rulePremisesCard : Claim7 := { stood := { row := rulePremisesRow, standIns := [], harness := (true, "d099b6b079b99e9e966b05d237403c97818721c1865b99f6780331edb4ff9bef"), looks := false }, kinds := [], alts := [], laidByText := true, laidKinds := [.data], laidTests := true, laidLooks := .later }
def RulePremisesCardSaid : Prop := Claim7.holds Tryz.pinned (.plain (OpenSpec.ofChange rulePremisesSpec)) rulePremisesCard

/-- THE SECOND FORM's CARD OF 'dictumlaw09.RuleTells'. -/
def ruleTellsUptoCard : Claim7 := { stood := { row := ruleTellsUptoRow, standIns := [], harness := (true, "d099b6b079b99e9e966b05d237403c97818721c1865b99f6780331edb4ff9bef"), looks := false }, kinds := [], alts := [], laidByText := true, laidKinds := [.data], laidTests := true, laidLooks := .later }
def RuleTellsUptoCardSaid : Prop := Claim7.holds Tryz.pinned (.plain (OpenSpec.upto ruleTellsSpec)) ruleTellsUptoCard

/-- THE SECOND FORM's CARD OF 'dictumlaw09.RulePremises'. -/
def rulePremisesUptoCard : Claim7 := { stood := { row := rulePremisesUptoRow, standIns := [], harness := (true, "d099b6b079b99e9e966b05d237403c97818721c1865b99f6780331edb4ff9bef"), looks := false }, kinds := [], alts := [], laidByText := true, laidKinds := [.data], laidTests := true, laidLooks := .later }
def RulePremisesUptoCardSaid : Prop := Claim7.holds Tryz.pinned (.plain (OpenSpec.upto rulePremisesSpec)) rulePremisesUptoCard
end Rows
end Go.Proofs.YtpddfooeaecekaaGreatDoor
