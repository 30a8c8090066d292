/-
  DERIVED. GIVEN WITH THE SEED: THE CARDS: each row of YtkmmlimekachbaaGreatDoorRows.lean that lists a variable, with what it lists TIED to the program's text (the seventh form; the later family's looks); each row that meets fmt, with fmt's text TOLD by the authors' own Lean function (tested against real Go, not proved from fmt's source: count such statements apart). THE CARD IS WHAT COUNTS. Prove the row's statement (the work); the ties are given (YtkmmlimekachbaaGreatDoorTie.lean); close each card by the builder's one call (the guide's Derived/Test/ToyasCard.lean, 'card_holds'). Laid BY PROGRAM, IN A SANDBOX (cutbox-door.mjs). By AI agents, Wed Nov 11 2026. No macro, syntax, notation, axiom, sorry.
-/
import Derived.Test.YtkmmlimekachbaaGreatDoorRows
import GoSem.ClaimSeven
namespace Go.Proofs.YtkmmlimekachbaaGreatDoor
namespace Rows

/-- THE TIED CARD OF 'dictumlaw08.SequentRight'. -/
def sequentRightCard : Claim7 := { stood := { row := sequentRightRow, standIns := [], harness := (true, "2559251f8abd70aa7d4b4d391df8b70824cc9288c3576cb974fe9ecc9e04270c"), looks := true }, kinds := [], alts := [], laidByText := true, laidKinds := [.data, .data, .data, .pinned], laidTests := true, laidLooks := .later }
def SequentRightCardSaid : Prop := Claim7.holds Tryz.pinned (.plain (OpenSpec.ofChange sequentRightSpec)) sequentRightCard

/-- THE TIED CARD OF 'dictumlaw08.SequentParses'. -/
def sequentParsesCard : Claim7 := { stood := { row := sequentParsesRow, standIns := [], harness := (true, "2559251f8abd70aa7d4b4d391df8b70824cc9288c3576cb974fe9ecc9e04270c"), looks := true }, kinds := [], alts := [], laidByText := true, laidKinds := [.data, .data, .data, .pinned], laidTests := true, laidLooks := .later }
def SequentParsesCardSaid : Prop := Claim7.holds Tryz.pinned (.plain (OpenSpec.ofChange sequentParsesSpec)) sequentParsesCard

/-- THE TIED CARD OF 'dictumlaw08.SequentPrints'. -/
def sequentPrintsCard : Claim7 := { stood := { row := sequentPrintsRow, standIns := [], harness := (true, "2559251f8abd70aa7d4b4d391df8b70824cc9288c3576cb974fe9ecc9e04270c"), looks := true }, kinds := [], alts := [], laidByText := true, laidKinds := [.data, .data, .data, .pinned], laidTests := true, laidLooks := .later }
def SequentPrintsCardSaid : Prop := Claim7.holds Tryz.pinned (.plain (OpenSpec.ofChange sequentPrintsSpec)) sequentPrintsCard

/-- THE TIED CARD OF 'dictumlaw08.SequentForms'. -/
def sequentFormsCard : Claim7 := { stood := { row := sequentFormsRow, standIns := [], harness := (true, "2559251f8abd70aa7d4b4d391df8b70824cc9288c3576cb974fe9ecc9e04270c"), looks := true }, kinds := [], alts := [], laidByText := true, laidKinds := [.data, .data, .data, .pinned], laidTests := true, laidLooks := .later }
def SequentFormsCardSaid : Prop := Claim7.holds Tryz.pinned (.plain (OpenSpec.ofChange sequentFormsSpec)) sequentFormsCard

/-- THE TIED CARD OF 'dictumlaw08.SequentBack'. -/
def sequentBackCard : Claim7 := { stood := { row := sequentBackRow, standIns := [], harness := (true, "2559251f8abd70aa7d4b4d391df8b70824cc9288c3576cb974fe9ecc9e04270c"), looks := true }, kinds := [], alts := [], laidByText := true, laidKinds := [.data, .data, .data, .pinned], laidTests := true, laidLooks := .later }
def SequentBackCardSaid : Prop := Claim7.holds Tryz.pinned (.plain (OpenSpec.ofChange sequentBackSpec)) sequentBackCard

/-- THE TIED CARD OF 'dictumlaw08.SequentTruth'. -/
def sequentTruthCard : Claim7 := { stood := { row := sequentTruthRow, standIns := [], harness := (true, "2559251f8abd70aa7d4b4d391df8b70824cc9288c3576cb974fe9ecc9e04270c"), looks := true }, kinds := [], alts := [], laidByText := true, laidKinds := [.data, .data, .data, .pinned], laidTests := true, laidLooks := .later }
def SequentTruthCardSaid : Prop := Claim7.holds Tryz.pinned (.plain (OpenSpec.ofChange sequentTruthSpec)) sequentTruthCard

/-- THE SECOND FORM's CARD OF 'dictumlaw08.SequentRight'. -/
def sequentRightUptoCard : Claim7 := { stood := { row := sequentRightUptoRow, standIns := [], harness := (true, "2559251f8abd70aa7d4b4d391df8b70824cc9288c3576cb974fe9ecc9e04270c"), looks := true }, kinds := [], alts := [], laidByText := true, laidKinds := [.data, .data, .data, .pinned], laidTests := true, laidLooks := .later }
def SequentRightUptoCardSaid : Prop := Claim7.holds Tryz.pinned (.plain (OpenSpec.upto sequentRightSpec)) sequentRightUptoCard

/-- THE SECOND FORM's CARD OF 'dictumlaw08.SequentParses'. -/
def sequentParsesUptoCard : Claim7 := { stood := { row := sequentParsesUptoRow, standIns := [], harness := (true, "2559251f8abd70aa7d4b4d391df8b70824cc9288c3576cb974fe9ecc9e04270c"), looks := true }, kinds := [], alts := [], laidByText := true, laidKinds := [.data, .data, .data, .pinned], laidTests := true, laidLooks := .later }
def SequentParsesUptoCardSaid : Prop := Claim7.holds Tryz.pinned (.plain (OpenSpec.upto sequentParsesSpec)) sequentParsesUptoCard

/-- THE SECOND FORM's CARD OF 'dictumlaw08.SequentPrints'. -/
def sequentPrintsUptoCard : Claim7 := { stood := { row := sequentPrintsUptoRow, standIns := [], harness := (true, "2559251f8abd70aa7d4b4d391df8b70824cc9288c3576cb974fe9ecc9e04270c"), looks := true }, kinds := [], alts := [], laidByText := true, laidKinds := [.data, .data, .data, .pinned], laidTests := true, laidLooks := .later }
def SequentPrintsUptoCardSaid : Prop := Claim7.holds Tryz.pinned (.plain (OpenSpec.upto sequentPrintsSpec)) sequentPrintsUptoCard

/-- THE SECOND FORM's CARD OF 'dictumlaw08.SequentForms'. -/
def sequentFormsUptoCard : Claim7 := { stood := { row := sequentFormsUptoRow, standIns := [], harness := (true, "2559251f8abd70aa7d4b4d391df8b70824cc9288c3576cb974fe9ecc9e04270c"), looks := true }, kinds := [], alts := [], laidByText := true, laidKinds := [.data, .data, .data, .pinned], laidTests := true, laidLooks := .later }
def SequentFormsUptoCardSaid : Prop := Claim7.holds Tryz.pinned (.plain (OpenSpec.upto sequentFormsSpec)) sequentFormsUptoCard

/-- THE SECOND FORM's CARD OF 'dictumlaw08.SequentBack'. -/
def sequentBackUptoCard : Claim7 := { stood := { row := sequentBackUptoRow, standIns := [], harness := (true, "2559251f8abd70aa7d4b4d391df8b70824cc9288c3576cb974fe9ecc9e04270c"), looks := true }, kinds := [], alts := [], laidByText := true, laidKinds := [.data, .data, .data, .pinned], laidTests := true, laidLooks := .later }
def SequentBackUptoCardSaid : Prop := Claim7.holds Tryz.pinned (.plain (OpenSpec.upto sequentBackSpec)) sequentBackUptoCard

/-- THE SECOND FORM's CARD OF 'dictumlaw08.SequentTruth'. -/
def sequentTruthUptoCard : Claim7 := { stood := { row := sequentTruthUptoRow, standIns := [], harness := (true, "2559251f8abd70aa7d4b4d391df8b70824cc9288c3576cb974fe9ecc9e04270c"), looks := true }, kinds := [], alts := [], laidByText := true, laidKinds := [.data, .data, .data, .pinned], laidTests := true, laidLooks := .later }
def SequentTruthUptoCardSaid : Prop := Claim7.holds Tryz.pinned (.plain (OpenSpec.upto sequentTruthSpec)) sequentTruthUptoCard
end Rows
end Go.Proofs.YtkmmlimekachbaaGreatDoor
