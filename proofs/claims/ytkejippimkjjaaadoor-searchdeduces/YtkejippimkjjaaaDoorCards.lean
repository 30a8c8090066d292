/-
  DERIVED. GIVEN WITH THE SEED: THE CARDS: each row of YtkejippimkjjaaaDoorRows.lean that lists a variable, with what it lists TIED to the program's text (the seventh form; the later family's looks); each row that meets fmt, with fmt's text TOLD by the authors' own Lean function (tested against real Go, not proved from fmt's source: count such statements apart). THE CARD IS WHAT COUNTS. Prove the row's statement (the work); the ties are given (YtkejippimkjjaaaDoorTie.lean); close each card by the builder's one call (the guide's Derived/Test/ToyasCard.lean, 'card_holds'). Laid BY PROGRAM, IN A SANDBOX (cutbox-door.mjs). By AI agents, Wed Nov 11 2026. No macro, syntax, notation, axiom, sorry.
-/
import Derived.Test.YtkejippimkjjaaaDoorRows
import GoSem.ClaimSeven
namespace Go.Proofs.YtkejippimkjjaaaDoor
namespace Rows

/-- THE TIED CARD OF 'dictumlaw11.SearchLists'. -/
def searchListsCard : Claim7 := { stood := { row := searchListsRow, standIns := [], harness := (true, "a450c760d24db99c76678df704ce22b25b3b2d67277dce763c1dbf58ae9c66d2"), looks := false }, kinds := [], alts := [], laidByText := true, laidKinds := [.data], laidTests := true, laidLooks := .later }
def SearchListsCardSaid : Prop := Claim7.holds Tryd.pinned (.plain (OpenSpec.ofChange searchListsSpec)) searchListsCard

/-- THE TIED CARD OF 'dictumlaw11.SearchWeaker'. -/
def searchWeakerCard : Claim7 := { stood := { row := searchWeakerRow, standIns := [], harness := (true, "a450c760d24db99c76678df704ce22b25b3b2d67277dce763c1dbf58ae9c66d2"), looks := false }, kinds := [], alts := [], laidByText := true, laidKinds := [.data], laidTests := true, laidLooks := .later }
def SearchWeakerCardSaid : Prop := Claim7.holds Tryd.pinned (.plain (OpenSpec.ofChange searchWeakerSpec)) searchWeakerCard

/-- THE TIED CARD OF 'dictumlaw11.SearchCut'. -/
def searchCutCard : Claim7 := { stood := { row := searchCutRow, standIns := [], harness := (true, "a450c760d24db99c76678df704ce22b25b3b2d67277dce763c1dbf58ae9c66d2"), looks := false }, kinds := [], alts := [], laidByText := true, laidKinds := [.data], laidTests := true, laidLooks := .later }
def SearchCutCardSaid : Prop := Claim7.holds Tryd.pinned (.plain (OpenSpec.ofChange searchCutSpec)) searchCutCard

/-- THE TIED CARD OF 'dictumlaw11.SearchDeduces'. -/
def searchDeducesCard : Claim7 := { stood := { row := searchDeducesRow, standIns := [], harness := (true, "a450c760d24db99c76678df704ce22b25b3b2d67277dce763c1dbf58ae9c66d2"), looks := false }, kinds := [], alts := [], laidByText := true, laidKinds := [.data], laidTests := true, laidLooks := .later }
def SearchDeducesCardSaid : Prop := Claim7.holds Tryd.pinned (.plain (OpenSpec.ofChange searchDeducesSpec)) searchDeducesCard

/-- THE TIED CARD OF 'dictumlaw11.SearchTrue'. -/
def searchTrueCard : Claim7 := { stood := { row := searchTrueRow, standIns := [], harness := (true, "a450c760d24db99c76678df704ce22b25b3b2d67277dce763c1dbf58ae9c66d2"), looks := false }, kinds := [], alts := [], laidByText := true, laidKinds := [.data], laidTests := true, laidLooks := .later }
def SearchTrueCardSaid : Prop := Claim7.holds Tryd.pinned (.plain (OpenSpec.ofChange searchTrueSpec)) searchTrueCard

/-- THE SECOND FORM's CARD OF 'dictumlaw11.SearchLists'. -/
def searchListsUptoCard : Claim7 := { stood := { row := searchListsUptoRow, standIns := [], harness := (true, "a450c760d24db99c76678df704ce22b25b3b2d67277dce763c1dbf58ae9c66d2"), looks := false }, kinds := [], alts := [], laidByText := true, laidKinds := [.data], laidTests := true, laidLooks := .later }
def SearchListsUptoCardSaid : Prop := Claim7.holds Tryd.pinned (.plain (OpenSpec.upto searchListsSpec)) searchListsUptoCard

/-- THE SECOND FORM's CARD OF 'dictumlaw11.SearchWeaker'. -/
def searchWeakerUptoCard : Claim7 := { stood := { row := searchWeakerUptoRow, standIns := [], harness := (true, "a450c760d24db99c76678df704ce22b25b3b2d67277dce763c1dbf58ae9c66d2"), looks := false }, kinds := [], alts := [], laidByText := true, laidKinds := [.data], laidTests := true, laidLooks := .later }
def SearchWeakerUptoCardSaid : Prop := Claim7.holds Tryd.pinned (.plain (OpenSpec.upto searchWeakerSpec)) searchWeakerUptoCard

/-- THE SECOND FORM's CARD OF 'dictumlaw11.SearchCut'. -/
def searchCutUptoCard : Claim7 := { stood := { row := searchCutUptoRow, standIns := [], harness := (true, "a450c760d24db99c76678df704ce22b25b3b2d67277dce763c1dbf58ae9c66d2"), looks := false }, kinds := [], alts := [], laidByText := true, laidKinds := [.data], laidTests := true, laidLooks := .later }
def SearchCutUptoCardSaid : Prop := Claim7.holds Tryd.pinned (.plain (OpenSpec.upto searchCutSpec)) searchCutUptoCard

/-- THE SECOND FORM's CARD OF 'dictumlaw11.SearchDeduces'. -/
def searchDeducesUptoCard : Claim7 := { stood := { row := searchDeducesUptoRow, standIns := [], harness := (true, "a450c760d24db99c76678df704ce22b25b3b2d67277dce763c1dbf58ae9c66d2"), looks := false }, kinds := [], alts := [], laidByText := true, laidKinds := [.data], laidTests := true, laidLooks := .later }
def SearchDeducesUptoCardSaid : Prop := Claim7.holds Tryd.pinned (.plain (OpenSpec.upto searchDeducesSpec)) searchDeducesUptoCard

/-- THE SECOND FORM's CARD OF 'dictumlaw11.SearchTrue'. -/
def searchTrueUptoCard : Claim7 := { stood := { row := searchTrueUptoRow, standIns := [], harness := (true, "a450c760d24db99c76678df704ce22b25b3b2d67277dce763c1dbf58ae9c66d2"), looks := false }, kinds := [], alts := [], laidByText := true, laidKinds := [.data], laidTests := true, laidLooks := .later }
def SearchTrueUptoCardSaid : Prop := Claim7.holds Tryd.pinned (.plain (OpenSpec.upto searchTrueSpec)) searchTrueUptoCard
end Rows
end Go.Proofs.YtkejippimkjjaaaDoor
