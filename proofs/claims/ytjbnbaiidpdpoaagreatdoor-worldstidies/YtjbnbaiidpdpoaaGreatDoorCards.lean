/-
  DERIVED. GIVEN WITH THE SEED: THE CARDS: each row of YtjbnbaiidpdpoaaGreatDoorRows.lean that lists a variable, with what it lists TIED to the program's text (the seventh form; the later family's looks); each row that meets fmt, with fmt's text TOLD by the authors' own Lean function (tested against real Go, not proved from fmt's source: count such statements apart). THE CARD IS WHAT COUNTS. Prove the row's statement (the work); the ties are given (YtjbnbaiidpdpoaaGreatDoorTie.lean); close each card by the builder's one call (the guide's Derived/Test/ToyasCard.lean, 'card_holds'). Laid BY PROGRAM, IN A SANDBOX (cutbox-door.mjs). By AI agents, Wed Nov 11 2026. No macro, syntax, notation, axiom, sorry.
-/
import Derived.Test.YtjbnbaiidpdpoaaGreatDoorRows
import GoSem.ClaimSeven
namespace Go.Proofs.YtjbnbaiidpdpoaaGreatDoor
namespace Rows

/-- THE TIED CARD OF 'dictumlaw17.WorldsTell'. -/
def worldsTellCard : Claim7 := { stood := { row := worldsTellRow, standIns := [], harness := (true, "e4ca5e7f9d646d1172a300fa9d46a0096398342a984d3cb95e4440258678a1f8"), looks := false }, kinds := [], alts := [], laidByText := true, laidKinds := [.data, .data, .data, .listed, .data], laidTests := true, laidLooks := .later }
def WorldsTellCardSaid : Prop := Claim7.holds Tryz.pinned (.plain (OpenSpec.ofChange worldsTellSpec)) worldsTellCard

/-- THE TIED CARD OF 'dictumlaw17.WorldsTidies'. -/
def worldsTidiesCard : Claim7 := { stood := { row := worldsTidiesRow, standIns := [], harness := (true, "e4ca5e7f9d646d1172a300fa9d46a0096398342a984d3cb95e4440258678a1f8"), looks := false }, kinds := [], alts := [], laidByText := true, laidKinds := [.data, .data, .data, .listed, .data], laidTests := true, laidLooks := .later }
def WorldsTidiesCardSaid : Prop := Claim7.holds Tryz.pinned (.plain (OpenSpec.ofChange worldsTidiesSpec)) worldsTidiesCard

/-- THE SECOND FORM's CARD OF 'dictumlaw17.WorldsTell'. -/
def worldsTellUptoCard : Claim7 := { stood := { row := worldsTellUptoRow, standIns := [], harness := (true, "e4ca5e7f9d646d1172a300fa9d46a0096398342a984d3cb95e4440258678a1f8"), looks := false }, kinds := [], alts := [], laidByText := true, laidKinds := [.data, .data, .data, .listed, .data], laidTests := true, laidLooks := .later }
def WorldsTellUptoCardSaid : Prop := Claim7.holds Tryz.pinned (.plain (OpenSpec.upto worldsTellSpec)) worldsTellUptoCard

/-- THE SECOND FORM's CARD OF 'dictumlaw17.WorldsTidies'. -/
def worldsTidiesUptoCard : Claim7 := { stood := { row := worldsTidiesUptoRow, standIns := [], harness := (true, "e4ca5e7f9d646d1172a300fa9d46a0096398342a984d3cb95e4440258678a1f8"), looks := false }, kinds := [], alts := [], laidByText := true, laidKinds := [.data, .data, .data, .listed, .data], laidTests := true, laidLooks := .later }
def WorldsTidiesUptoCardSaid : Prop := Claim7.holds Tryz.pinned (.plain (OpenSpec.upto worldsTidiesSpec)) worldsTidiesUptoCard
end Rows
end Go.Proofs.YtjbnbaiidpdpoaaGreatDoor
