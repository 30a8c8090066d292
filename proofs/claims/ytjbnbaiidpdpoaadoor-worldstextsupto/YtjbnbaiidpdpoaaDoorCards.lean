/-
  DERIVED. GIVEN WITH THE SEED: THE CARDS: each row of YtjbnbaiidpdpoaaDoorRows.lean that lists a variable, with what it lists TIED to the program's text (the seventh form; the later family's looks); each row that meets fmt, with fmt's text TOLD by the authors' own Lean function (tested against real Go, not proved from fmt's source: count such statements apart). THE CARD IS WHAT COUNTS. Prove the row's statement (the work); the ties are given (YtjbnbaiidpdpoaaDoorTie.lean); close each card by the builder's one call (the guide's Derived/Test/ToyasCard.lean, 'card_holds'). Laid BY PROGRAM, IN A SANDBOX (cutbox-door.mjs). By AI agents, Wed Nov 11 2026. No macro, syntax, notation, axiom, sorry.
-/
import Derived.Test.YtjbnbaiidpdpoaaDoorRows
import GoSem.ClaimSeven
namespace Go.Proofs.YtjbnbaiidpdpoaaDoor
namespace Rows

/-- THE TIED CARD OF 'dictumlaw17.WorldsTexts'. -/
def worldsTextsCard : Claim7 := { stood := { row := worldsTextsRow, standIns := [], harness := (true, "cf0a6b13600e7f7f1949f41d3aa7cfce090562871bec2138872d2ea0064fe953"), looks := false }, kinds := [], alts := [], laidByText := true, laidKinds := [.data, .data, .data, .listed, .data], laidTests := true, laidLooks := .later }
def WorldsTextsCardSaid : Prop := Claim7.holds Tryd.pinned (.plain (OpenSpec.ofChange worldsTextsSpec)) worldsTextsCard

/-- THE TIED CARD OF 'dictumlaw17.WorldsOrder'. -/
def worldsOrderCard : Claim7 := { stood := { row := worldsOrderRow, standIns := [], harness := (true, "cf0a6b13600e7f7f1949f41d3aa7cfce090562871bec2138872d2ea0064fe953"), looks := false }, kinds := [], alts := [], laidByText := true, laidKinds := [.data, .data, .data, .listed, .data], laidTests := true, laidLooks := .later }
def WorldsOrderCardSaid : Prop := Claim7.holds Tryd.pinned (.plain (OpenSpec.ofChange worldsOrderSpec)) worldsOrderCard

/-- THE SECOND FORM's CARD OF 'dictumlaw17.WorldsTexts'. -/
def worldsTextsUptoCard : Claim7 := { stood := { row := worldsTextsUptoRow, standIns := [], harness := (true, "cf0a6b13600e7f7f1949f41d3aa7cfce090562871bec2138872d2ea0064fe953"), looks := false }, kinds := [], alts := [], laidByText := true, laidKinds := [.data, .data, .data, .listed, .data], laidTests := true, laidLooks := .later }
def WorldsTextsUptoCardSaid : Prop := Claim7.holds Tryd.pinned (.plain (OpenSpec.upto worldsTextsSpec)) worldsTextsUptoCard

/-- THE SECOND FORM's CARD OF 'dictumlaw17.WorldsOrder'. -/
def worldsOrderUptoCard : Claim7 := { stood := { row := worldsOrderUptoRow, standIns := [], harness := (true, "cf0a6b13600e7f7f1949f41d3aa7cfce090562871bec2138872d2ea0064fe953"), looks := false }, kinds := [], alts := [], laidByText := true, laidKinds := [.data, .data, .data, .listed, .data], laidTests := true, laidLooks := .later }
def WorldsOrderUptoCardSaid : Prop := Claim7.holds Tryd.pinned (.plain (OpenSpec.upto worldsOrderSpec)) worldsOrderUptoCard
end Rows
end Go.Proofs.YtjbnbaiidpdpoaaDoor
