/-
  DERIVED. GIVEN WITH THE SEED: THE CARDS: each row of YtkpbpecikibohaaDoorRows.lean that lists a variable, with what it lists TIED to the program's text (the seventh form; the later family's looks); each row that meets fmt, with fmt's text TOLD by the authors' own Lean function (tested against real Go, not proved from fmt's source: count such statements apart). THE CARD IS WHAT COUNTS. Prove the row's statement (the work); the ties are given (YtkpbpecikibohaaDoorTie.lean); close each card by the builder's one call (the guide's Derived/Test/ToyasCard.lean, 'card_holds'). Laid BY PROGRAM, IN A SANDBOX (cutbox-door.mjs). By AI agents, Wed Nov 11 2026. No macro, syntax, notation, axiom, sorry.
-/
import Derived.Test.YtkpbpecikibohaaDoorRows
import GoSem.ClaimSeven
namespace Go.Proofs.YtkpbpecikibohaaDoor
namespace Rows

/-- THE TIED CARD OF 'dictumlaw13.TypesOne'. -/
def typesOneCard : Claim7 := { stood := { row := typesOneRow, standIns := [], harness := (true, "922bb873c80fbaac74e3a0198224ee6cfdede5010933f798c20e29b5526e3cd0"), looks := true }, kinds := [], alts := [], laidByText := true, laidKinds := [.handle, .data], laidTests := true, laidLooks := .later }
def TypesOneCardSaid : Prop := Claim7.holds Tryd.pinned (.plain (OpenSpec.ofChange typesOneSpec)) typesOneCard

/-- THE TIED CARD OF 'dictumlaw13.TypesNobody'. -/
def typesNobodyCard : Claim7 := { stood := { row := typesNobodyRow, standIns := [], harness := (true, "922bb873c80fbaac74e3a0198224ee6cfdede5010933f798c20e29b5526e3cd0"), looks := true }, kinds := [], alts := [], laidByText := true, laidKinds := [.handle, .data], laidTests := true, laidLooks := .later }
def TypesNobodyCardSaid : Prop := Claim7.holds Tryd.pinned (.plain (OpenSpec.ofChange typesNobodySpec)) typesNobodyCard

/-- THE SECOND FORM's CARD OF 'dictumlaw13.TypesOne'. -/
def typesOneUptoCard : Claim7 := { stood := { row := typesOneUptoRow, standIns := [], harness := (true, "922bb873c80fbaac74e3a0198224ee6cfdede5010933f798c20e29b5526e3cd0"), looks := true }, kinds := [], alts := [], laidByText := true, laidKinds := [.handle, .data], laidTests := true, laidLooks := .later }
def TypesOneUptoCardSaid : Prop := Claim7.holds Tryd.pinned (.plain (OpenSpec.upto typesOneSpec)) typesOneUptoCard

/-- THE SECOND FORM's CARD OF 'dictumlaw13.TypesNobody'. -/
def typesNobodyUptoCard : Claim7 := { stood := { row := typesNobodyUptoRow, standIns := [], harness := (true, "922bb873c80fbaac74e3a0198224ee6cfdede5010933f798c20e29b5526e3cd0"), looks := true }, kinds := [], alts := [], laidByText := true, laidKinds := [.handle, .data], laidTests := true, laidLooks := .later }
def TypesNobodyUptoCardSaid : Prop := Claim7.holds Tryd.pinned (.plain (OpenSpec.upto typesNobodySpec)) typesNobodyUptoCard
end Rows
end Go.Proofs.YtkpbpecikibohaaDoor
