/-
  DERIVED. GIVEN WITH THE SEED: THE CARDS: each row of YtkmmlimekachbabGreatDoorRows.lean that lists a variable, with what it lists TIED to the program's text (the seventh form; the later family's looks); each row that meets fmt, with fmt's text TOLD by the authors' own Lean function (tested against real Go, not proved from fmt's source: count such statements apart). THE CARD IS WHAT COUNTS. Prove the row's statement (the work); the ties are given (YtkmmlimekachbabGreatDoorTie.lean); close each card by the builder's one call (the guide's Derived/Test/ToyasCard.lean, 'card_holds'). Laid BY PROGRAM, IN A SANDBOX (cutbox-door.mjs). By AI agents, Wed Nov 11 2026. No macro, syntax, notation, axiom, sorry.
-/
import Derived.Test.YtkmmlimekachbabGreatDoorRows
import GoSem.ClaimSeven
namespace Go.Proofs.YtkmmlimekachbabGreatDoor
namespace Rows

/-- THE TIED CARD OF 'dictumlaw08.SequentOrder'. -/
def sequentOrderCard : Claim7 := { stood := { row := sequentOrderRow, standIns := [], harness := (true, "482d85cb548ad7305ab44b76cdf1a8d41f6d7d910e944eb1934f0598c567bd7b"), looks := true }, kinds := [], alts := [], laidByText := true, laidKinds := [.data, .data, .data, .pinned], laidTests := true, laidLooks := .later }
def SequentOrderCardSaid : Prop := Claim7.holds Tryz.pinned (.plain (OpenSpec.ofChange sequentOrderSpec)) sequentOrderCard

/-- THE TIED CARD OF 'dictumlaw08.SequentNobody'. -/
def sequentNobodyCard : Claim7 := { stood := { row := sequentNobodyRow, standIns := [], harness := (true, "482d85cb548ad7305ab44b76cdf1a8d41f6d7d910e944eb1934f0598c567bd7b"), looks := true }, kinds := [], alts := [], laidByText := true, laidKinds := [.data, .data, .data, .pinned], laidTests := true, laidLooks := .later }
def SequentNobodyCardSaid : Prop := Claim7.holds Tryz.pinned (.plain (OpenSpec.ofChange sequentNobodySpec)) sequentNobodyCard

/-- THE SECOND FORM's CARD OF 'dictumlaw08.SequentOrder'. -/
def sequentOrderUptoCard : Claim7 := { stood := { row := sequentOrderUptoRow, standIns := [], harness := (true, "482d85cb548ad7305ab44b76cdf1a8d41f6d7d910e944eb1934f0598c567bd7b"), looks := true }, kinds := [], alts := [], laidByText := true, laidKinds := [.data, .data, .data, .pinned], laidTests := true, laidLooks := .later }
def SequentOrderUptoCardSaid : Prop := Claim7.holds Tryz.pinned (.plain (OpenSpec.upto sequentOrderSpec)) sequentOrderUptoCard

/-- THE SECOND FORM's CARD OF 'dictumlaw08.SequentNobody'. -/
def sequentNobodyUptoCard : Claim7 := { stood := { row := sequentNobodyUptoRow, standIns := [], harness := (true, "482d85cb548ad7305ab44b76cdf1a8d41f6d7d910e944eb1934f0598c567bd7b"), looks := true }, kinds := [], alts := [], laidByText := true, laidKinds := [.data, .data, .data, .pinned], laidTests := true, laidLooks := .later }
def SequentNobodyUptoCardSaid : Prop := Claim7.holds Tryz.pinned (.plain (OpenSpec.upto sequentNobodySpec)) sequentNobodyUptoCard
end Rows
end Go.Proofs.YtkmmlimekachbabGreatDoor
