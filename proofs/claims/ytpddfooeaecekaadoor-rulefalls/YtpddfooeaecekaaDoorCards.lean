/-
  DERIVED. GIVEN WITH THE SEED: THE CARDS: each row of YtpddfooeaecekaaDoorRows.lean that lists a variable, with what it lists TIED to the program's text (the seventh form; the later family's looks); each row that meets fmt, with fmt's text TOLD by the authors' own Lean function (tested against real Go, not proved from fmt's source: count such statements apart). THE CARD IS WHAT COUNTS. Prove the row's statement (the work); the ties are given (YtpddfooeaecekaaDoorTie.lean); close each card by the builder's one call (the guide's Derived/Test/ToyasCard.lean, 'card_holds'). Laid BY PROGRAM, IN A SANDBOX (cutbox-door.mjs). By AI agents, Wed Nov 11 2026. No macro, syntax, notation, axiom, sorry.
-/
import Derived.Test.YtpddfooeaecekaaDoorRows
import GoSem.ClaimSeven
namespace Go.Proofs.YtpddfooeaecekaaDoor
namespace Rows

/-- THE TIED CARD OF 'dictumlaw09.RuleFalls'. -/
def ruleFallsCard : Claim7 := { stood := { row := ruleFallsRow, standIns := [], harness := (true, "39692655ec31b5eda2abe766fdfa4981b5be63f86dd250e8d657c10efc2ad5d7"), looks := false }, kinds := [], alts := [], laidByText := true, laidKinds := [.data], laidTests := true, laidLooks := .later }
def RuleFallsCardSaid : Prop := Claim7.holds Tryd.pinned (.plain (OpenSpec.ofChange ruleFallsSpec)) ruleFallsCard

/-- THE TIED CARD OF 'dictumlaw09.RuleTruth'. -/
def ruleTruthCard : Claim7 := { stood := { row := ruleTruthRow, standIns := [], harness := (true, "39692655ec31b5eda2abe766fdfa4981b5be63f86dd250e8d657c10efc2ad5d7"), looks := false }, kinds := [], alts := [], laidByText := true, laidKinds := [.data], laidTests := true, laidLooks := .later }
def RuleTruthCardSaid : Prop := Claim7.holds Tryd.pinned (.plain (OpenSpec.ofChange ruleTruthSpec)) ruleTruthCard

/-- THE TIED CARD OF 'dictumlaw09.RuleNobody'. -/
def ruleNobodyCard : Claim7 := { stood := { row := ruleNobodyRow, standIns := [], harness := (true, "39692655ec31b5eda2abe766fdfa4981b5be63f86dd250e8d657c10efc2ad5d7"), looks := false }, kinds := [], alts := [], laidByText := true, laidKinds := [.data], laidTests := true, laidLooks := .later }
def RuleNobodyCardSaid : Prop := Claim7.holds Tryd.pinned (.plain (OpenSpec.ofChange ruleNobodySpec)) ruleNobodyCard

/-- THE SECOND FORM's CARD OF 'dictumlaw09.RuleFalls'. -/
def ruleFallsUptoCard : Claim7 := { stood := { row := ruleFallsUptoRow, standIns := [], harness := (true, "39692655ec31b5eda2abe766fdfa4981b5be63f86dd250e8d657c10efc2ad5d7"), looks := false }, kinds := [], alts := [], laidByText := true, laidKinds := [.data], laidTests := true, laidLooks := .later }
def RuleFallsUptoCardSaid : Prop := Claim7.holds Tryd.pinned (.plain (OpenSpec.upto ruleFallsSpec)) ruleFallsUptoCard

/-- THE SECOND FORM's CARD OF 'dictumlaw09.RuleTruth'. -/
def ruleTruthUptoCard : Claim7 := { stood := { row := ruleTruthUptoRow, standIns := [], harness := (true, "39692655ec31b5eda2abe766fdfa4981b5be63f86dd250e8d657c10efc2ad5d7"), looks := false }, kinds := [], alts := [], laidByText := true, laidKinds := [.data], laidTests := true, laidLooks := .later }
def RuleTruthUptoCardSaid : Prop := Claim7.holds Tryd.pinned (.plain (OpenSpec.upto ruleTruthSpec)) ruleTruthUptoCard

/-- THE SECOND FORM's CARD OF 'dictumlaw09.RuleNobody'. -/
def ruleNobodyUptoCard : Claim7 := { stood := { row := ruleNobodyUptoRow, standIns := [], harness := (true, "39692655ec31b5eda2abe766fdfa4981b5be63f86dd250e8d657c10efc2ad5d7"), looks := false }, kinds := [], alts := [], laidByText := true, laidKinds := [.data], laidTests := true, laidLooks := .later }
def RuleNobodyUptoCardSaid : Prop := Claim7.holds Tryd.pinned (.plain (OpenSpec.upto ruleNobodySpec)) ruleNobodyUptoCard
end Rows
end Go.Proofs.YtpddfooeaecekaaDoor
