/-
  No cell of these rows narrows 'for every input' (looked for: loops, veiled, ifaces, maps, wideKeys, modest, calm, conditions, laid).
  DERIVED. THE GIVEN ROWS OF THIS SEAT. 5 by the template 'for every input the law returns true; each argument reads behind the call as it read before'; 0 by the template 'total and deterministic' (their statements: YtphoeedccknihaaTotals.lean).
  GIVEN WITH THE SEED: the statements are not yours to turn. If you find one false, say at which input.
  Laid BY PROGRAM, IN A SANDBOX (cutbox-rows.mjs): the forced cells as the released guide's own fill.sh prints them over the translation 164815bec8e9e73b… (all of the seat's roots in one cut). By AI agents, Wed Nov 11 2026. No macro, syntax, notation, axiom, sorry.
-/
import Derived.Test.YtphoeedccknihaaChecked
import GoSem.Claim
import GoSem.ClaimJoined
import GoSem.ClaimMapViews
import Derived.JoinedTies
import Derived.KernelRfl
namespace Go.Proofs.Ytphoeedccknihaa
/- THE CELL 'sum', in the pinned program and in every row, IS THE sha256 OF THE DUMP (.gsa) THAT YtphoeedccknihaaProg.lean LOADS. Nothing in Lean hashes anything: it is a label: what it is worth is what the hold of that sum in a sandbox is worth. -/
noncomputable def Try.pinned : Pinned := { name := "ytphoeedccknihaa", sum := "164815bec8e9e73ba179fac094a0655fb68d334d5072bc311d3789efdb31e072", checked := Try.checked }
namespace Rows
def none {H : Type} : Left H := { results := [], args := [] }

/-- 'dictumlaw03.FormulaPlays': WHATEVER THE INPUT: true; the input reads as it did. -/
def formulaPlaysSpec : ChangeSpec := { name := "formulaPlays", fn := fun _ => fun
  | [d1, d2] => { results := [.lit (.bool true)], args := [d1, d2] }
  | _ => none }
def formulaPlaysRow : OpenClaim := { program := "ytphoeedccknihaa", sum := "164815bec8e9e73ba179fac094a0655fb68d334d5072bc311d3789efdb31e072", func := "dictum/dictumlaw03.FormulaPlays", spec := "formulaPlays", inPlace := ["maps.clone"], plainKeys := false, apart := false }
def FormulaPlaysSaid : Prop := formulaPlaysRow.holds Try.pinned (OpenSpec.ofChange formulaPlaysSpec)

/-- ITS FALSE NEIGHBOUR: 'it returns false'. Refute it at one input. -/
def formulaPlaysWrong : ChangeSpec := { name := "formulaPlays", fn := fun _ => fun
  | [d1, d2] => { results := [.lit (.bool false)], args := [d1, d2] }
  | _ => none }
def FormulaPlaysWrongFalsely : Prop := formulaPlaysRow.holds Try.pinned (OpenSpec.ofChange formulaPlaysWrong)

/-- 'dictumlaw03.FormulaFrom': WHATEVER THE INPUT: true; the input reads as it did. -/
def formulaFromSpec : ChangeSpec := { name := "formulaFrom", fn := fun _ => fun
  | [d] => { results := [.lit (.bool true)], args := [d] }
  | _ => none }
def formulaFromRow : OpenClaim := { program := "ytphoeedccknihaa", sum := "164815bec8e9e73ba179fac094a0655fb68d334d5072bc311d3789efdb31e072", func := "dictum/dictumlaw03.FormulaFrom", spec := "formulaFrom", plainKeys := false, apart := false }
def FormulaFromSaid : Prop := formulaFromRow.holds Try.pinned (OpenSpec.ofChange formulaFromSpec)

/-- ITS FALSE NEIGHBOUR: 'it returns false'. Refute it at one input. -/
def formulaFromWrong : ChangeSpec := { name := "formulaFrom", fn := fun _ => fun
  | [d] => { results := [.lit (.bool false)], args := [d] }
  | _ => none }
def FormulaFromWrongFalsely : Prop := formulaFromRow.holds Try.pinned (OpenSpec.ofChange formulaFromWrong)

/-- 'dictumlaw03.FormulaWords': WHATEVER THE INPUT: true; the input reads as it did. -/
def formulaWordsSpec : ChangeSpec := { name := "formulaWords", fn := fun _ => fun
  | [d] => { results := [.lit (.bool true)], args := [d] }
  | _ => none }
def formulaWordsRow : OpenClaim := { program := "ytphoeedccknihaa", sum := "164815bec8e9e73ba179fac094a0655fb68d334d5072bc311d3789efdb31e072", func := "dictum/dictumlaw03.FormulaWords", spec := "formulaWords", plainKeys := false, apart := false }
def FormulaWordsSaid : Prop := formulaWordsRow.holds Try.pinned (OpenSpec.ofChange formulaWordsSpec)

/-- ITS FALSE NEIGHBOUR: 'it returns false'. Refute it at one input. -/
def formulaWordsWrong : ChangeSpec := { name := "formulaWords", fn := fun _ => fun
  | [d] => { results := [.lit (.bool false)], args := [d] }
  | _ => none }
def FormulaWordsWrongFalsely : Prop := formulaWordsRow.holds Try.pinned (OpenSpec.ofChange formulaWordsWrong)

/-- 'dictumlaw03.FormulaOnce': WHATEVER THE INPUT: true; the input reads as it did. -/
def formulaOnceSpec : ChangeSpec := { name := "formulaOnce", fn := fun _ => fun
  | [d1, d2] => { results := [.lit (.bool true)], args := [d1, d2] }
  | _ => none }
def formulaOnceRow : OpenClaim := { program := "ytphoeedccknihaa", sum := "164815bec8e9e73ba179fac094a0655fb68d334d5072bc311d3789efdb31e072", func := "dictum/dictumlaw03.FormulaOnce", spec := "formulaOnce", inPlace := ["maps.clone"], plainKeys := false, apart := false }
def FormulaOnceSaid : Prop := formulaOnceRow.holds Try.pinned (OpenSpec.ofChange formulaOnceSpec)

/-- ITS FALSE NEIGHBOUR: 'it returns false'. Refute it at one input. -/
def formulaOnceWrong : ChangeSpec := { name := "formulaOnce", fn := fun _ => fun
  | [d1, d2] => { results := [.lit (.bool false)], args := [d1, d2] }
  | _ => none }
def FormulaOnceWrongFalsely : Prop := formulaOnceRow.holds Try.pinned (OpenSpec.ofChange formulaOnceWrong)

/-- 'dictumlaw03.FormulaNobody': WHATEVER THE INPUT: true; the input reads as it did. -/
def formulaNobodySpec : ChangeSpec := { name := "formulaNobody", fn := fun _ => fun
  | [d1, d2] => { results := [.lit (.bool true)], args := [d1, d2] }
  | _ => none }
def formulaNobodyRow : OpenClaim := { program := "ytphoeedccknihaa", sum := "164815bec8e9e73ba179fac094a0655fb68d334d5072bc311d3789efdb31e072", func := "dictum/dictumlaw03.FormulaNobody", spec := "formulaNobody", inPlace := ["maps.clone"], plainKeys := false, apart := false }
def FormulaNobodySaid : Prop := formulaNobodyRow.holds Try.pinned (OpenSpec.ofChange formulaNobodySpec)

/-- ITS FALSE NEIGHBOUR: 'it returns false'. Refute it at one input. -/
def formulaNobodyWrong : ChangeSpec := { name := "formulaNobody", fn := fun _ => fun
  | [d1, d2] => { results := [.lit (.bool false)], args := [d1, d2] }
  | _ => none }
def FormulaNobodyWrongFalsely : Prop := formulaNobodyRow.holds Try.pinned (OpenSpec.ofChange formulaNobodyWrong)

/- THE SECOND FORM. 'bulk': how many values and letters a reading holds, each counted each time it is reached (what is shared counts as often as it is met; a slice's spare places count too). A statement '..UptoSaid' is the law's where the arguments, and the package variables that the reading takes, are together of bulk at most 1048576: NARROWER than '..Said'. Prove '..Said' where nothing that the law and all that it calls make is longer than what came in: it says more and counts as full. Else prove '..UptoSaid'. A law counts once. -/
mutual
def uptoBulk {H : Type} : DataW H → Nat
  | .lit (.string bytes) => bytes.length + 1
  | .lit _ => 1
  | .nil => 1
  | .ptr d => uptoBulk d + 1
  | .slice elems spare => uptoBulkAll elems + uptoBulkAll spare + 1
  | .agg parts => uptoBulkAll parts + 1
  | .iface _ d => uptoBulk d + 1
  | .map entries => uptoBulkEntries entries + 1
  | .held _ => 1
def uptoBulkAll {H : Type} : List (DataW H) → Nat
  | [] => 0
  | d :: r => uptoBulk d + uptoBulkAll r
def uptoBulkEntries {H : Type} : List (Lit × DataW H) → Nat
  | [] => 0
  | x :: r => uptoBulkEntry x + uptoBulkEntries r
def uptoBulkEntry {H : Type} : Lit × DataW H → Nat
  | (.string bytes, d) => bytes.length + uptoBulk d + 1
  | (_, d) => uptoBulk d + 1
 end
def uptoSmall : (H : Type) → List (DataW H) → Bool := fun _ ds => decide (uptoBulkAll ds ≤ 1048576)
def OpenSpec.upto (s : _root_.Go.ChangeSpec) : _root_.Go.OpenSpec := { _root_.Go.OpenSpec.ofChange s with cond := some uptoSmall }

/-- 'dictumlaw03.FormulaPlays', WHERE WHAT IT READS IS OF BULK AT MOST 1048576: true; the input reads as it did. -/
def formulaPlaysUptoRow : OpenClaim := { program := "ytphoeedccknihaa", sum := "164815bec8e9e73ba179fac094a0655fb68d334d5072bc311d3789efdb31e072", func := "dictum/dictumlaw03.FormulaPlays", spec := "formulaPlays", inPlace := ["maps.clone"], plainKeys := false, apart := false, narrowed := true }
def FormulaPlaysUptoSaid : Prop := formulaPlaysUptoRow.holds Try.pinned (OpenSpec.upto formulaPlaysSpec)

/-- 'dictumlaw03.FormulaFrom', WHERE WHAT IT READS IS OF BULK AT MOST 1048576: true; the input reads as it did. -/
def formulaFromUptoRow : OpenClaim := { program := "ytphoeedccknihaa", sum := "164815bec8e9e73ba179fac094a0655fb68d334d5072bc311d3789efdb31e072", func := "dictum/dictumlaw03.FormulaFrom", spec := "formulaFrom", plainKeys := false, apart := false, narrowed := true }
def FormulaFromUptoSaid : Prop := formulaFromUptoRow.holds Try.pinned (OpenSpec.upto formulaFromSpec)

/-- 'dictumlaw03.FormulaWords', WHERE WHAT IT READS IS OF BULK AT MOST 1048576: true; the input reads as it did. -/
def formulaWordsUptoRow : OpenClaim := { program := "ytphoeedccknihaa", sum := "164815bec8e9e73ba179fac094a0655fb68d334d5072bc311d3789efdb31e072", func := "dictum/dictumlaw03.FormulaWords", spec := "formulaWords", plainKeys := false, apart := false, narrowed := true }
def FormulaWordsUptoSaid : Prop := formulaWordsUptoRow.holds Try.pinned (OpenSpec.upto formulaWordsSpec)

/-- 'dictumlaw03.FormulaOnce', WHERE WHAT IT READS IS OF BULK AT MOST 1048576: true; the input reads as it did. -/
def formulaOnceUptoRow : OpenClaim := { program := "ytphoeedccknihaa", sum := "164815bec8e9e73ba179fac094a0655fb68d334d5072bc311d3789efdb31e072", func := "dictum/dictumlaw03.FormulaOnce", spec := "formulaOnce", inPlace := ["maps.clone"], plainKeys := false, apart := false, narrowed := true }
def FormulaOnceUptoSaid : Prop := formulaOnceUptoRow.holds Try.pinned (OpenSpec.upto formulaOnceSpec)

/-- 'dictumlaw03.FormulaNobody', WHERE WHAT IT READS IS OF BULK AT MOST 1048576: true; the input reads as it did. -/
def formulaNobodyUptoRow : OpenClaim := { program := "ytphoeedccknihaa", sum := "164815bec8e9e73ba179fac094a0655fb68d334d5072bc311d3789efdb31e072", func := "dictum/dictumlaw03.FormulaNobody", spec := "formulaNobody", inPlace := ["maps.clone"], plainKeys := false, apart := false, narrowed := true }
def FormulaNobodyUptoSaid : Prop := formulaNobodyUptoRow.holds Try.pinned (OpenSpec.upto formulaNobodySpec)

end Rows
end Go.Proofs.Ytphoeedccknihaa
