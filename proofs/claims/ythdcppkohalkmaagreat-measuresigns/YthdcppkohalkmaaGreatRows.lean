/-
  No cell of these rows narrows 'for every input' (looked for: loops, veiled, ifaces, maps, wideKeys, modest, calm, conditions, laid).
  DERIVED. THE GIVEN ROWS OF THIS SEAT. 4 by the template 'for every input the law returns true; each argument reads behind the call as it read before'; 0 by the template 'total and deterministic' (their statements: YthdcppkohalkmaaGreatTotals.lean).
  GIVEN WITH THE SEED: the statements are not yours to turn. If you find one false, say at which input.
  Laid BY PROGRAM, IN A SANDBOX (cutbox-rows.mjs): the forced cells as the released guide's own fill.sh prints them over the translation 34ccfae1b01706a6… (all of the seat's roots in one cut). By AI agents, Wed Nov 11 2026. No macro, syntax, notation, axiom, sorry.
-/
import Derived.Test.YthdcppkohalkmaaGreatChecked
import GoSem.Claim
import GoSem.ClaimJoined
import GoSem.ClaimMapViews
import Derived.JoinedTies
import Derived.KernelRfl
namespace Go.Proofs.YthdcppkohalkmaaGreat
/- THE CELL 'sum', in the pinned program and in every row, IS THE sha256 OF THE DUMP (.gsa) THAT YthdcppkohalkmaaGreatProg.lean LOADS. Nothing in Lean hashes anything: it is a label: what it is worth is what the hold of that sum in a sandbox is worth. -/
noncomputable def Tryz.pinned : Pinned := { name := "ythdcppkohalkmaagreat", sum := "34ccfae1b01706a68e2ce1a96ff4d6f88bbc75922a81047f08c9153608bb47b2", checked := Tryz.checked }
namespace Rows
def none {H : Type} : Left H := { results := [], args := [] }

/-- 'dictumlaw06.MeasureTells': WHATEVER THE INPUT: true; the input reads as it did. -/
def measureTellsSpec : ChangeSpec := { name := "measureTells", fn := fun _ => fun
  | [d1, d2] => { results := [.lit (.bool true)], args := [d1, d2] }
  | _ => none }
def measureTellsRow : OpenClaim := { program := "ythdcppkohalkmaagreat", sum := "34ccfae1b01706a68e2ce1a96ff4d6f88bbc75922a81047f08c9153608bb47b2", func := "dictum/dictumlaw06.MeasureTells", spec := "measureTells", unfollowed := true, recurses := true, plainKeys := false, apart := false }
def MeasureTellsSaid : Prop := measureTellsRow.holds Tryz.pinned (OpenSpec.ofChange measureTellsSpec)

/-- ITS FALSE NEIGHBOUR: 'it returns false'. Refute it at one input. -/
def measureTellsWrong : ChangeSpec := { name := "measureTells", fn := fun _ => fun
  | [d1, d2] => { results := [.lit (.bool false)], args := [d1, d2] }
  | _ => none }
def MeasureTellsWrongFalsely : Prop := measureTellsRow.holds Tryz.pinned (OpenSpec.ofChange measureTellsWrong)

/-- 'dictumlaw06.MeasureSigns': WHATEVER THE INPUT: true; the input reads as it did. -/
def measureSignsSpec : ChangeSpec := { name := "measureSigns", fn := fun _ => fun
  | [d1, d2, d3] => { results := [.lit (.bool true)], args := [d1, d2, d3] }
  | _ => none }
def measureSignsRow : OpenClaim := { program := "ythdcppkohalkmaagreat", sum := "34ccfae1b01706a68e2ce1a96ff4d6f88bbc75922a81047f08c9153608bb47b2", func := "dictum/dictumlaw06.MeasureSigns", spec := "measureSigns", unfollowed := true, recurses := true, plainKeys := false, apart := false }
def MeasureSignsSaid : Prop := measureSignsRow.holds Tryz.pinned (OpenSpec.ofChange measureSignsSpec)

/-- ITS FALSE NEIGHBOUR: 'it returns false'. Refute it at one input. -/
def measureSignsWrong : ChangeSpec := { name := "measureSigns", fn := fun _ => fun
  | [d1, d2, d3] => { results := [.lit (.bool false)], args := [d1, d2, d3] }
  | _ => none }
def MeasureSignsWrongFalsely : Prop := measureSignsRow.holds Tryz.pinned (OpenSpec.ofChange measureSignsWrong)

/-- 'dictumlaw06.MeasureRows': WHATEVER THE INPUT: true; the input reads as it did. -/
def measureRowsSpec : ChangeSpec := { name := "measureRows", fn := fun _ => fun
  | [d1, d2, d3, d4] => { results := [.lit (.bool true)], args := [d1, d2, d3, d4] }
  | _ => none }
def measureRowsRow : OpenClaim := { program := "ythdcppkohalkmaagreat", sum := "34ccfae1b01706a68e2ce1a96ff4d6f88bbc75922a81047f08c9153608bb47b2", func := "dictum/dictumlaw06.MeasureRows", spec := "measureRows", unfollowed := true, recurses := true, plainKeys := false, apart := false }
def MeasureRowsSaid : Prop := measureRowsRow.holds Tryz.pinned (OpenSpec.ofChange measureRowsSpec)

/-- ITS FALSE NEIGHBOUR: 'it returns false'. Refute it at one input. -/
def measureRowsWrong : ChangeSpec := { name := "measureRows", fn := fun _ => fun
  | [d1, d2, d3, d4] => { results := [.lit (.bool false)], args := [d1, d2, d3, d4] }
  | _ => none }
def MeasureRowsWrongFalsely : Prop := measureRowsRow.holds Tryz.pinned (OpenSpec.ofChange measureRowsWrong)

/-- 'dictumlaw06.MeasureSums': WHATEVER THE INPUT: true; the input reads as it did. -/
def measureSumsSpec : ChangeSpec := { name := "measureSums", fn := fun _ => fun
  | [d1, d2] => { results := [.lit (.bool true)], args := [d1, d2] }
  | _ => none }
def measureSumsRow : OpenClaim := { program := "ythdcppkohalkmaagreat", sum := "34ccfae1b01706a68e2ce1a96ff4d6f88bbc75922a81047f08c9153608bb47b2", func := "dictum/dictumlaw06.MeasureSums", spec := "measureSums", unfollowed := true, recurses := true, plainKeys := false, apart := false }
def MeasureSumsSaid : Prop := measureSumsRow.holds Tryz.pinned (OpenSpec.ofChange measureSumsSpec)

/-- ITS FALSE NEIGHBOUR: 'it returns false'. Refute it at one input. -/
def measureSumsWrong : ChangeSpec := { name := "measureSums", fn := fun _ => fun
  | [d1, d2] => { results := [.lit (.bool false)], args := [d1, d2] }
  | _ => none }
def MeasureSumsWrongFalsely : Prop := measureSumsRow.holds Tryz.pinned (OpenSpec.ofChange measureSumsWrong)

/- THE SECOND FORM. 'bulk': how many values and letters a reading holds, each counted each time it is reached (what is shared counts as often as it is met; a slice's spare places count too). A statement '..UptoSaid' is the law's where the arguments, and the package variables that the reading takes, are together of bulk at most 1048576: NARROWER than '..Said'. Prove '..Said' where nothing that the law and all that it calls make is longer than what came in: it says more and counts as full. Else prove '..UptoSaid'. A law counts once. -/
mutual
def uptoBulk {H : Type} : DataW H → Nat
  | .lit (.string bytes) => bytes.length + 1
  | .lit _ => 1
  | .nil => 1
  | .ptr d => uptoBulk d + 1
  | .slice elems spare => uptoBulkAll elems + uptoBulkAll spare + 1
  | .agg parts => uptoBulkAll parts + 1
  | .iface _ d => uptoBulk d + 1
  | .map entries => uptoBulkEntries entries + 1
  | .held _ => 1
def uptoBulkAll {H : Type} : List (DataW H) → Nat
  | [] => 0
  | d :: r => uptoBulk d + uptoBulkAll r
def uptoBulkEntries {H : Type} : List (Lit × DataW H) → Nat
  | [] => 0
  | x :: r => uptoBulkEntry x + uptoBulkEntries r
def uptoBulkEntry {H : Type} : Lit × DataW H → Nat
  | (.string bytes, d) => bytes.length + uptoBulk d + 1
  | (_, d) => uptoBulk d + 1
 end
def uptoSmall : (H : Type) → List (DataW H) → Bool := fun _ ds => decide (uptoBulkAll ds ≤ 1048576)
def OpenSpec.upto (s : _root_.Go.ChangeSpec) : _root_.Go.OpenSpec := { _root_.Go.OpenSpec.ofChange s with cond := some uptoSmall }

/-- 'dictumlaw06.MeasureTells', WHERE WHAT IT READS IS OF BULK AT MOST 1048576: true; the input reads as it did. -/
def measureTellsUptoRow : OpenClaim := { program := "ythdcppkohalkmaagreat", sum := "34ccfae1b01706a68e2ce1a96ff4d6f88bbc75922a81047f08c9153608bb47b2", func := "dictum/dictumlaw06.MeasureTells", spec := "measureTells", unfollowed := true, recurses := true, plainKeys := false, apart := false, narrowed := true }
def MeasureTellsUptoSaid : Prop := measureTellsUptoRow.holds Tryz.pinned (OpenSpec.upto measureTellsSpec)

/-- 'dictumlaw06.MeasureSigns', WHERE WHAT IT READS IS OF BULK AT MOST 1048576: true; the input reads as it did. -/
def measureSignsUptoRow : OpenClaim := { program := "ythdcppkohalkmaagreat", sum := "34ccfae1b01706a68e2ce1a96ff4d6f88bbc75922a81047f08c9153608bb47b2", func := "dictum/dictumlaw06.MeasureSigns", spec := "measureSigns", unfollowed := true, recurses := true, plainKeys := false, apart := false, narrowed := true }
def MeasureSignsUptoSaid : Prop := measureSignsUptoRow.holds Tryz.pinned (OpenSpec.upto measureSignsSpec)

/-- 'dictumlaw06.MeasureRows', WHERE WHAT IT READS IS OF BULK AT MOST 1048576: true; the input reads as it did. -/
def measureRowsUptoRow : OpenClaim := { program := "ythdcppkohalkmaagreat", sum := "34ccfae1b01706a68e2ce1a96ff4d6f88bbc75922a81047f08c9153608bb47b2", func := "dictum/dictumlaw06.MeasureRows", spec := "measureRows", unfollowed := true, recurses := true, plainKeys := false, apart := false, narrowed := true }
def MeasureRowsUptoSaid : Prop := measureRowsUptoRow.holds Tryz.pinned (OpenSpec.upto measureRowsSpec)

/-- 'dictumlaw06.MeasureSums', WHERE WHAT IT READS IS OF BULK AT MOST 1048576: true; the input reads as it did. -/
def measureSumsUptoRow : OpenClaim := { program := "ythdcppkohalkmaagreat", sum := "34ccfae1b01706a68e2ce1a96ff4d6f88bbc75922a81047f08c9153608bb47b2", func := "dictum/dictumlaw06.MeasureSums", spec := "measureSums", unfollowed := true, recurses := true, plainKeys := false, apart := false, narrowed := true }
def MeasureSumsUptoSaid : Prop := measureSumsUptoRow.holds Tryz.pinned (OpenSpec.upto measureSumsSpec)

end Rows
end Go.Proofs.YthdcppkohalkmaaGreat
