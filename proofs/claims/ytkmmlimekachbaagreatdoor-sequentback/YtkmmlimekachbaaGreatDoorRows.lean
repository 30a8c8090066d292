/-
  NARROWER THAN 'FOR EVERY INPUT', by the rows' own cells (each row's printed sentence says how): SequentRight: laid · SequentParses: laid · SequentPrints: laid · SequentForms: laid · SequentBack: laid · SequentTruth: laid.
  DERIVED. THE GIVEN ROWS OF THIS SEAT. 6 by the template 'for every input the law returns true; each argument reads behind the call as it read before'; 0 by the template 'total and deterministic' (their statements: YtkmmlimekachbaaGreatDoorTotals.lean).
  GIVEN WITH THE SEED: the statements are not yours to turn. If you find one false, say at which input.
  Laid BY PROGRAM, IN A SANDBOX (cutbox-rows.mjs): the forced cells as the released guide's own fill.sh prints them over the translation f75a6abb01229699… (all of the seat's roots in one cut). By AI agents, Wed Nov 11 2026. No macro, syntax, notation, axiom, sorry.
-/
import Derived.Test.YtkmmlimekachbaaGreatDoorChecked
import GoSem.PinnedTables
import GoSem.Claim
import GoSem.ClaimJoined
import GoSem.ClaimMapViews
import Derived.JoinedTies
import Derived.KernelRfl
namespace Go.Proofs.YtkmmlimekachbaaGreatDoor
/- THE CELL 'sum', in the pinned program and in every row, IS THE sha256 OF THE DUMP (.gsa) THAT YtkmmlimekachbaaGreatDoorProg.lean LOADS. Nothing in Lean hashes anything: it is a label: what it is worth is what the hold of that sum in a sandbox is worth. -/
noncomputable def Tryz.pinned : Pinned := { name := "ytkmmlimekachbaagreatdoor", sum := "f75a6abb012296991932a67fe20eff4e639abcdcb64e712a0fe35a3f70731709", checked := Tryz.checked }
namespace Rows
def none {H : Type} : Left H := { results := [], args := [] }

/- WHAT THE LISTED PACKAGE-LEVEL VARIABLES READ AS WHEN THE CALL BEGINS. Each datum BY PROGRAM (the guide's laid-datum.mjs) off the statement by which the dump's own 'gosem.cut.vars' lays the variable. In a bare row this is a premise. The card (YtkmmlimekachbaaGreatDoorCards.lean) ties it to the program's text. -/
def laid_math_bits_deBruijn64tab {H : Type} : DataW H := .agg [.lit (.int .u8 0), .lit (.int .u8 1), .lit (.int .u8 56), .lit (.int .u8 2), .lit (.int .u8 57), .lit (.int .u8 49), .lit (.int .u8 28), .lit (.int .u8 3), .lit (.int .u8 61), .lit (.int .u8 58), .lit (.int .u8 42), .lit (.int .u8 50), .lit (.int .u8 38), .lit (.int .u8 29), .lit (.int .u8 17), .lit (.int .u8 4), .lit (.int .u8 62), .lit (.int .u8 47), .lit (.int .u8 59), .lit (.int .u8 36), .lit (.int .u8 45), .lit (.int .u8 43), .lit (.int .u8 51), .lit (.int .u8 22), .lit (.int .u8 53), .lit (.int .u8 39), .lit (.int .u8 33), .lit (.int .u8 30), .lit (.int .u8 24), .lit (.int .u8 18), .lit (.int .u8 12), .lit (.int .u8 5), .lit (.int .u8 63), .lit (.int .u8 55), .lit (.int .u8 48), .lit (.int .u8 27), .lit (.int .u8 60), .lit (.int .u8 41), .lit (.int .u8 37), .lit (.int .u8 16), .lit (.int .u8 46), .lit (.int .u8 35), .lit (.int .u8 44), .lit (.int .u8 21), .lit (.int .u8 52), .lit (.int .u8 32), .lit (.int .u8 23), .lit (.int .u8 11), .lit (.int .u8 54), .lit (.int .u8 26), .lit (.int .u8 40), .lit (.int .u8 15), .lit (.int .u8 34), .lit (.int .u8 20), .lit (.int .u8 31), .lit (.int .u8 10), .lit (.int .u8 25), .lit (.int .u8 14), .lit (.int .u8 19), .lit (.int .u8 9), .lit (.int .u8 13), .lit (.int .u8 8), .lit (.int .u8 7), .lit (.int .u8 6)]
def laid_unicode_utf8_acceptRanges {H : Type} : DataW H := .agg [.agg [.lit (.int .u8 128), .lit (.int .u8 191)], .agg [.lit (.int .u8 160), .lit (.int .u8 191)], .agg [.lit (.int .u8 128), .lit (.int .u8 159)], .agg [.lit (.int .u8 144), .lit (.int .u8 191)], .agg [.lit (.int .u8 128), .lit (.int .u8 143)], .agg [.lit (.int .u8 0), .lit (.int .u8 0)], .agg [.lit (.int .u8 0), .lit (.int .u8 0)], .agg [.lit (.int .u8 0), .lit (.int .u8 0)], .agg [.lit (.int .u8 0), .lit (.int .u8 0)], .agg [.lit (.int .u8 0), .lit (.int .u8 0)], .agg [.lit (.int .u8 0), .lit (.int .u8 0)], .agg [.lit (.int .u8 0), .lit (.int .u8 0)], .agg [.lit (.int .u8 0), .lit (.int .u8 0)], .agg [.lit (.int .u8 0), .lit (.int .u8 0)], .agg [.lit (.int .u8 0), .lit (.int .u8 0)], .agg [.lit (.int .u8 0), .lit (.int .u8 0)]]
def laid_dictum_token_signs {H : Type} : DataW H := .agg [.lit (.string [60, 45, 62]), .lit (.string [60, 61]), .lit (.string [61, 62]), .lit (.string [45, 62]), .lit (.string [124, 45]), .lit (.string [126]), .lit (.string [38]), .lit (.string [124]), .lit (.string [40]), .lit (.string [41]), .lit (.string [91]), .lit (.string [93]), .lit (.string [123]), .lit (.string [125]), .lit (.string [44]), .lit (.string [46]), .lit (.string [58]), .lit (.string [59]), .lit (.string [61]), .lit (.string [47])]
/-- One of Go's own tables, pinned by name: the form's constant. -/
def laid_unicode_utf8_first : DataW Unit := Go.Pinned.utf8First

/-- 'dictumlaw08.SequentRight': WHATEVER THE INPUT: true; the input reads as it did. -/
def sequentRightSpec : ChangeSpec := { name := "sequentRight", fn := fun _ => fun
  | [d1, d2, d3, d4] => { results := [.lit (.bool true)], args := [d1, d2, d3, d4] }
  | _ => none }
def sequentRightRow : OpenClaim := { program := "ytkmmlimekachbaagreatdoor", sum := "f75a6abb012296991932a67fe20eff4e639abcdcb64e712a0fe35a3f70731709", func := "dictum/dictumlaw08.SequentRight", spec := "sequentRight", inPlace := ["internal/bytealg.IndexByteString", "internal/abi.NoEscape"], unfollowed := true, recurses := true, named := ["math/bits.deBruijn64tab", "dictum/token.signs", "unicode/utf8.first", "unicode/utf8.acceptRanges"], plainKeys := false, apart := false, laid := [("math/bits.deBruijn64tab", laid_math_bits_deBruijn64tab), ("unicode/utf8.acceptRanges", laid_unicode_utf8_acceptRanges), ("dictum/token.signs", laid_dictum_token_signs), ("unicode/utf8.first", laid_unicode_utf8_first)] }
def SequentRightSaid : Prop := sequentRightRow.holds Tryz.pinned (OpenSpec.ofChange sequentRightSpec)

/-- ITS FALSE NEIGHBOUR: 'it returns false'. Refute it at one input. -/
def sequentRightWrong : ChangeSpec := { name := "sequentRight", fn := fun _ => fun
  | [d1, d2, d3, d4] => { results := [.lit (.bool false)], args := [d1, d2, d3, d4] }
  | _ => none }
def SequentRightWrongFalsely : Prop := sequentRightRow.holds Tryz.pinned (OpenSpec.ofChange sequentRightWrong)

/-- 'dictumlaw08.SequentParses': WHATEVER THE INPUT: true; the input reads as it did. -/
def sequentParsesSpec : ChangeSpec := { name := "sequentParses", fn := fun _ => fun
  | [d1, d2] => { results := [.lit (.bool true)], args := [d1, d2] }
  | _ => none }
def sequentParsesRow : OpenClaim := { program := "ytkmmlimekachbaagreatdoor", sum := "f75a6abb012296991932a67fe20eff4e639abcdcb64e712a0fe35a3f70731709", func := "dictum/dictumlaw08.SequentParses", spec := "sequentParses", inPlace := ["internal/bytealg.IndexByteString", "internal/abi.NoEscape"], unfollowed := true, recurses := true, named := ["dictum/token.signs", "unicode/utf8.first", "unicode/utf8.acceptRanges", "math/bits.deBruijn64tab"], plainKeys := false, apart := false, laid := [("math/bits.deBruijn64tab", laid_math_bits_deBruijn64tab), ("unicode/utf8.acceptRanges", laid_unicode_utf8_acceptRanges), ("dictum/token.signs", laid_dictum_token_signs), ("unicode/utf8.first", laid_unicode_utf8_first)] }
def SequentParsesSaid : Prop := sequentParsesRow.holds Tryz.pinned (OpenSpec.ofChange sequentParsesSpec)

/-- ITS FALSE NEIGHBOUR: 'it returns false'. Refute it at one input. -/
def sequentParsesWrong : ChangeSpec := { name := "sequentParses", fn := fun _ => fun
  | [d1, d2] => { results := [.lit (.bool false)], args := [d1, d2] }
  | _ => none }
def SequentParsesWrongFalsely : Prop := sequentParsesRow.holds Tryz.pinned (OpenSpec.ofChange sequentParsesWrong)

/-- 'dictumlaw08.SequentPrints': WHATEVER THE INPUT: true; the input reads as it did. -/
def sequentPrintsSpec : ChangeSpec := { name := "sequentPrints", fn := fun _ => fun
  | [d1, d2] => { results := [.lit (.bool true)], args := [d1, d2] }
  | _ => none }
def sequentPrintsRow : OpenClaim := { program := "ytkmmlimekachbaagreatdoor", sum := "f75a6abb012296991932a67fe20eff4e639abcdcb64e712a0fe35a3f70731709", func := "dictum/dictumlaw08.SequentPrints", spec := "sequentPrints", inPlace := ["internal/abi.NoEscape", "internal/bytealg.IndexByteString"], unfollowed := true, recurses := true, named := ["math/bits.deBruijn64tab", "dictum/token.signs", "unicode/utf8.first", "unicode/utf8.acceptRanges"], plainKeys := false, apart := false, laid := [("math/bits.deBruijn64tab", laid_math_bits_deBruijn64tab), ("unicode/utf8.acceptRanges", laid_unicode_utf8_acceptRanges), ("dictum/token.signs", laid_dictum_token_signs), ("unicode/utf8.first", laid_unicode_utf8_first)] }
def SequentPrintsSaid : Prop := sequentPrintsRow.holds Tryz.pinned (OpenSpec.ofChange sequentPrintsSpec)

/-- ITS FALSE NEIGHBOUR: 'it returns false'. Refute it at one input. -/
def sequentPrintsWrong : ChangeSpec := { name := "sequentPrints", fn := fun _ => fun
  | [d1, d2] => { results := [.lit (.bool false)], args := [d1, d2] }
  | _ => none }
def SequentPrintsWrongFalsely : Prop := sequentPrintsRow.holds Tryz.pinned (OpenSpec.ofChange sequentPrintsWrong)

/-- 'dictumlaw08.SequentForms': WHATEVER THE INPUT: true; the input reads as it did. -/
def sequentFormsSpec : ChangeSpec := { name := "sequentForms", fn := fun _ => fun
  | [d1, d2, d3] => { results := [.lit (.bool true)], args := [d1, d2, d3] }
  | _ => none }
def sequentFormsRow : OpenClaim := { program := "ytkmmlimekachbaagreatdoor", sum := "f75a6abb012296991932a67fe20eff4e639abcdcb64e712a0fe35a3f70731709", func := "dictum/dictumlaw08.SequentForms", spec := "sequentForms", inPlace := ["internal/bytealg.IndexByteString", "internal/abi.NoEscape"], unfollowed := true, recurses := true, named := ["math/bits.deBruijn64tab", "dictum/token.signs", "unicode/utf8.first", "unicode/utf8.acceptRanges"], plainKeys := false, apart := false, laid := [("math/bits.deBruijn64tab", laid_math_bits_deBruijn64tab), ("unicode/utf8.acceptRanges", laid_unicode_utf8_acceptRanges), ("dictum/token.signs", laid_dictum_token_signs), ("unicode/utf8.first", laid_unicode_utf8_first)] }
def SequentFormsSaid : Prop := sequentFormsRow.holds Tryz.pinned (OpenSpec.ofChange sequentFormsSpec)

/-- ITS FALSE NEIGHBOUR: 'it returns false'. Refute it at one input. -/
def sequentFormsWrong : ChangeSpec := { name := "sequentForms", fn := fun _ => fun
  | [d1, d2, d3] => { results := [.lit (.bool false)], args := [d1, d2, d3] }
  | _ => none }
def SequentFormsWrongFalsely : Prop := sequentFormsRow.holds Tryz.pinned (OpenSpec.ofChange sequentFormsWrong)

/-- 'dictumlaw08.SequentBack': WHATEVER THE INPUT: true; the input reads as it did. -/
def sequentBackSpec : ChangeSpec := { name := "sequentBack", fn := fun _ => fun
  | [d1, d2] => { results := [.lit (.bool true)], args := [d1, d2] }
  | _ => none }
def sequentBackRow : OpenClaim := { program := "ytkmmlimekachbaagreatdoor", sum := "f75a6abb012296991932a67fe20eff4e639abcdcb64e712a0fe35a3f70731709", func := "dictum/dictumlaw08.SequentBack", spec := "sequentBack", inPlace := ["internal/abi.NoEscape", "internal/bytealg.IndexByteString"], unfollowed := true, recurses := true, named := ["math/bits.deBruijn64tab", "dictum/token.signs", "unicode/utf8.first", "unicode/utf8.acceptRanges"], plainKeys := false, apart := false, laid := [("math/bits.deBruijn64tab", laid_math_bits_deBruijn64tab), ("unicode/utf8.acceptRanges", laid_unicode_utf8_acceptRanges), ("dictum/token.signs", laid_dictum_token_signs), ("unicode/utf8.first", laid_unicode_utf8_first)] }
def SequentBackSaid : Prop := sequentBackRow.holds Tryz.pinned (OpenSpec.ofChange sequentBackSpec)

/-- ITS FALSE NEIGHBOUR: 'it returns false'. Refute it at one input. -/
def sequentBackWrong : ChangeSpec := { name := "sequentBack", fn := fun _ => fun
  | [d1, d2] => { results := [.lit (.bool false)], args := [d1, d2] }
  | _ => none }
def SequentBackWrongFalsely : Prop := sequentBackRow.holds Tryz.pinned (OpenSpec.ofChange sequentBackWrong)

/-- 'dictumlaw08.SequentTruth': WHATEVER THE INPUT: true; the input reads as it did. -/
def sequentTruthSpec : ChangeSpec := { name := "sequentTruth", fn := fun _ => fun
  | [d1, d2, d3] => { results := [.lit (.bool true)], args := [d1, d2, d3] }
  | _ => none }
def sequentTruthRow : OpenClaim := { program := "ytkmmlimekachbaagreatdoor", sum := "f75a6abb012296991932a67fe20eff4e639abcdcb64e712a0fe35a3f70731709", func := "dictum/dictumlaw08.SequentTruth", spec := "sequentTruth", inPlace := ["internal/bytealg.IndexByteString", "internal/abi.NoEscape"], unfollowed := true, recurses := true, named := ["math/bits.deBruijn64tab", "dictum/token.signs", "unicode/utf8.first", "unicode/utf8.acceptRanges"], plainKeys := false, apart := false, laid := [("math/bits.deBruijn64tab", laid_math_bits_deBruijn64tab), ("unicode/utf8.acceptRanges", laid_unicode_utf8_acceptRanges), ("dictum/token.signs", laid_dictum_token_signs), ("unicode/utf8.first", laid_unicode_utf8_first)] }
def SequentTruthSaid : Prop := sequentTruthRow.holds Tryz.pinned (OpenSpec.ofChange sequentTruthSpec)

/-- ITS FALSE NEIGHBOUR: 'it returns false'. Refute it at one input. -/
def sequentTruthWrong : ChangeSpec := { name := "sequentTruth", fn := fun _ => fun
  | [d1, d2, d3] => { results := [.lit (.bool false)], args := [d1, d2, d3] }
  | _ => none }
def SequentTruthWrongFalsely : Prop := sequentTruthRow.holds Tryz.pinned (OpenSpec.ofChange sequentTruthWrong)

/- THE SECOND FORM. 'bulk': how many values and letters a reading holds, each counted each time it is reached (what is shared counts as often as it is met; a slice's spare places count too). A statement '..UptoSaid' is the law's where the arguments, and the package variables that the reading takes, are together of bulk at most 1048576: NARROWER than '..Said'. Prove '..Said' where nothing that the law and all that it calls make is longer than what came in: it says more and counts as full. Else prove '..UptoSaid'. A law counts once. -/
mutual
def uptoBulk {H : Type} : DataW H → Nat
  | .lit (.string bytes) => bytes.length + 1
  | .lit _ => 1
  | .nil => 1
  | .ptr d => uptoBulk d + 1
  | .slice elems spare => uptoBulkAll elems + uptoBulkAll spare + 1
  | .agg parts => uptoBulkAll parts + 1
  | .iface _ d => uptoBulk d + 1
  | .map entries => uptoBulkEntries entries + 1
  | .held _ => 1
def uptoBulkAll {H : Type} : List (DataW H) → Nat
  | [] => 0
  | d :: r => uptoBulk d + uptoBulkAll r
def uptoBulkEntries {H : Type} : List (Lit × DataW H) → Nat
  | [] => 0
  | x :: r => uptoBulkEntry x + uptoBulkEntries r
def uptoBulkEntry {H : Type} : Lit × DataW H → Nat
  | (.string bytes, d) => bytes.length + uptoBulk d + 1
  | (_, d) => uptoBulk d + 1
 end
def uptoSmall : (H : Type) → List (DataW H) → Bool := fun _ ds => decide (uptoBulkAll ds ≤ 1048576)
def OpenSpec.upto (s : _root_.Go.ChangeSpec) : _root_.Go.OpenSpec := { _root_.Go.OpenSpec.ofChange s with cond := some uptoSmall }

/-- 'dictumlaw08.SequentRight', WHERE WHAT IT READS IS OF BULK AT MOST 1048576: true; the input reads as it did. -/
def sequentRightUptoRow : OpenClaim := { program := "ytkmmlimekachbaagreatdoor", sum := "f75a6abb012296991932a67fe20eff4e639abcdcb64e712a0fe35a3f70731709", func := "dictum/dictumlaw08.SequentRight", spec := "sequentRight", inPlace := ["internal/bytealg.IndexByteString", "internal/abi.NoEscape"], unfollowed := true, recurses := true, named := ["math/bits.deBruijn64tab", "dictum/token.signs", "unicode/utf8.first", "unicode/utf8.acceptRanges"], plainKeys := false, apart := false, laid := [("math/bits.deBruijn64tab", laid_math_bits_deBruijn64tab), ("unicode/utf8.acceptRanges", laid_unicode_utf8_acceptRanges), ("dictum/token.signs", laid_dictum_token_signs), ("unicode/utf8.first", laid_unicode_utf8_first)], narrowed := true }
def SequentRightUptoSaid : Prop := sequentRightUptoRow.holds Tryz.pinned (OpenSpec.upto sequentRightSpec)

/-- 'dictumlaw08.SequentParses', WHERE WHAT IT READS IS OF BULK AT MOST 1048576: true; the input reads as it did. -/
def sequentParsesUptoRow : OpenClaim := { program := "ytkmmlimekachbaagreatdoor", sum := "f75a6abb012296991932a67fe20eff4e639abcdcb64e712a0fe35a3f70731709", func := "dictum/dictumlaw08.SequentParses", spec := "sequentParses", inPlace := ["internal/bytealg.IndexByteString", "internal/abi.NoEscape"], unfollowed := true, recurses := true, named := ["dictum/token.signs", "unicode/utf8.first", "unicode/utf8.acceptRanges", "math/bits.deBruijn64tab"], plainKeys := false, apart := false, laid := [("math/bits.deBruijn64tab", laid_math_bits_deBruijn64tab), ("unicode/utf8.acceptRanges", laid_unicode_utf8_acceptRanges), ("dictum/token.signs", laid_dictum_token_signs), ("unicode/utf8.first", laid_unicode_utf8_first)], narrowed := true }
def SequentParsesUptoSaid : Prop := sequentParsesUptoRow.holds Tryz.pinned (OpenSpec.upto sequentParsesSpec)

/-- 'dictumlaw08.SequentPrints', WHERE WHAT IT READS IS OF BULK AT MOST 1048576: true; the input reads as it did. -/
def sequentPrintsUptoRow : OpenClaim := { program := "ytkmmlimekachbaagreatdoor", sum := "f75a6abb012296991932a67fe20eff4e639abcdcb64e712a0fe35a3f70731709", func := "dictum/dictumlaw08.SequentPrints", spec := "sequentPrints", inPlace := ["internal/abi.NoEscape", "internal/bytealg.IndexByteString"], unfollowed := true, recurses := true, named := ["math/bits.deBruijn64tab", "dictum/token.signs", "unicode/utf8.first", "unicode/utf8.acceptRanges"], plainKeys := false, apart := false, laid := [("math/bits.deBruijn64tab", laid_math_bits_deBruijn64tab), ("unicode/utf8.acceptRanges", laid_unicode_utf8_acceptRanges), ("dictum/token.signs", laid_dictum_token_signs), ("unicode/utf8.first", laid_unicode_utf8_first)], narrowed := true }
def SequentPrintsUptoSaid : Prop := sequentPrintsUptoRow.holds Tryz.pinned (OpenSpec.upto sequentPrintsSpec)

/-- 'dictumlaw08.SequentForms', WHERE WHAT IT READS IS OF BULK AT MOST 1048576: true; the input reads as it did. -/
def sequentFormsUptoRow : OpenClaim := { program := "ytkmmlimekachbaagreatdoor", sum := "f75a6abb012296991932a67fe20eff4e639abcdcb64e712a0fe35a3f70731709", func := "dictum/dictumlaw08.SequentForms", spec := "sequentForms", inPlace := ["internal/bytealg.IndexByteString", "internal/abi.NoEscape"], unfollowed := true, recurses := true, named := ["math/bits.deBruijn64tab", "dictum/token.signs", "unicode/utf8.first", "unicode/utf8.acceptRanges"], plainKeys := false, apart := false, laid := [("math/bits.deBruijn64tab", laid_math_bits_deBruijn64tab), ("unicode/utf8.acceptRanges", laid_unicode_utf8_acceptRanges), ("dictum/token.signs", laid_dictum_token_signs), ("unicode/utf8.first", laid_unicode_utf8_first)], narrowed := true }
def SequentFormsUptoSaid : Prop := sequentFormsUptoRow.holds Tryz.pinned (OpenSpec.upto sequentFormsSpec)

/-- 'dictumlaw08.SequentBack', WHERE WHAT IT READS IS OF BULK AT MOST 1048576: true; the input reads as it did. -/
def sequentBackUptoRow : OpenClaim := { program := "ytkmmlimekachbaagreatdoor", sum := "f75a6abb012296991932a67fe20eff4e639abcdcb64e712a0fe35a3f70731709", func := "dictum/dictumlaw08.SequentBack", spec := "sequentBack", inPlace := ["internal/abi.NoEscape", "internal/bytealg.IndexByteString"], unfollowed := true, recurses := true, named := ["math/bits.deBruijn64tab", "dictum/token.signs", "unicode/utf8.first", "unicode/utf8.acceptRanges"], plainKeys := false, apart := false, laid := [("math/bits.deBruijn64tab", laid_math_bits_deBruijn64tab), ("unicode/utf8.acceptRanges", laid_unicode_utf8_acceptRanges), ("dictum/token.signs", laid_dictum_token_signs), ("unicode/utf8.first", laid_unicode_utf8_first)], narrowed := true }
def SequentBackUptoSaid : Prop := sequentBackUptoRow.holds Tryz.pinned (OpenSpec.upto sequentBackSpec)

/-- 'dictumlaw08.SequentTruth', WHERE WHAT IT READS IS OF BULK AT MOST 1048576: true; the input reads as it did. -/
def sequentTruthUptoRow : OpenClaim := { program := "ytkmmlimekachbaagreatdoor", sum := "f75a6abb012296991932a67fe20eff4e639abcdcb64e712a0fe35a3f70731709", func := "dictum/dictumlaw08.SequentTruth", spec := "sequentTruth", inPlace := ["internal/bytealg.IndexByteString", "internal/abi.NoEscape"], unfollowed := true, recurses := true, named := ["math/bits.deBruijn64tab", "dictum/token.signs", "unicode/utf8.first", "unicode/utf8.acceptRanges"], plainKeys := false, apart := false, laid := [("math/bits.deBruijn64tab", laid_math_bits_deBruijn64tab), ("unicode/utf8.acceptRanges", laid_unicode_utf8_acceptRanges), ("dictum/token.signs", laid_dictum_token_signs), ("unicode/utf8.first", laid_unicode_utf8_first)], narrowed := true }
def SequentTruthUptoSaid : Prop := sequentTruthUptoRow.holds Tryz.pinned (OpenSpec.upto sequentTruthSpec)

end Rows
end Go.Proofs.YtkmmlimekachbaaGreatDoor
