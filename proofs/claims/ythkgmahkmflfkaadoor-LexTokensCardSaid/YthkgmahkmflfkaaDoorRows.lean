/-
  NARROWER THAN 'FOR EVERY INPUT', by the rows' own cells (each row's printed sentence says how): LexMatches: laid · LexShow: laid · LexOffsets: laid · LexRoundTrip: laid · LexConcat: laid · LexTokens: laid.
  DERIVED. THE GIVEN ROWS OF THIS SEAT. 6 by the template 'for every input the law returns true; each argument reads behind the call as it read before'; 0 by the template 'total and deterministic' (their statements: YthkgmahkmflfkaaDoorTotals.lean).
  GIVEN WITH THE SEED: the statements are not yours to turn. If you find one false, say at which input.
  Laid BY PROGRAM, IN A SANDBOX (cutbox-rows.mjs): the forced cells as the released guide's own fill.sh prints them over the translation 9f68ba57261fb4f5… (all of the seat's roots in one cut). By AI agents, Wed Nov 11 2026. No macro, syntax, notation, axiom, sorry.
-/
import Derived.Test.YthkgmahkmflfkaaDoorChecked
import GoSem.Claim
import GoSem.ClaimJoined
import GoSem.ClaimMapViews
import Derived.JoinedTies
import Derived.KernelRfl
namespace Go.Proofs.YthkgmahkmflfkaaDoor
/- THE CELL 'sum', in the pinned program and in every row, IS THE sha256 OF THE DUMP (.gsa) THAT YthkgmahkmflfkaaDoorProg.lean LOADS. Nothing in Lean hashes anything: it is a label: what it is worth is what the hold of that sum in a sandbox is worth. -/
noncomputable def Tryd.pinned : Pinned := { name := "ythkgmahkmflfkaadoor", sum := "9f68ba57261fb4f5265f00b986699042a4b0342b62b178f07a65e9b58eeefdda", checked := Tryd.checked }
namespace Rows
def none {H : Type} : Left H := { results := [], args := [] }

/- WHAT THE LISTED PACKAGE-LEVEL VARIABLES READ AS WHEN THE CALL BEGINS. Each datum BY PROGRAM (the guide's laid-datum.mjs) off the statement by which the dump's own 'gosem.cut.vars' lays the variable. In a bare row this is a premise. The card (YthkgmahkmflfkaaDoorCards.lean) ties it to the program's text. -/
def laid_hallmoot_lex_signs {H : Type} : DataW H := .agg [.lit (.string [59, 59]), .lit (.string [124, 124]), .lit (.string [38, 38]), .lit (.string [61, 61]), .lit (.string [46, 91]), .lit (.string [58, 61]), .lit (.string [45, 62]), .lit (.string [40]), .lit (.string [41]), .lit (.string [93]), .lit (.string [59]), .lit (.string [44]), .lit (.string [124]), .lit (.string [61]), .lit (.string [60]), .lit (.string [43]), .lit (.string [45]), .lit (.string [42]), .lit (.string [33])]

/-- 'hallmootlaw04.LexMatches': WHATEVER THE INPUT: true; the input reads as it did. -/
def lexMatchesSpec : ChangeSpec := { name := "lexMatches", fn := fun _ => fun
  | [d] => { results := [.lit (.bool true)], args := [d] }
  | _ => none }
def lexMatchesRow : OpenClaim := { program := "ythkgmahkmflfkaadoor", sum := "9f68ba57261fb4f5265f00b986699042a4b0342b62b178f07a65e9b58eeefdda", func := "hallmoot/hallmootlaw04.LexMatches", spec := "lexMatches", inPlace := ["internal/abi.NoEscape", "internal/bytealg.MakeNoZero"], unfollowed := true, recurses := true, named := ["hallmoot/lex.signs"], apart := false, laid := [("hallmoot/lex.signs", laid_hallmoot_lex_signs)] }
def LexMatchesSaid : Prop := lexMatchesRow.holds Tryd.pinned (OpenSpec.ofChange lexMatchesSpec)

/-- ITS FALSE NEIGHBOUR: 'it returns false'. Refute it at one input. -/
def lexMatchesWrong : ChangeSpec := { name := "lexMatches", fn := fun _ => fun
  | [d] => { results := [.lit (.bool false)], args := [d] }
  | _ => none }
def LexMatchesWrongFalsely : Prop := lexMatchesRow.holds Tryd.pinned (OpenSpec.ofChange lexMatchesWrong)

/-- 'hallmootlaw04.LexShow': WHATEVER THE INPUT: true; the input reads as it did. -/
def lexShowSpec : ChangeSpec := { name := "lexShow", fn := fun _ => fun
  | [d] => { results := [.lit (.bool true)], args := [d] }
  | _ => none }
def lexShowRow : OpenClaim := { program := "ythkgmahkmflfkaadoor", sum := "9f68ba57261fb4f5265f00b986699042a4b0342b62b178f07a65e9b58eeefdda", func := "hallmoot/hallmootlaw04.LexShow", spec := "lexShow", inPlace := ["internal/abi.NoEscape", "internal/bytealg.MakeNoZero"], unfollowed := true, recurses := true, named := ["hallmoot/lex.signs"], apart := false, laid := [("hallmoot/lex.signs", laid_hallmoot_lex_signs)] }
def LexShowSaid : Prop := lexShowRow.holds Tryd.pinned (OpenSpec.ofChange lexShowSpec)

/-- ITS FALSE NEIGHBOUR: 'it returns false'. Refute it at one input. -/
def lexShowWrong : ChangeSpec := { name := "lexShow", fn := fun _ => fun
  | [d] => { results := [.lit (.bool false)], args := [d] }
  | _ => none }
def LexShowWrongFalsely : Prop := lexShowRow.holds Tryd.pinned (OpenSpec.ofChange lexShowWrong)

/-- 'hallmootlaw04.LexOffsets': WHATEVER THE INPUT: true; the input reads as it did. -/
def lexOffsetsSpec : ChangeSpec := { name := "lexOffsets", fn := fun _ => fun
  | [d] => { results := [.lit (.bool true)], args := [d] }
  | _ => none }
def lexOffsetsRow : OpenClaim := { program := "ythkgmahkmflfkaadoor", sum := "9f68ba57261fb4f5265f00b986699042a4b0342b62b178f07a65e9b58eeefdda", func := "hallmoot/hallmootlaw04.LexOffsets", spec := "lexOffsets", inPlace := ["internal/abi.NoEscape", "internal/bytealg.MakeNoZero"], unfollowed := true, recurses := true, named := ["hallmoot/lex.signs"], apart := false, laid := [("hallmoot/lex.signs", laid_hallmoot_lex_signs)] }
def LexOffsetsSaid : Prop := lexOffsetsRow.holds Tryd.pinned (OpenSpec.ofChange lexOffsetsSpec)

/-- ITS FALSE NEIGHBOUR: 'it returns false'. Refute it at one input. -/
def lexOffsetsWrong : ChangeSpec := { name := "lexOffsets", fn := fun _ => fun
  | [d] => { results := [.lit (.bool false)], args := [d] }
  | _ => none }
def LexOffsetsWrongFalsely : Prop := lexOffsetsRow.holds Tryd.pinned (OpenSpec.ofChange lexOffsetsWrong)

/-- 'hallmootlaw04.LexRoundTrip': WHATEVER THE INPUT: true; the input reads as it did. -/
def lexRoundTripSpec : ChangeSpec := { name := "lexRoundTrip", fn := fun _ => fun
  | [d] => { results := [.lit (.bool true)], args := [d] }
  | _ => none }
def lexRoundTripRow : OpenClaim := { program := "ythkgmahkmflfkaadoor", sum := "9f68ba57261fb4f5265f00b986699042a4b0342b62b178f07a65e9b58eeefdda", func := "hallmoot/hallmootlaw04.LexRoundTrip", spec := "lexRoundTrip", inPlace := ["internal/abi.NoEscape", "internal/bytealg.MakeNoZero"], unfollowed := true, recurses := true, named := ["hallmoot/lex.signs"], apart := false, laid := [("hallmoot/lex.signs", laid_hallmoot_lex_signs)] }
def LexRoundTripSaid : Prop := lexRoundTripRow.holds Tryd.pinned (OpenSpec.ofChange lexRoundTripSpec)

/-- ITS FALSE NEIGHBOUR: 'it returns false'. Refute it at one input. -/
def lexRoundTripWrong : ChangeSpec := { name := "lexRoundTrip", fn := fun _ => fun
  | [d] => { results := [.lit (.bool false)], args := [d] }
  | _ => none }
def LexRoundTripWrongFalsely : Prop := lexRoundTripRow.holds Tryd.pinned (OpenSpec.ofChange lexRoundTripWrong)

/-- 'hallmootlaw04.LexConcat': WHATEVER THE INPUT: true; the input reads as it did. -/
def lexConcatSpec : ChangeSpec := { name := "lexConcat", fn := fun _ => fun
  | [d1, d2, d3] => { results := [.lit (.bool true)], args := [d1, d2, d3] }
  | _ => none }
def lexConcatRow : OpenClaim := { program := "ythkgmahkmflfkaadoor", sum := "9f68ba57261fb4f5265f00b986699042a4b0342b62b178f07a65e9b58eeefdda", func := "hallmoot/hallmootlaw04.LexConcat", spec := "lexConcat", inPlace := ["internal/abi.NoEscape", "internal/bytealg.MakeNoZero"], unfollowed := true, recurses := true, named := ["hallmoot/lex.signs"], apart := false, laid := [("hallmoot/lex.signs", laid_hallmoot_lex_signs)] }
def LexConcatSaid : Prop := lexConcatRow.holds Tryd.pinned (OpenSpec.ofChange lexConcatSpec)

/-- ITS FALSE NEIGHBOUR: 'it returns false'. Refute it at one input. -/
def lexConcatWrong : ChangeSpec := { name := "lexConcat", fn := fun _ => fun
  | [d1, d2, d3] => { results := [.lit (.bool false)], args := [d1, d2, d3] }
  | _ => none }
def LexConcatWrongFalsely : Prop := lexConcatRow.holds Tryd.pinned (OpenSpec.ofChange lexConcatWrong)

/-- 'hallmootlaw04.LexTokens': WHATEVER THE INPUT: true; the input reads as it did. -/
def lexTokensSpec : ChangeSpec := { name := "lexTokens", fn := fun _ => fun
  | [d1, d2] => { results := [.lit (.bool true)], args := [d1, d2] }
  | _ => none }
def lexTokensRow : OpenClaim := { program := "ythkgmahkmflfkaadoor", sum := "9f68ba57261fb4f5265f00b986699042a4b0342b62b178f07a65e9b58eeefdda", func := "hallmoot/hallmootlaw04.LexTokens", spec := "lexTokens", inPlace := ["internal/abi.NoEscape", "internal/bytealg.MakeNoZero"], unfollowed := true, recurses := true, named := ["hallmoot/lex.signs"], apart := false, laid := [("hallmoot/lex.signs", laid_hallmoot_lex_signs)] }
def LexTokensSaid : Prop := lexTokensRow.holds Tryd.pinned (OpenSpec.ofChange lexTokensSpec)

/-- ITS FALSE NEIGHBOUR: 'it returns false'. Refute it at one input. -/
def lexTokensWrong : ChangeSpec := { name := "lexTokens", fn := fun _ => fun
  | [d1, d2] => { results := [.lit (.bool false)], args := [d1, d2] }
  | _ => none }
def LexTokensWrongFalsely : Prop := lexTokensRow.holds Tryd.pinned (OpenSpec.ofChange lexTokensWrong)

/- THE SECOND FORM. 'bulk': how many values and letters a reading holds, each counted each time it is reached (what is shared counts as often as it is met; a slice's spare places count too). A statement '..UptoSaid' is the law's where the arguments, and the package variables that the reading takes, are together of bulk at most 1048576: NARROWER than '..Said'. Prove '..Said' where nothing that the law and all that it calls make is longer than what came in: it says more and counts as full. Else prove '..UptoSaid'. A law counts once. -/
mutual
def uptoBulk {H : Type} : DataW H → Nat
  | .lit (.string bytes) => bytes.length + 1
  | .lit _ => 1
  | .nil => 1
  | .ptr d => uptoBulk d + 1
  | .slice elems spare => uptoBulkAll elems + uptoBulkAll spare + 1
  | .agg parts => uptoBulkAll parts + 1
  | .iface _ d => uptoBulk d + 1
  | .map entries => uptoBulkEntries entries + 1
  | .held _ => 1
def uptoBulkAll {H : Type} : List (DataW H) → Nat
  | [] => 0
  | d :: r => uptoBulk d + uptoBulkAll r
def uptoBulkEntries {H : Type} : List (Lit × DataW H) → Nat
  | [] => 0
  | x :: r => uptoBulkEntry x + uptoBulkEntries r
def uptoBulkEntry {H : Type} : Lit × DataW H → Nat
  | (.string bytes, d) => bytes.length + uptoBulk d + 1
  | (_, d) => uptoBulk d + 1
 end
def uptoSmall : (H : Type) → List (DataW H) → Bool := fun _ ds => decide (uptoBulkAll ds ≤ 1048576)
def OpenSpec.upto (s : _root_.Go.ChangeSpec) : _root_.Go.OpenSpec := { _root_.Go.OpenSpec.ofChange s with cond := some uptoSmall }

/-- 'hallmootlaw04.LexMatches', WHERE WHAT IT READS IS OF BULK AT MOST 1048576: true; the input reads as it did. -/
def lexMatchesUptoRow : OpenClaim := { program := "ythkgmahkmflfkaadoor", sum := "9f68ba57261fb4f5265f00b986699042a4b0342b62b178f07a65e9b58eeefdda", func := "hallmoot/hallmootlaw04.LexMatches", spec := "lexMatches", inPlace := ["internal/abi.NoEscape", "internal/bytealg.MakeNoZero"], unfollowed := true, recurses := true, named := ["hallmoot/lex.signs"], apart := false, laid := [("hallmoot/lex.signs", laid_hallmoot_lex_signs)], narrowed := true }
def LexMatchesUptoSaid : Prop := lexMatchesUptoRow.holds Tryd.pinned (OpenSpec.upto lexMatchesSpec)

/-- 'hallmootlaw04.LexShow', WHERE WHAT IT READS IS OF BULK AT MOST 1048576: true; the input reads as it did. -/
def lexShowUptoRow : OpenClaim := { program := "ythkgmahkmflfkaadoor", sum := "9f68ba57261fb4f5265f00b986699042a4b0342b62b178f07a65e9b58eeefdda", func := "hallmoot/hallmootlaw04.LexShow", spec := "lexShow", inPlace := ["internal/abi.NoEscape", "internal/bytealg.MakeNoZero"], unfollowed := true, recurses := true, named := ["hallmoot/lex.signs"], apart := false, laid := [("hallmoot/lex.signs", laid_hallmoot_lex_signs)], narrowed := true }
def LexShowUptoSaid : Prop := lexShowUptoRow.holds Tryd.pinned (OpenSpec.upto lexShowSpec)

/-- 'hallmootlaw04.LexOffsets', WHERE WHAT IT READS IS OF BULK AT MOST 1048576: true; the input reads as it did. -/
def lexOffsetsUptoRow : OpenClaim := { program := "ythkgmahkmflfkaadoor", sum := "9f68ba57261fb4f5265f00b986699042a4b0342b62b178f07a65e9b58eeefdda", func := "hallmoot/hallmootlaw04.LexOffsets", spec := "lexOffsets", inPlace := ["internal/abi.NoEscape", "internal/bytealg.MakeNoZero"], unfollowed := true, recurses := true, named := ["hallmoot/lex.signs"], apart := false, laid := [("hallmoot/lex.signs", laid_hallmoot_lex_signs)], narrowed := true }
def LexOffsetsUptoSaid : Prop := lexOffsetsUptoRow.holds Tryd.pinned (OpenSpec.upto lexOffsetsSpec)

/-- 'hallmootlaw04.LexRoundTrip', WHERE WHAT IT READS IS OF BULK AT MOST 1048576: true; the input reads as it did. -/
def lexRoundTripUptoRow : OpenClaim := { program := "ythkgmahkmflfkaadoor", sum := "9f68ba57261fb4f5265f00b986699042a4b0342b62b178f07a65e9b58eeefdda", func := "hallmoot/hallmootlaw04.LexRoundTrip", spec := "lexRoundTrip", inPlace := ["internal/abi.NoEscape", "internal/bytealg.MakeNoZero"], unfollowed := true, recurses := true, named := ["hallmoot/lex.signs"], apart := false, laid := [("hallmoot/lex.signs", laid_hallmoot_lex_signs)], narrowed := true }
def LexRoundTripUptoSaid : Prop := lexRoundTripUptoRow.holds Tryd.pinned (OpenSpec.upto lexRoundTripSpec)

/-- 'hallmootlaw04.LexConcat', WHERE WHAT IT READS IS OF BULK AT MOST 1048576: true; the input reads as it did. -/
def lexConcatUptoRow : OpenClaim := { program := "ythkgmahkmflfkaadoor", sum := "9f68ba57261fb4f5265f00b986699042a4b0342b62b178f07a65e9b58eeefdda", func := "hallmoot/hallmootlaw04.LexConcat", spec := "lexConcat", inPlace := ["internal/abi.NoEscape", "internal/bytealg.MakeNoZero"], unfollowed := true, recurses := true, named := ["hallmoot/lex.signs"], apart := false, laid := [("hallmoot/lex.signs", laid_hallmoot_lex_signs)], narrowed := true }
def LexConcatUptoSaid : Prop := lexConcatUptoRow.holds Tryd.pinned (OpenSpec.upto lexConcatSpec)

/-- 'hallmootlaw04.LexTokens', WHERE WHAT IT READS IS OF BULK AT MOST 1048576: true; the input reads as it did. -/
def lexTokensUptoRow : OpenClaim := { program := "ythkgmahkmflfkaadoor", sum := "9f68ba57261fb4f5265f00b986699042a4b0342b62b178f07a65e9b58eeefdda", func := "hallmoot/hallmootlaw04.LexTokens", spec := "lexTokens", inPlace := ["internal/abi.NoEscape", "internal/bytealg.MakeNoZero"], unfollowed := true, recurses := true, named := ["hallmoot/lex.signs"], apart := false, laid := [("hallmoot/lex.signs", laid_hallmoot_lex_signs)], narrowed := true }
def LexTokensUptoSaid : Prop := lexTokensUptoRow.holds Tryd.pinned (OpenSpec.upto lexTokensSpec)

end Rows
end Go.Proofs.YthkgmahkmflfkaaDoor
