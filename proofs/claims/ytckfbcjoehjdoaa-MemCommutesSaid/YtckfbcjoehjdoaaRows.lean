/-
  No cell of these rows narrows 'for every input' (looked for: loops, veiled, ifaces, maps, wideKeys, modest, calm, conditions, laid).
  DERIVED. THE GIVEN ROWS OF THIS SEAT. 6 by the template 'for every input the law returns true; each argument reads behind the call as it read before'; 0 by the template 'total and deterministic' (their statements: YtckfbcjoehjdoaaTotals.lean).
  GIVEN WITH THE SEED: the statements are not yours to turn. If you find one false, say at which input.
  Laid BY PROGRAM, IN A SANDBOX (cutbox-rows.mjs): the forced cells as the released guide's own fill.sh prints them over the translation b3147753f24d72ec… (all of the seat's roots in one cut). By AI agents, Wed Nov 11 2026. No macro, syntax, notation, axiom, sorry.
-/
import Derived.Test.YtckfbcjoehjdoaaChecked
import GoSem.Claim
import GoSem.ClaimJoined
import GoSem.ClaimMapViews
import Derived.JoinedTies
import Derived.KernelRfl
namespace Go.Proofs.Ytckfbcjoehjdoaa
/- THE CELL 'sum', in the pinned program and in every row, IS THE sha256 OF THE DUMP (.gsa) THAT YtckfbcjoehjdoaaProg.lean LOADS. Nothing in Lean hashes anything: it is a label: what it is worth is what the hold of that sum in a sandbox is worth. -/
noncomputable def Try.pinned : Pinned := { name := "ytckfbcjoehjdoaa", sum := "b3147753f24d72ec303049b2448bbd7f71795f1c114f57171f1e23b49d55c832", checked := Try.checked }
namespace Rows
def none {H : Type} : Left H := { results := [], args := [] }

/-- 'hallmootlaw02.MemMatchesSpec': WHATEVER THE INPUT: true; the input reads as it did. -/
def memMatchesSpecSpec : ChangeSpec := { name := "memMatchesSpec", fn := fun _ => fun
  | [d1, d2, d3] => { results := [.lit (.bool true)], args := [d1, d2, d3] }
  | _ => none }
def memMatchesSpecRow : OpenClaim := { program := "ytckfbcjoehjdoaa", sum := "b3147753f24d72ec303049b2448bbd7f71795f1c114f57171f1e23b49d55c832", func := "hallmoot/hallmootlaw02.MemMatchesSpec", spec := "memMatchesSpec", apart := false }
def MemMatchesSpecSaid : Prop := memMatchesSpecRow.holds Try.pinned (OpenSpec.ofChange memMatchesSpecSpec)

/-- ITS FALSE NEIGHBOUR: 'it returns false'. Refute it at one input. -/
def memMatchesSpecWrong : ChangeSpec := { name := "memMatchesSpec", fn := fun _ => fun
  | [d1, d2, d3] => { results := [.lit (.bool false)], args := [d1, d2, d3] }
  | _ => none }
def MemMatchesSpecWrongFalsely : Prop := memMatchesSpecRow.holds Try.pinned (OpenSpec.ofChange memMatchesSpecWrong)

/-- 'hallmootlaw02.MemAllMatchesSpec': WHATEVER THE INPUT: true; the input reads as it did. -/
def memAllMatchesSpecSpec : ChangeSpec := { name := "memAllMatchesSpec", fn := fun _ => fun
  | [d1, d2] => { results := [.lit (.bool true)], args := [d1, d2] }
  | _ => none }
def memAllMatchesSpecRow : OpenClaim := { program := "ytckfbcjoehjdoaa", sum := "b3147753f24d72ec303049b2448bbd7f71795f1c114f57171f1e23b49d55c832", func := "hallmoot/hallmootlaw02.MemAllMatchesSpec", spec := "memAllMatchesSpec", apart := false }
def MemAllMatchesSpecSaid : Prop := memAllMatchesSpecRow.holds Try.pinned (OpenSpec.ofChange memAllMatchesSpecSpec)

/-- ITS FALSE NEIGHBOUR: 'it returns false'. Refute it at one input. -/
def memAllMatchesSpecWrong : ChangeSpec := { name := "memAllMatchesSpec", fn := fun _ => fun
  | [d1, d2] => { results := [.lit (.bool false)], args := [d1, d2] }
  | _ => none }
def MemAllMatchesSpecWrongFalsely : Prop := memAllMatchesSpecRow.holds Try.pinned (OpenSpec.ofChange memAllMatchesSpecWrong)

/-- 'hallmootlaw02.MemCommutes': WHATEVER THE INPUT: true; the input reads as it did. -/
def memCommutesSpec : ChangeSpec := { name := "memCommutes", fn := fun _ => fun
  | [d1, d2, d3] => { results := [.lit (.bool true)], args := [d1, d2, d3] }
  | _ => none }
def memCommutesRow : OpenClaim := { program := "ytckfbcjoehjdoaa", sum := "b3147753f24d72ec303049b2448bbd7f71795f1c114f57171f1e23b49d55c832", func := "hallmoot/hallmootlaw02.MemCommutes", spec := "memCommutes", apart := false }
def MemCommutesSaid : Prop := memCommutesRow.holds Try.pinned (OpenSpec.ofChange memCommutesSpec)

/-- ITS FALSE NEIGHBOUR: 'it returns false'. Refute it at one input. -/
def memCommutesWrong : ChangeSpec := { name := "memCommutes", fn := fun _ => fun
  | [d1, d2, d3] => { results := [.lit (.bool false)], args := [d1, d2, d3] }
  | _ => none }
def MemCommutesWrongFalsely : Prop := memCommutesRow.holds Try.pinned (OpenSpec.ofChange memCommutesWrong)

/-- 'hallmootlaw02.MemChangesOneCell': WHATEVER THE INPUT: true; the input reads as it did. -/
def memChangesOneCellSpec : ChangeSpec := { name := "memChangesOneCell", fn := fun _ => fun
  | [d1, d2] => { results := [.lit (.bool true)], args := [d1, d2] }
  | _ => none }
def memChangesOneCellRow : OpenClaim := { program := "ytckfbcjoehjdoaa", sum := "b3147753f24d72ec303049b2448bbd7f71795f1c114f57171f1e23b49d55c832", func := "hallmoot/hallmootlaw02.MemChangesOneCell", spec := "memChangesOneCell", apart := false }
def MemChangesOneCellSaid : Prop := memChangesOneCellRow.holds Try.pinned (OpenSpec.ofChange memChangesOneCellSpec)

/-- ITS FALSE NEIGHBOUR: 'it returns false'. Refute it at one input. -/
def memChangesOneCellWrong : ChangeSpec := { name := "memChangesOneCell", fn := fun _ => fun
  | [d1, d2] => { results := [.lit (.bool false)], args := [d1, d2] }
  | _ => none }
def MemChangesOneCellWrongFalsely : Prop := memChangesOneCellRow.holds Try.pinned (OpenSpec.ofChange memChangesOneCellWrong)

/-- 'hallmootlaw02.MemAllSplits': WHATEVER THE INPUT: true; the input reads as it did. -/
def memAllSplitsSpec : ChangeSpec := { name := "memAllSplits", fn := fun _ => fun
  | [d1, d2, d3] => { results := [.lit (.bool true)], args := [d1, d2, d3] }
  | _ => none }
def memAllSplitsRow : OpenClaim := { program := "ytckfbcjoehjdoaa", sum := "b3147753f24d72ec303049b2448bbd7f71795f1c114f57171f1e23b49d55c832", func := "hallmoot/hallmootlaw02.MemAllSplits", spec := "memAllSplits", apart := false }
def MemAllSplitsSaid : Prop := memAllSplitsRow.holds Try.pinned (OpenSpec.ofChange memAllSplitsSpec)

/-- ITS FALSE NEIGHBOUR: 'it returns false'. Refute it at one input. -/
def memAllSplitsWrong : ChangeSpec := { name := "memAllSplits", fn := fun _ => fun
  | [d1, d2, d3] => { results := [.lit (.bool false)], args := [d1, d2, d3] }
  | _ => none }
def MemAllSplitsWrongFalsely : Prop := memAllSplitsRow.holds Try.pinned (OpenSpec.ofChange memAllSplitsWrong)

/-- 'hallmootlaw02.MemAddsSum': WHATEVER THE INPUT: true; the input reads as it did. -/
def memAddsSumSpec : ChangeSpec := { name := "memAddsSum", fn := fun _ => fun
  | [d1, d2] => { results := [.lit (.bool true)], args := [d1, d2] }
  | _ => none }
def memAddsSumRow : OpenClaim := { program := "ytckfbcjoehjdoaa", sum := "b3147753f24d72ec303049b2448bbd7f71795f1c114f57171f1e23b49d55c832", func := "hallmoot/hallmootlaw02.MemAddsSum", spec := "memAddsSum", apart := false }
def MemAddsSumSaid : Prop := memAddsSumRow.holds Try.pinned (OpenSpec.ofChange memAddsSumSpec)

/-- ITS FALSE NEIGHBOUR: 'it returns false'. Refute it at one input. -/
def memAddsSumWrong : ChangeSpec := { name := "memAddsSum", fn := fun _ => fun
  | [d1, d2] => { results := [.lit (.bool false)], args := [d1, d2] }
  | _ => none }
def MemAddsSumWrongFalsely : Prop := memAddsSumRow.holds Try.pinned (OpenSpec.ofChange memAddsSumWrong)

/- THE SECOND FORM. 'bulk': how many values and letters a reading holds, each counted each time it is reached (what is shared counts as often as it is met; a slice's spare places count too). A statement '..UptoSaid' is the law's where the arguments, and the package variables that the reading takes, are together of bulk at most 1048576: NARROWER than '..Said'. Prove '..Said' where nothing that the law and all that it calls make is longer than what came in: it says more and counts as full. Else prove '..UptoSaid'. A law counts once. -/
mutual
def uptoBulk {H : Type} : DataW H → Nat
  | .lit (.string bytes) => bytes.length + 1
  | .lit _ => 1
  | .nil => 1
  | .ptr d => uptoBulk d + 1
  | .slice elems spare => uptoBulkAll elems + uptoBulkAll spare + 1
  | .agg parts => uptoBulkAll parts + 1
  | .iface _ d => uptoBulk d + 1
  | .map entries => uptoBulkEntries entries + 1
  | .held _ => 1
def uptoBulkAll {H : Type} : List (DataW H) → Nat
  | [] => 0
  | d :: r => uptoBulk d + uptoBulkAll r
def uptoBulkEntries {H : Type} : List (Lit × DataW H) → Nat
  | [] => 0
  | x :: r => uptoBulkEntry x + uptoBulkEntries r
def uptoBulkEntry {H : Type} : Lit × DataW H → Nat
  | (.string bytes, d) => bytes.length + uptoBulk d + 1
  | (_, d) => uptoBulk d + 1
 end
def uptoSmall : (H : Type) → List (DataW H) → Bool := fun _ ds => decide (uptoBulkAll ds ≤ 1048576)
def OpenSpec.upto (s : _root_.Go.ChangeSpec) : _root_.Go.OpenSpec := { _root_.Go.OpenSpec.ofChange s with cond := some uptoSmall }

/-- 'hallmootlaw02.MemMatchesSpec', WHERE WHAT IT READS IS OF BULK AT MOST 1048576: true; the input reads as it did. -/
def memMatchesSpecUptoRow : OpenClaim := { program := "ytckfbcjoehjdoaa", sum := "b3147753f24d72ec303049b2448bbd7f71795f1c114f57171f1e23b49d55c832", func := "hallmoot/hallmootlaw02.MemMatchesSpec", spec := "memMatchesSpec", apart := false, narrowed := true }
def MemMatchesSpecUptoSaid : Prop := memMatchesSpecUptoRow.holds Try.pinned (OpenSpec.upto memMatchesSpecSpec)

/-- 'hallmootlaw02.MemAllMatchesSpec', WHERE WHAT IT READS IS OF BULK AT MOST 1048576: true; the input reads as it did. -/
def memAllMatchesSpecUptoRow : OpenClaim := { program := "ytckfbcjoehjdoaa", sum := "b3147753f24d72ec303049b2448bbd7f71795f1c114f57171f1e23b49d55c832", func := "hallmoot/hallmootlaw02.MemAllMatchesSpec", spec := "memAllMatchesSpec", apart := false, narrowed := true }
def MemAllMatchesSpecUptoSaid : Prop := memAllMatchesSpecUptoRow.holds Try.pinned (OpenSpec.upto memAllMatchesSpecSpec)

/-- 'hallmootlaw02.MemCommutes', WHERE WHAT IT READS IS OF BULK AT MOST 1048576: true; the input reads as it did. -/
def memCommutesUptoRow : OpenClaim := { program := "ytckfbcjoehjdoaa", sum := "b3147753f24d72ec303049b2448bbd7f71795f1c114f57171f1e23b49d55c832", func := "hallmoot/hallmootlaw02.MemCommutes", spec := "memCommutes", apart := false, narrowed := true }
def MemCommutesUptoSaid : Prop := memCommutesUptoRow.holds Try.pinned (OpenSpec.upto memCommutesSpec)

/-- 'hallmootlaw02.MemChangesOneCell', WHERE WHAT IT READS IS OF BULK AT MOST 1048576: true; the input reads as it did. -/
def memChangesOneCellUptoRow : OpenClaim := { program := "ytckfbcjoehjdoaa", sum := "b3147753f24d72ec303049b2448bbd7f71795f1c114f57171f1e23b49d55c832", func := "hallmoot/hallmootlaw02.MemChangesOneCell", spec := "memChangesOneCell", apart := false, narrowed := true }
def MemChangesOneCellUptoSaid : Prop := memChangesOneCellUptoRow.holds Try.pinned (OpenSpec.upto memChangesOneCellSpec)

/-- 'hallmootlaw02.MemAllSplits', WHERE WHAT IT READS IS OF BULK AT MOST 1048576: true; the input reads as it did. -/
def memAllSplitsUptoRow : OpenClaim := { program := "ytckfbcjoehjdoaa", sum := "b3147753f24d72ec303049b2448bbd7f71795f1c114f57171f1e23b49d55c832", func := "hallmoot/hallmootlaw02.MemAllSplits", spec := "memAllSplits", apart := false, narrowed := true }
def MemAllSplitsUptoSaid : Prop := memAllSplitsUptoRow.holds Try.pinned (OpenSpec.upto memAllSplitsSpec)

/-- 'hallmootlaw02.MemAddsSum', WHERE WHAT IT READS IS OF BULK AT MOST 1048576: true; the input reads as it did. -/
def memAddsSumUptoRow : OpenClaim := { program := "ytckfbcjoehjdoaa", sum := "b3147753f24d72ec303049b2448bbd7f71795f1c114f57171f1e23b49d55c832", func := "hallmoot/hallmootlaw02.MemAddsSum", spec := "memAddsSum", apart := false, narrowed := true }
def MemAddsSumUptoSaid : Prop := memAddsSumUptoRow.holds Try.pinned (OpenSpec.upto memAddsSumSpec)

end Rows
end Go.Proofs.Ytckfbcjoehjdoaa
