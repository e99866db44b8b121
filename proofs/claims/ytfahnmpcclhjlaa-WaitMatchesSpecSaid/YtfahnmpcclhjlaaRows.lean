/-
  No cell of these rows narrows 'for every input' (looked for: loops, veiled, ifaces, maps, wideKeys, modest, calm, conditions, laid).
  DERIVED. THE GIVEN ROWS OF THIS SEAT. 3 by the template 'for every input the law returns true; each argument reads behind the call as it read before'; 0 by the template 'total and deterministic' (their statements: YtfahnmpcclhjlaaTotals.lean).
  GIVEN WITH THE SEED: the statements are not yours to turn. If you find one false, say at which input.
  Laid BY PROGRAM, IN A SANDBOX (cutbox-rows.mjs): the forced cells as the released guide's own fill.sh prints them over the translation 60662a30c168572f… (all of the seat's roots in one cut). By AI agents, Wed Nov 11 2026. No macro, syntax, notation, axiom, sorry.
-/
import Derived.Test.YtfahnmpcclhjlaaChecked
import GoSem.Claim
import GoSem.ClaimJoined
import GoSem.ClaimMapViews
import Derived.JoinedTies
import Derived.KernelRfl
namespace Go.Proofs.Ytfahnmpcclhjlaa
/- THE CELL 'sum', in the pinned program and in every row, IS THE sha256 OF THE DUMP (.gsa) THAT YtfahnmpcclhjlaaProg.lean LOADS. Nothing in Lean hashes anything: it is a label: what it is worth is what the hold of that sum in a sandbox is worth. -/
noncomputable def Try.pinned : Pinned := { name := "ytfahnmpcclhjlaa", sum := "60662a30c168572f36eee10e166e88919ef6a4c57aeaee376e3441a67aeb1d9e", checked := Try.checked }
namespace Rows
def none {H : Type} : Left H := { results := [], args := [] }

/-- 'hallmootlaw19.ViewTerminates': WHATEVER THE INPUT: true; the input reads as it did. -/
def viewTerminatesSpec : ChangeSpec := { name := "viewTerminates", fn := fun _ => fun
  | [d] => { results := [.lit (.bool true)], args := [d] }
  | _ => none }
def viewTerminatesRow : OpenClaim := { program := "ytfahnmpcclhjlaa", sum := "60662a30c168572f36eee10e166e88919ef6a4c57aeaee376e3441a67aeb1d9e", func := "hallmoot/hallmootlaw19.ViewTerminates", spec := "viewTerminates", unfollowed := true, recurses := true, apart := false }
def ViewTerminatesSaid : Prop := viewTerminatesRow.holds Try.pinned (OpenSpec.ofChange viewTerminatesSpec)

/-- ITS FALSE NEIGHBOUR: 'it returns false'. Refute it at one input. -/
def viewTerminatesWrong : ChangeSpec := { name := "viewTerminates", fn := fun _ => fun
  | [d] => { results := [.lit (.bool false)], args := [d] }
  | _ => none }
def ViewTerminatesWrongFalsely : Prop := viewTerminatesRow.holds Try.pinned (OpenSpec.ofChange viewTerminatesWrong)

/-- 'hallmootlaw21.WaitMatchesSpec': WHATEVER THE INPUT: true; the input reads as it did. -/
def waitMatchesSpecSpec : ChangeSpec := { name := "waitMatchesSpec", fn := fun _ => fun
  | [d] => { results := [.lit (.bool true)], args := [d] }
  | _ => none }
def waitMatchesSpecRow : OpenClaim := { program := "ytfahnmpcclhjlaa", sum := "60662a30c168572f36eee10e166e88919ef6a4c57aeaee376e3441a67aeb1d9e", func := "hallmoot/hallmootlaw21.WaitMatchesSpec", spec := "waitMatchesSpec", unfollowed := true, recurses := true, apart := false }
def WaitMatchesSpecSaid : Prop := waitMatchesSpecRow.holds Try.pinned (OpenSpec.ofChange waitMatchesSpecSpec)

/-- ITS FALSE NEIGHBOUR: 'it returns false'. Refute it at one input. -/
def waitMatchesSpecWrong : ChangeSpec := { name := "waitMatchesSpec", fn := fun _ => fun
  | [d] => { results := [.lit (.bool false)], args := [d] }
  | _ => none }
def WaitMatchesSpecWrongFalsely : Prop := waitMatchesSpecRow.holds Try.pinned (OpenSpec.ofChange waitMatchesSpecWrong)

/-- 'hallmootlaw21.WaitRegisters': WHATEVER THE INPUT: true; the input reads as it did. -/
def waitRegistersSpec : ChangeSpec := { name := "waitRegisters", fn := fun _ => fun
  | [d] => { results := [.lit (.bool true)], args := [d] }
  | _ => none }
def waitRegistersRow : OpenClaim := { program := "ytfahnmpcclhjlaa", sum := "60662a30c168572f36eee10e166e88919ef6a4c57aeaee376e3441a67aeb1d9e", func := "hallmoot/hallmootlaw21.WaitRegisters", spec := "waitRegisters", unfollowed := true, recurses := true, apart := false }
def WaitRegistersSaid : Prop := waitRegistersRow.holds Try.pinned (OpenSpec.ofChange waitRegistersSpec)

/-- ITS FALSE NEIGHBOUR: 'it returns false'. Refute it at one input. -/
def waitRegistersWrong : ChangeSpec := { name := "waitRegisters", fn := fun _ => fun
  | [d] => { results := [.lit (.bool false)], args := [d] }
  | _ => none }
def WaitRegistersWrongFalsely : Prop := waitRegistersRow.holds Try.pinned (OpenSpec.ofChange waitRegistersWrong)

/- THE SECOND FORM. 'bulk': how many values and letters a reading holds, each counted each time it is reached (what is shared counts as often as it is met; a slice's spare places count too). A statement '..UptoSaid' is the law's where the arguments, and the package variables that the reading takes, are together of bulk at most 1048576: NARROWER than '..Said'. Prove '..Said' where nothing that the law and all that it calls make is longer than what came in: it says more and counts as full. Else prove '..UptoSaid'. A law counts once. -/
mutual
def uptoBulk {H : Type} : DataW H → Nat
  | .lit (.string bytes) => bytes.length + 1
  | .lit _ => 1
  | .nil => 1
  | .ptr d => uptoBulk d + 1
  | .slice elems spare => uptoBulkAll elems + uptoBulkAll spare + 1
  | .agg parts => uptoBulkAll parts + 1
  | .iface _ d => uptoBulk d + 1
  | .map entries => uptoBulkEntries entries + 1
  | .held _ => 1
def uptoBulkAll {H : Type} : List (DataW H) → Nat
  | [] => 0
  | d :: r => uptoBulk d + uptoBulkAll r
def uptoBulkEntries {H : Type} : List (Lit × DataW H) → Nat
  | [] => 0
  | x :: r => uptoBulkEntry x + uptoBulkEntries r
def uptoBulkEntry {H : Type} : Lit × DataW H → Nat
  | (.string bytes, d) => bytes.length + uptoBulk d + 1
  | (_, d) => uptoBulk d + 1
 end
def uptoSmall : (H : Type) → List (DataW H) → Bool := fun _ ds => decide (uptoBulkAll ds ≤ 1048576)
def OpenSpec.upto (s : _root_.Go.ChangeSpec) : _root_.Go.OpenSpec := { _root_.Go.OpenSpec.ofChange s with cond := some uptoSmall }

/-- 'hallmootlaw19.ViewTerminates', WHERE WHAT IT READS IS OF BULK AT MOST 1048576: true; the input reads as it did. -/
def viewTerminatesUptoRow : OpenClaim := { program := "ytfahnmpcclhjlaa", sum := "60662a30c168572f36eee10e166e88919ef6a4c57aeaee376e3441a67aeb1d9e", func := "hallmoot/hallmootlaw19.ViewTerminates", spec := "viewTerminates", unfollowed := true, recurses := true, apart := false, narrowed := true }
def ViewTerminatesUptoSaid : Prop := viewTerminatesUptoRow.holds Try.pinned (OpenSpec.upto viewTerminatesSpec)

/-- 'hallmootlaw21.WaitMatchesSpec', WHERE WHAT IT READS IS OF BULK AT MOST 1048576: true; the input reads as it did. -/
def waitMatchesSpecUptoRow : OpenClaim := { program := "ytfahnmpcclhjlaa", sum := "60662a30c168572f36eee10e166e88919ef6a4c57aeaee376e3441a67aeb1d9e", func := "hallmoot/hallmootlaw21.WaitMatchesSpec", spec := "waitMatchesSpec", unfollowed := true, recurses := true, apart := false, narrowed := true }
def WaitMatchesSpecUptoSaid : Prop := waitMatchesSpecUptoRow.holds Try.pinned (OpenSpec.upto waitMatchesSpecSpec)

/-- 'hallmootlaw21.WaitRegisters', WHERE WHAT IT READS IS OF BULK AT MOST 1048576: true; the input reads as it did. -/
def waitRegistersUptoRow : OpenClaim := { program := "ytfahnmpcclhjlaa", sum := "60662a30c168572f36eee10e166e88919ef6a4c57aeaee376e3441a67aeb1d9e", func := "hallmoot/hallmootlaw21.WaitRegisters", spec := "waitRegisters", unfollowed := true, recurses := true, apart := false, narrowed := true }
def WaitRegistersUptoSaid : Prop := waitRegistersUptoRow.holds Try.pinned (OpenSpec.upto waitRegistersSpec)

end Rows
end Go.Proofs.Ytfahnmpcclhjlaa
