/-
  No cell of these rows narrows 'for every input' (looked for: loops, veiled, ifaces, maps, wideKeys, modest, calm, conditions, laid).
  DERIVED. THE GIVEN ROWS OF THIS SEAT. 5 by the template 'for every input the law returns true; each argument reads behind the call as it read before'; 0 by the template 'total and deterministic' (their statements: YtmjfnlangebhlaaTotals.lean).
  GIVEN WITH THE SEED: the statements are not yours to turn. If you find one false, say at which input.
  Laid BY PROGRAM, IN A SANDBOX (cutbox-rows.mjs): the forced cells as the released guide's own fill.sh prints them over the translation 67f1841ceea03cee… (all of the seat's roots in one cut). By AI agents, Wed Nov 11 2026. No macro, syntax, notation, axiom, sorry.
-/
import Derived.Test.YtmjfnlangebhlaaChecked
import GoSem.Claim
import GoSem.ClaimJoined
import GoSem.ClaimMapViews
import Derived.JoinedTies
import Derived.KernelRfl
namespace Go.Proofs.Ytmjfnlangebhlaa
/- THE CELL 'sum', in the pinned program and in every row, IS THE sha256 OF THE DUMP (.gsa) THAT YtmjfnlangebhlaaProg.lean LOADS. Nothing in Lean hashes anything: it is a label: what it is worth is what the hold of that sum in a sandbox is worth. -/
noncomputable def Try.pinned : Pinned := { name := "ytmjfnlangebhlaa", sum := "67f1841ceea03cee81b3d8b772b4ff6d7558f47ee3efdef0522d7d4348cbe09a", checked := Try.checked }
namespace Rows
def none {H : Type} : Left H := { results := [], args := [] }

/-- 'hallmootlaw16.LockNext': WHATEVER THE INPUT: true; the input reads as it did. -/
def lockNextSpec : ChangeSpec := { name := "lockNext", fn := fun _ => fun
  | [d1, d2, d3] => { results := [.lit (.bool true)], args := [d1, d2, d3] }
  | _ => none }
def lockNextRow : OpenClaim := { program := "ytmjfnlangebhlaa", sum := "67f1841ceea03cee81b3d8b772b4ff6d7558f47ee3efdef0522d7d4348cbe09a", func := "hallmoot/hallmootlaw16.LockNext", spec := "lockNext", unfollowed := true, recurses := true, apart := false }
def LockNextSaid : Prop := lockNextRow.holds Try.pinned (OpenSpec.ofChange lockNextSpec)

/-- ITS FALSE NEIGHBOUR: 'it returns false'. Refute it at one input. -/
def lockNextWrong : ChangeSpec := { name := "lockNext", fn := fun _ => fun
  | [d1, d2, d3] => { results := [.lit (.bool false)], args := [d1, d2, d3] }
  | _ => none }
def LockNextWrongFalsely : Prop := lockNextRow.holds Try.pinned (OpenSpec.ofChange lockNextWrong)

/-- 'hallmootlaw18.VisibleMatchesSpec': WHATEVER THE INPUT: true; the input reads as it did. -/
def visibleMatchesSpecSpec : ChangeSpec := { name := "visibleMatchesSpec", fn := fun _ => fun
  | [d] => { results := [.lit (.bool true)], args := [d] }
  | _ => none }
def visibleMatchesSpecRow : OpenClaim := { program := "ytmjfnlangebhlaa", sum := "67f1841ceea03cee81b3d8b772b4ff6d7558f47ee3efdef0522d7d4348cbe09a", func := "hallmoot/hallmootlaw18.VisibleMatchesSpec", spec := "visibleMatchesSpec", unfollowed := true, recurses := true, apart := false }
def VisibleMatchesSpecSaid : Prop := visibleMatchesSpecRow.holds Try.pinned (OpenSpec.ofChange visibleMatchesSpecSpec)

/-- ITS FALSE NEIGHBOUR: 'it returns false'. Refute it at one input. -/
def visibleMatchesSpecWrong : ChangeSpec := { name := "visibleMatchesSpec", fn := fun _ => fun
  | [d] => { results := [.lit (.bool false)], args := [d] }
  | _ => none }
def VisibleMatchesSpecWrongFalsely : Prop := visibleMatchesSpecRow.holds Try.pinned (OpenSpec.ofChange visibleMatchesSpecWrong)

/-- 'hallmootlaw19.ViewAloneReadsCell': WHATEVER THE INPUT: true; the input reads as it did. -/
def viewAloneReadsCellSpec : ChangeSpec := { name := "viewAloneReadsCell", fn := fun _ => fun
  | [d] => { results := [.lit (.bool true)], args := [d] }
  | _ => none }
def viewAloneReadsCellRow : OpenClaim := { program := "ytmjfnlangebhlaa", sum := "67f1841ceea03cee81b3d8b772b4ff6d7558f47ee3efdef0522d7d4348cbe09a", func := "hallmoot/hallmootlaw19.ViewAloneReadsCell", spec := "viewAloneReadsCell", unfollowed := true, recurses := true, apart := false }
def ViewAloneReadsCellSaid : Prop := viewAloneReadsCellRow.holds Try.pinned (OpenSpec.ofChange viewAloneReadsCellSpec)

/-- ITS FALSE NEIGHBOUR: 'it returns false'. Refute it at one input. -/
def viewAloneReadsCellWrong : ChangeSpec := { name := "viewAloneReadsCell", fn := fun _ => fun
  | [d] => { results := [.lit (.bool false)], args := [d] }
  | _ => none }
def ViewAloneReadsCellWrongFalsely : Prop := viewAloneReadsCellRow.holds Try.pinned (OpenSpec.ofChange viewAloneReadsCellWrong)

/-- 'hallmootlaw21.WaitRouseWakesMask': WHATEVER THE INPUT: true; the input reads as it did. -/
def waitRouseWakesMaskSpec : ChangeSpec := { name := "waitRouseWakesMask", fn := fun _ => fun
  | [d1, d2] => { results := [.lit (.bool true)], args := [d1, d2] }
  | _ => none }
def waitRouseWakesMaskRow : OpenClaim := { program := "ytmjfnlangebhlaa", sum := "67f1841ceea03cee81b3d8b772b4ff6d7558f47ee3efdef0522d7d4348cbe09a", func := "hallmoot/hallmootlaw21.WaitRouseWakesMask", spec := "waitRouseWakesMask", unfollowed := true, recurses := true, apart := false }
def WaitRouseWakesMaskSaid : Prop := waitRouseWakesMaskRow.holds Try.pinned (OpenSpec.ofChange waitRouseWakesMaskSpec)

/-- ITS FALSE NEIGHBOUR: 'it returns false'. Refute it at one input. -/
def waitRouseWakesMaskWrong : ChangeSpec := { name := "waitRouseWakesMask", fn := fun _ => fun
  | [d1, d2] => { results := [.lit (.bool false)], args := [d1, d2] }
  | _ => none }
def WaitRouseWakesMaskWrongFalsely : Prop := waitRouseWakesMaskRow.holds Try.pinned (OpenSpec.ofChange waitRouseWakesMaskWrong)

/-- 'hallmootlaw21.WaitAloneCounts': WHATEVER THE INPUT: true; the input reads as it did. -/
def waitAloneCountsSpec : ChangeSpec := { name := "waitAloneCounts", fn := fun _ => fun
  | [d1, d2] => { results := [.lit (.bool true)], args := [d1, d2] }
  | _ => none }
def waitAloneCountsRow : OpenClaim := { program := "ytmjfnlangebhlaa", sum := "67f1841ceea03cee81b3d8b772b4ff6d7558f47ee3efdef0522d7d4348cbe09a", func := "hallmoot/hallmootlaw21.WaitAloneCounts", spec := "waitAloneCounts", unfollowed := true, recurses := true, apart := false }
def WaitAloneCountsSaid : Prop := waitAloneCountsRow.holds Try.pinned (OpenSpec.ofChange waitAloneCountsSpec)

/-- ITS FALSE NEIGHBOUR: 'it returns false'. Refute it at one input. -/
def waitAloneCountsWrong : ChangeSpec := { name := "waitAloneCounts", fn := fun _ => fun
  | [d1, d2] => { results := [.lit (.bool false)], args := [d1, d2] }
  | _ => none }
def WaitAloneCountsWrongFalsely : Prop := waitAloneCountsRow.holds Try.pinned (OpenSpec.ofChange waitAloneCountsWrong)

/- THE SECOND FORM. 'bulk': how many values and letters a reading holds, each counted each time it is reached (what is shared counts as often as it is met; a slice's spare places count too). A statement '..UptoSaid' is the law's where the arguments, and the package variables that the reading takes, are together of bulk at most 1048576: NARROWER than '..Said'. Prove '..Said' where nothing that the law and all that it calls make is longer than what came in: it says more and counts as full. Else prove '..UptoSaid'. A law counts once. -/
mutual
def uptoBulk {H : Type} : DataW H → Nat
  | .lit (.string bytes) => bytes.length + 1
  | .lit _ => 1
  | .nil => 1
  | .ptr d => uptoBulk d + 1
  | .slice elems spare => uptoBulkAll elems + uptoBulkAll spare + 1
  | .agg parts => uptoBulkAll parts + 1
  | .iface _ d => uptoBulk d + 1
  | .map entries => uptoBulkEntries entries + 1
  | .held _ => 1
def uptoBulkAll {H : Type} : List (DataW H) → Nat
  | [] => 0
  | d :: r => uptoBulk d + uptoBulkAll r
def uptoBulkEntries {H : Type} : List (Lit × DataW H) → Nat
  | [] => 0
  | x :: r => uptoBulkEntry x + uptoBulkEntries r
def uptoBulkEntry {H : Type} : Lit × DataW H → Nat
  | (.string bytes, d) => bytes.length + uptoBulk d + 1
  | (_, d) => uptoBulk d + 1
 end
def uptoSmall : (H : Type) → List (DataW H) → Bool := fun _ ds => decide (uptoBulkAll ds ≤ 1048576)
def OpenSpec.upto (s : _root_.Go.ChangeSpec) : _root_.Go.OpenSpec := { _root_.Go.OpenSpec.ofChange s with cond := some uptoSmall }

/-- 'hallmootlaw16.LockNext', WHERE WHAT IT READS IS OF BULK AT MOST 1048576: true; the input reads as it did. -/
def lockNextUptoRow : OpenClaim := { program := "ytmjfnlangebhlaa", sum := "67f1841ceea03cee81b3d8b772b4ff6d7558f47ee3efdef0522d7d4348cbe09a", func := "hallmoot/hallmootlaw16.LockNext", spec := "lockNext", unfollowed := true, recurses := true, apart := false, narrowed := true }
def LockNextUptoSaid : Prop := lockNextUptoRow.holds Try.pinned (OpenSpec.upto lockNextSpec)

/-- 'hallmootlaw18.VisibleMatchesSpec', WHERE WHAT IT READS IS OF BULK AT MOST 1048576: true; the input reads as it did. -/
def visibleMatchesSpecUptoRow : OpenClaim := { program := "ytmjfnlangebhlaa", sum := "67f1841ceea03cee81b3d8b772b4ff6d7558f47ee3efdef0522d7d4348cbe09a", func := "hallmoot/hallmootlaw18.VisibleMatchesSpec", spec := "visibleMatchesSpec", unfollowed := true, recurses := true, apart := false, narrowed := true }
def VisibleMatchesSpecUptoSaid : Prop := visibleMatchesSpecUptoRow.holds Try.pinned (OpenSpec.upto visibleMatchesSpecSpec)

/-- 'hallmootlaw19.ViewAloneReadsCell', WHERE WHAT IT READS IS OF BULK AT MOST 1048576: true; the input reads as it did. -/
def viewAloneReadsCellUptoRow : OpenClaim := { program := "ytmjfnlangebhlaa", sum := "67f1841ceea03cee81b3d8b772b4ff6d7558f47ee3efdef0522d7d4348cbe09a", func := "hallmoot/hallmootlaw19.ViewAloneReadsCell", spec := "viewAloneReadsCell", unfollowed := true, recurses := true, apart := false, narrowed := true }
def ViewAloneReadsCellUptoSaid : Prop := viewAloneReadsCellUptoRow.holds Try.pinned (OpenSpec.upto viewAloneReadsCellSpec)

/-- 'hallmootlaw21.WaitRouseWakesMask', WHERE WHAT IT READS IS OF BULK AT MOST 1048576: true; the input reads as it did. -/
def waitRouseWakesMaskUptoRow : OpenClaim := { program := "ytmjfnlangebhlaa", sum := "67f1841ceea03cee81b3d8b772b4ff6d7558f47ee3efdef0522d7d4348cbe09a", func := "hallmoot/hallmootlaw21.WaitRouseWakesMask", spec := "waitRouseWakesMask", unfollowed := true, recurses := true, apart := false, narrowed := true }
def WaitRouseWakesMaskUptoSaid : Prop := waitRouseWakesMaskUptoRow.holds Try.pinned (OpenSpec.upto waitRouseWakesMaskSpec)

/-- 'hallmootlaw21.WaitAloneCounts', WHERE WHAT IT READS IS OF BULK AT MOST 1048576: true; the input reads as it did. -/
def waitAloneCountsUptoRow : OpenClaim := { program := "ytmjfnlangebhlaa", sum := "67f1841ceea03cee81b3d8b772b4ff6d7558f47ee3efdef0522d7d4348cbe09a", func := "hallmoot/hallmootlaw21.WaitAloneCounts", spec := "waitAloneCounts", unfollowed := true, recurses := true, apart := false, narrowed := true }
def WaitAloneCountsUptoSaid : Prop := waitAloneCountsUptoRow.holds Try.pinned (OpenSpec.upto waitAloneCountsSpec)

end Rows
end Go.Proofs.Ytmjfnlangebhlaa
