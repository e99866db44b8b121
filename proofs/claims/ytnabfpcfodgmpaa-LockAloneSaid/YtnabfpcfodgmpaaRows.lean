/-
  No cell of these rows narrows 'for every input' (looked for: loops, veiled, ifaces, maps, wideKeys, modest, calm, conditions, laid).
  DERIVED. THE GIVEN ROWS OF THIS SEAT. 6 by the template 'for every input the law returns true; each argument reads behind the call as it read before'; 0 by the template 'total and deterministic' (their statements: YtnabfpcfodgmpaaTotals.lean).
  GIVEN WITH THE SEED: the statements are not yours to turn. If you find one false, say at which input.
  Laid BY PROGRAM, IN A SANDBOX (cutbox-rows.mjs): the forced cells as the released guide's own fill.sh prints them over the translation 836f7aec56e178dc… (all of the seat's roots in one cut). By AI agents, Wed Nov 11 2026. No macro, syntax, notation, axiom, sorry.
-/
import Derived.Test.YtnabfpcfodgmpaaChecked
import GoSem.Claim
import GoSem.ClaimJoined
import GoSem.ClaimMapViews
import Derived.JoinedTies
import Derived.KernelRfl
namespace Go.Proofs.Ytnabfpcfodgmpaa
/- THE CELL 'sum', in the pinned program and in every row, IS THE sha256 OF THE DUMP (.gsa) THAT YtnabfpcfodgmpaaProg.lean LOADS. Nothing in Lean hashes anything: it is a label: what it is worth is what the hold of that sum in a sandbox is worth. -/
noncomputable def Try.pinned : Pinned := { name := "ytnabfpcfodgmpaa", sum := "836f7aec56e178dcdbe31701d28894c49069cb84dd1f2b7bbfbc7c2fc7c747bc", checked := Try.checked }
namespace Rows
def none {H : Type} : Left H := { results := [], args := [] }

/-- 'hallmootlaw16.LockValidate': WHATEVER THE INPUT: true; the input reads as it did. -/
def lockValidateSpec : ChangeSpec := { name := "lockValidate", fn := fun _ => fun
  | [d1, d2, d3, d4, d5] => { results := [.lit (.bool true)], args := [d1, d2, d3, d4, d5] }
  | _ => none }
def lockValidateRow : OpenClaim := { program := "ytnabfpcfodgmpaa", sum := "836f7aec56e178dcdbe31701d28894c49069cb84dd1f2b7bbfbc7c2fc7c747bc", func := "hallmoot/hallmootlaw16.LockValidate", spec := "lockValidate", unfollowed := true, recurses := true, apart := false }
def LockValidateSaid : Prop := lockValidateRow.holds Try.pinned (OpenSpec.ofChange lockValidateSpec)

/-- ITS FALSE NEIGHBOUR: 'it returns false'. Refute it at one input. -/
def lockValidateWrong : ChangeSpec := { name := "lockValidate", fn := fun _ => fun
  | [d1, d2, d3, d4, d5] => { results := [.lit (.bool false)], args := [d1, d2, d3, d4, d5] }
  | _ => none }
def LockValidateWrongFalsely : Prop := lockValidateRow.holds Try.pinned (OpenSpec.ofChange lockValidateWrong)

/-- 'hallmootlaw16.LockAlone': WHATEVER THE INPUT: true; the input reads as it did. -/
def lockAloneSpec : ChangeSpec := { name := "lockAlone", fn := fun _ => fun
  | [d1, d2, d3, d4] => { results := [.lit (.bool true)], args := [d1, d2, d3, d4] }
  | _ => none }
def lockAloneRow : OpenClaim := { program := "ytnabfpcfodgmpaa", sum := "836f7aec56e178dcdbe31701d28894c49069cb84dd1f2b7bbfbc7c2fc7c747bc", func := "hallmoot/hallmootlaw16.LockAlone", spec := "lockAlone", unfollowed := true, recurses := true, apart := false }
def LockAloneSaid : Prop := lockAloneRow.holds Try.pinned (OpenSpec.ofChange lockAloneSpec)

/-- ITS FALSE NEIGHBOUR: 'it returns false'. Refute it at one input. -/
def lockAloneWrong : ChangeSpec := { name := "lockAlone", fn := fun _ => fun
  | [d1, d2, d3, d4] => { results := [.lit (.bool false)], args := [d1, d2, d3, d4] }
  | _ => none }
def LockAloneWrongFalsely : Prop := lockAloneRow.holds Try.pinned (OpenSpec.ofChange lockAloneWrong)

/-- 'hallmootlaw19.ViewAloneReadsCell': WHATEVER THE INPUT: true; the input reads as it did. -/
def viewAloneReadsCellSpec : ChangeSpec := { name := "viewAloneReadsCell", fn := fun _ => fun
  | [d] => { results := [.lit (.bool true)], args := [d] }
  | _ => none }
def viewAloneReadsCellRow : OpenClaim := { program := "ytnabfpcfodgmpaa", sum := "836f7aec56e178dcdbe31701d28894c49069cb84dd1f2b7bbfbc7c2fc7c747bc", func := "hallmoot/hallmootlaw19.ViewAloneReadsCell", spec := "viewAloneReadsCell", unfollowed := true, recurses := true, apart := false }
def ViewAloneReadsCellSaid : Prop := viewAloneReadsCellRow.holds Try.pinned (OpenSpec.ofChange viewAloneReadsCellSpec)

/-- ITS FALSE NEIGHBOUR: 'it returns false'. Refute it at one input. -/
def viewAloneReadsCellWrong : ChangeSpec := { name := "viewAloneReadsCell", fn := fun _ => fun
  | [d] => { results := [.lit (.bool false)], args := [d] }
  | _ => none }
def ViewAloneReadsCellWrongFalsely : Prop := viewAloneReadsCellRow.holds Try.pinned (OpenSpec.ofChange viewAloneReadsCellWrong)

/-- 'hallmootlaw19.ViewLosesDoomed': WHATEVER THE INPUT: true; the input reads as it did. -/
def viewLosesDoomedSpec : ChangeSpec := { name := "viewLosesDoomed", fn := fun _ => fun
  | [d] => { results := [.lit (.bool true)], args := [d] }
  | _ => none }
def viewLosesDoomedRow : OpenClaim := { program := "ytnabfpcfodgmpaa", sum := "836f7aec56e178dcdbe31701d28894c49069cb84dd1f2b7bbfbc7c2fc7c747bc", func := "hallmoot/hallmootlaw19.ViewLosesDoomed", spec := "viewLosesDoomed", unfollowed := true, recurses := true, apart := false }
def ViewLosesDoomedSaid : Prop := viewLosesDoomedRow.holds Try.pinned (OpenSpec.ofChange viewLosesDoomedSpec)

/-- ITS FALSE NEIGHBOUR: 'it returns false'. Refute it at one input. -/
def viewLosesDoomedWrong : ChangeSpec := { name := "viewLosesDoomed", fn := fun _ => fun
  | [d] => { results := [.lit (.bool false)], args := [d] }
  | _ => none }
def ViewLosesDoomedWrongFalsely : Prop := viewLosesDoomedRow.holds Try.pinned (OpenSpec.ofChange viewLosesDoomedWrong)

/-- 'hallmootlaw21.WaitRouseWakesMask': WHATEVER THE INPUT: true; the input reads as it did. -/
def waitRouseWakesMaskSpec : ChangeSpec := { name := "waitRouseWakesMask", fn := fun _ => fun
  | [d1, d2] => { results := [.lit (.bool true)], args := [d1, d2] }
  | _ => none }
def waitRouseWakesMaskRow : OpenClaim := { program := "ytnabfpcfodgmpaa", sum := "836f7aec56e178dcdbe31701d28894c49069cb84dd1f2b7bbfbc7c2fc7c747bc", func := "hallmoot/hallmootlaw21.WaitRouseWakesMask", spec := "waitRouseWakesMask", unfollowed := true, recurses := true, apart := false }
def WaitRouseWakesMaskSaid : Prop := waitRouseWakesMaskRow.holds Try.pinned (OpenSpec.ofChange waitRouseWakesMaskSpec)

/-- ITS FALSE NEIGHBOUR: 'it returns false'. Refute it at one input. -/
def waitRouseWakesMaskWrong : ChangeSpec := { name := "waitRouseWakesMask", fn := fun _ => fun
  | [d1, d2] => { results := [.lit (.bool false)], args := [d1, d2] }
  | _ => none }
def WaitRouseWakesMaskWrongFalsely : Prop := waitRouseWakesMaskRow.holds Try.pinned (OpenSpec.ofChange waitRouseWakesMaskWrong)

/-- 'hallmootlaw21.WaitAloneCounts': WHATEVER THE INPUT: true; the input reads as it did. -/
def waitAloneCountsSpec : ChangeSpec := { name := "waitAloneCounts", fn := fun _ => fun
  | [d1, d2] => { results := [.lit (.bool true)], args := [d1, d2] }
  | _ => none }
def waitAloneCountsRow : OpenClaim := { program := "ytnabfpcfodgmpaa", sum := "836f7aec56e178dcdbe31701d28894c49069cb84dd1f2b7bbfbc7c2fc7c747bc", func := "hallmoot/hallmootlaw21.WaitAloneCounts", spec := "waitAloneCounts", unfollowed := true, recurses := true, apart := false }
def WaitAloneCountsSaid : Prop := waitAloneCountsRow.holds Try.pinned (OpenSpec.ofChange waitAloneCountsSpec)

/-- ITS FALSE NEIGHBOUR: 'it returns false'. Refute it at one input. -/
def waitAloneCountsWrong : ChangeSpec := { name := "waitAloneCounts", fn := fun _ => fun
  | [d1, d2] => { results := [.lit (.bool false)], args := [d1, d2] }
  | _ => none }
def WaitAloneCountsWrongFalsely : Prop := waitAloneCountsRow.holds Try.pinned (OpenSpec.ofChange waitAloneCountsWrong)

/- THE SECOND FORM. 'bulk': how many values and letters a reading holds, each counted each time it is reached (what is shared counts as often as it is met; a slice's spare places count too). A statement '..UptoSaid' is the law's where the arguments, and the package variables that the reading takes, are together of bulk at most 1048576: NARROWER than '..Said'. Prove '..Said' where nothing that the law and all that it calls make is longer than what came in: it says more and counts as full. Else prove '..UptoSaid'. A law counts once. -/
mutual
def uptoBulk {H : Type} : DataW H → Nat
  | .lit (.string bytes) => bytes.length + 1
  | .lit _ => 1
  | .nil => 1
  | .ptr d => uptoBulk d + 1
  | .slice elems spare => uptoBulkAll elems + uptoBulkAll spare + 1
  | .agg parts => uptoBulkAll parts + 1
  | .iface _ d => uptoBulk d + 1
  | .map entries => uptoBulkEntries entries + 1
  | .held _ => 1
def uptoBulkAll {H : Type} : List (DataW H) → Nat
  | [] => 0
  | d :: r => uptoBulk d + uptoBulkAll r
def uptoBulkEntries {H : Type} : List (Lit × DataW H) → Nat
  | [] => 0
  | x :: r => uptoBulkEntry x + uptoBulkEntries r
def uptoBulkEntry {H : Type} : Lit × DataW H → Nat
  | (.string bytes, d) => bytes.length + uptoBulk d + 1
  | (_, d) => uptoBulk d + 1
 end
def uptoSmall : (H : Type) → List (DataW H) → Bool := fun _ ds => decide (uptoBulkAll ds ≤ 1048576)
def OpenSpec.upto (s : _root_.Go.ChangeSpec) : _root_.Go.OpenSpec := { _root_.Go.OpenSpec.ofChange s with cond := some uptoSmall }

/-- 'hallmootlaw16.LockValidate', WHERE WHAT IT READS IS OF BULK AT MOST 1048576: true; the input reads as it did. -/
def lockValidateUptoRow : OpenClaim := { program := "ytnabfpcfodgmpaa", sum := "836f7aec56e178dcdbe31701d28894c49069cb84dd1f2b7bbfbc7c2fc7c747bc", func := "hallmoot/hallmootlaw16.LockValidate", spec := "lockValidate", unfollowed := true, recurses := true, apart := false, narrowed := true }
def LockValidateUptoSaid : Prop := lockValidateUptoRow.holds Try.pinned (OpenSpec.upto lockValidateSpec)

/-- 'hallmootlaw16.LockAlone', WHERE WHAT IT READS IS OF BULK AT MOST 1048576: true; the input reads as it did. -/
def lockAloneUptoRow : OpenClaim := { program := "ytnabfpcfodgmpaa", sum := "836f7aec56e178dcdbe31701d28894c49069cb84dd1f2b7bbfbc7c2fc7c747bc", func := "hallmoot/hallmootlaw16.LockAlone", spec := "lockAlone", unfollowed := true, recurses := true, apart := false, narrowed := true }
def LockAloneUptoSaid : Prop := lockAloneUptoRow.holds Try.pinned (OpenSpec.upto lockAloneSpec)

/-- 'hallmootlaw19.ViewAloneReadsCell', WHERE WHAT IT READS IS OF BULK AT MOST 1048576: true; the input reads as it did. -/
def viewAloneReadsCellUptoRow : OpenClaim := { program := "ytnabfpcfodgmpaa", sum := "836f7aec56e178dcdbe31701d28894c49069cb84dd1f2b7bbfbc7c2fc7c747bc", func := "hallmoot/hallmootlaw19.ViewAloneReadsCell", spec := "viewAloneReadsCell", unfollowed := true, recurses := true, apart := false, narrowed := true }
def ViewAloneReadsCellUptoSaid : Prop := viewAloneReadsCellUptoRow.holds Try.pinned (OpenSpec.upto viewAloneReadsCellSpec)

/-- 'hallmootlaw19.ViewLosesDoomed', WHERE WHAT IT READS IS OF BULK AT MOST 1048576: true; the input reads as it did. -/
def viewLosesDoomedUptoRow : OpenClaim := { program := "ytnabfpcfodgmpaa", sum := "836f7aec56e178dcdbe31701d28894c49069cb84dd1f2b7bbfbc7c2fc7c747bc", func := "hallmoot/hallmootlaw19.ViewLosesDoomed", spec := "viewLosesDoomed", unfollowed := true, recurses := true, apart := false, narrowed := true }
def ViewLosesDoomedUptoSaid : Prop := viewLosesDoomedUptoRow.holds Try.pinned (OpenSpec.upto viewLosesDoomedSpec)

/-- 'hallmootlaw21.WaitRouseWakesMask', WHERE WHAT IT READS IS OF BULK AT MOST 1048576: true; the input reads as it did. -/
def waitRouseWakesMaskUptoRow : OpenClaim := { program := "ytnabfpcfodgmpaa", sum := "836f7aec56e178dcdbe31701d28894c49069cb84dd1f2b7bbfbc7c2fc7c747bc", func := "hallmoot/hallmootlaw21.WaitRouseWakesMask", spec := "waitRouseWakesMask", unfollowed := true, recurses := true, apart := false, narrowed := true }
def WaitRouseWakesMaskUptoSaid : Prop := waitRouseWakesMaskUptoRow.holds Try.pinned (OpenSpec.upto waitRouseWakesMaskSpec)

/-- 'hallmootlaw21.WaitAloneCounts', WHERE WHAT IT READS IS OF BULK AT MOST 1048576: true; the input reads as it did. -/
def waitAloneCountsUptoRow : OpenClaim := { program := "ytnabfpcfodgmpaa", sum := "836f7aec56e178dcdbe31701d28894c49069cb84dd1f2b7bbfbc7c2fc7c747bc", func := "hallmoot/hallmootlaw21.WaitAloneCounts", spec := "waitAloneCounts", unfollowed := true, recurses := true, apart := false, narrowed := true }
def WaitAloneCountsUptoSaid : Prop := waitAloneCountsUptoRow.holds Try.pinned (OpenSpec.upto waitAloneCountsSpec)

end Rows
end Go.Proofs.Ytnabfpcfodgmpaa
