/-
  No cell of these rows narrows 'for every input' (looked for: loops, veiled, ifaces, maps, wideKeys, modest, calm, conditions, laid).
  DERIVED. THE GIVEN ROWS OF THIS SEAT. 11 by the template 'for every input the law returns true; each argument reads behind the call as it read before'; 0 by the template 'total and deterministic' (their statements: YtaclnaedinfhmaaTotals.lean).
  GIVEN WITH THE SEED: the statements are not yours to turn. If you find one false, say at which input.
  Laid BY PROGRAM, IN A SANDBOX (cutbox-rows.mjs): the forced cells as the released guide's own fill.sh prints them over the translation bbc153b8ee7df606… (all of the seat's roots in one cut). By AI agents, Wed Nov 11 2026. No macro, syntax, notation, axiom, sorry.
-/
import Derived.Test.YtaclnaedinfhmaaChecked
import GoSem.Claim
import GoSem.ClaimJoined
import GoSem.ClaimMapViews
import Derived.JoinedTies
import Derived.KernelRfl
namespace Go.Proofs.Ytaclnaedinfhmaa
/- THE CELL 'sum', in the pinned program and in every row, IS THE sha256 OF THE DUMP (.gsa) THAT YtaclnaedinfhmaaProg.lean LOADS. Nothing in Lean hashes anything: it is a label: what it is worth is what the hold of that sum in a sandbox is worth. -/
noncomputable def Try.pinned : Pinned := { name := "ytaclnaedinfhmaa", sum := "bbc153b8ee7df606bc1f62dfd4ac6d22a9e6f916e2783ea1e6e11250f0bcf7d4", checked := Try.checked }
namespace Rows
def none {H : Type} : Left H := { results := [], args := [] }

/-- 'hallmootlaw16.LockNext': WHATEVER THE INPUT: true; the input reads as it did. -/
def lockNextSpec : ChangeSpec := { name := "lockNext", fn := fun _ => fun
  | [d1, d2, d3] => { results := [.lit (.bool true)], args := [d1, d2, d3] }
  | _ => none }
def lockNextRow : OpenClaim := { program := "ytaclnaedinfhmaa", sum := "bbc153b8ee7df606bc1f62dfd4ac6d22a9e6f916e2783ea1e6e11250f0bcf7d4", func := "hallmoot/hallmootlaw16.LockNext", spec := "lockNext", unfollowed := true, recurses := true, apart := false }
def LockNextSaid : Prop := lockNextRow.holds Try.pinned (OpenSpec.ofChange lockNextSpec)

/-- ITS FALSE NEIGHBOUR: 'it returns false'. Refute it at one input. -/
def lockNextWrong : ChangeSpec := { name := "lockNext", fn := fun _ => fun
  | [d1, d2, d3] => { results := [.lit (.bool false)], args := [d1, d2, d3] }
  | _ => none }
def LockNextWrongFalsely : Prop := lockNextRow.holds Try.pinned (OpenSpec.ofChange lockNextWrong)

/-- 'hallmootlaw16.LockExclusive': WHATEVER THE INPUT: true; the input reads as it did. -/
def lockExclusiveSpec : ChangeSpec := { name := "lockExclusive", fn := fun _ => fun
  | [d] => { results := [.lit (.bool true)], args := [d] }
  | _ => none }
def lockExclusiveRow : OpenClaim := { program := "ytaclnaedinfhmaa", sum := "bbc153b8ee7df606bc1f62dfd4ac6d22a9e6f916e2783ea1e6e11250f0bcf7d4", func := "hallmoot/hallmootlaw16.LockExclusive", spec := "lockExclusive", unfollowed := true, recurses := true, apart := false }
def LockExclusiveSaid : Prop := lockExclusiveRow.holds Try.pinned (OpenSpec.ofChange lockExclusiveSpec)

/-- ITS FALSE NEIGHBOUR: 'it returns false'. Refute it at one input. -/
def lockExclusiveWrong : ChangeSpec := { name := "lockExclusive", fn := fun _ => fun
  | [d] => { results := [.lit (.bool false)], args := [d] }
  | _ => none }
def LockExclusiveWrongFalsely : Prop := lockExclusiveRow.holds Try.pinned (OpenSpec.ofChange lockExclusiveWrong)

/-- 'hallmootlaw16.LockRead': WHATEVER THE INPUT: true; the input reads as it did. -/
def lockReadSpec : ChangeSpec := { name := "lockRead", fn := fun _ => fun
  | [d] => { results := [.lit (.bool true)], args := [d] }
  | _ => none }
def lockReadRow : OpenClaim := { program := "ytaclnaedinfhmaa", sum := "bbc153b8ee7df606bc1f62dfd4ac6d22a9e6f916e2783ea1e6e11250f0bcf7d4", func := "hallmoot/hallmootlaw16.LockRead", spec := "lockRead", unfollowed := true, recurses := true, apart := false }
def LockReadSaid : Prop := lockReadRow.holds Try.pinned (OpenSpec.ofChange lockReadSpec)

/-- ITS FALSE NEIGHBOUR: 'it returns false'. Refute it at one input. -/
def lockReadWrong : ChangeSpec := { name := "lockRead", fn := fun _ => fun
  | [d] => { results := [.lit (.bool false)], args := [d] }
  | _ => none }
def LockReadWrongFalsely : Prop := lockReadRow.holds Try.pinned (OpenSpec.ofChange lockReadWrong)

/-- 'hallmootlaw16.LockValidate': WHATEVER THE INPUT: true; the input reads as it did. -/
def lockValidateSpec : ChangeSpec := { name := "lockValidate", fn := fun _ => fun
  | [d1, d2, d3, d4, d5] => { results := [.lit (.bool true)], args := [d1, d2, d3, d4, d5] }
  | _ => none }
def lockValidateRow : OpenClaim := { program := "ytaclnaedinfhmaa", sum := "bbc153b8ee7df606bc1f62dfd4ac6d22a9e6f916e2783ea1e6e11250f0bcf7d4", func := "hallmoot/hallmootlaw16.LockValidate", spec := "lockValidate", unfollowed := true, recurses := true, apart := false }
def LockValidateSaid : Prop := lockValidateRow.holds Try.pinned (OpenSpec.ofChange lockValidateSpec)

/-- ITS FALSE NEIGHBOUR: 'it returns false'. Refute it at one input. -/
def lockValidateWrong : ChangeSpec := { name := "lockValidate", fn := fun _ => fun
  | [d1, d2, d3, d4, d5] => { results := [.lit (.bool false)], args := [d1, d2, d3, d4, d5] }
  | _ => none }
def LockValidateWrongFalsely : Prop := lockValidateRow.holds Try.pinned (OpenSpec.ofChange lockValidateWrong)

/-- 'hallmootlaw16.LockAlone': WHATEVER THE INPUT: true; the input reads as it did. -/
def lockAloneSpec : ChangeSpec := { name := "lockAlone", fn := fun _ => fun
  | [d1, d2, d3, d4] => { results := [.lit (.bool true)], args := [d1, d2, d3, d4] }
  | _ => none }
def lockAloneRow : OpenClaim := { program := "ytaclnaedinfhmaa", sum := "bbc153b8ee7df606bc1f62dfd4ac6d22a9e6f916e2783ea1e6e11250f0bcf7d4", func := "hallmoot/hallmootlaw16.LockAlone", spec := "lockAlone", unfollowed := true, recurses := true, apart := false }
def LockAloneSaid : Prop := lockAloneRow.holds Try.pinned (OpenSpec.ofChange lockAloneSpec)

/-- ITS FALSE NEIGHBOUR: 'it returns false'. Refute it at one input. -/
def lockAloneWrong : ChangeSpec := { name := "lockAlone", fn := fun _ => fun
  | [d1, d2, d3, d4] => { results := [.lit (.bool false)], args := [d1, d2, d3, d4] }
  | _ => none }
def LockAloneWrongFalsely : Prop := lockAloneRow.holds Try.pinned (OpenSpec.ofChange lockAloneWrong)

/-- 'hallmootlaw17.ManagerChoose': WHATEVER THE INPUT: true; the input reads as it did. -/
def managerChooseSpec : ChangeSpec := { name := "managerChoose", fn := fun _ => fun
  | [d1, d2, d3] => { results := [.lit (.bool true)], args := [d1, d2, d3] }
  | _ => none }
def managerChooseRow : OpenClaim := { program := "ytaclnaedinfhmaa", sum := "bbc153b8ee7df606bc1f62dfd4ac6d22a9e6f916e2783ea1e6e11250f0bcf7d4", func := "hallmoot/hallmootlaw17.ManagerChoose", spec := "managerChoose", unfollowed := true, recurses := true, apart := false }
def ManagerChooseSaid : Prop := managerChooseRow.holds Try.pinned (OpenSpec.ofChange managerChooseSpec)

/-- ITS FALSE NEIGHBOUR: 'it returns false'. Refute it at one input. -/
def managerChooseWrong : ChangeSpec := { name := "managerChoose", fn := fun _ => fun
  | [d1, d2, d3] => { results := [.lit (.bool false)], args := [d1, d2, d3] }
  | _ => none }
def ManagerChooseWrongFalsely : Prop := managerChooseRow.holds Try.pinned (OpenSpec.ofChange managerChooseWrong)

/-- 'hallmootlaw17.ManagerNext': WHATEVER THE INPUT: true; the input reads as it did. -/
def managerNextSpec : ChangeSpec := { name := "managerNext", fn := fun _ => fun
  | [d1, d2, d3, d4] => { results := [.lit (.bool true)], args := [d1, d2, d3, d4] }
  | _ => none }
def managerNextRow : OpenClaim := { program := "ytaclnaedinfhmaa", sum := "bbc153b8ee7df606bc1f62dfd4ac6d22a9e6f916e2783ea1e6e11250f0bcf7d4", func := "hallmoot/hallmootlaw17.ManagerNext", spec := "managerNext", unfollowed := true, recurses := true, apart := false }
def ManagerNextSaid : Prop := managerNextRow.holds Try.pinned (OpenSpec.ofChange managerNextSpec)

/-- ITS FALSE NEIGHBOUR: 'it returns false'. Refute it at one input. -/
def managerNextWrong : ChangeSpec := { name := "managerNext", fn := fun _ => fun
  | [d1, d2, d3, d4] => { results := [.lit (.bool false)], args := [d1, d2, d3, d4] }
  | _ => none }
def ManagerNextWrongFalsely : Prop := managerNextRow.holds Try.pinned (OpenSpec.ofChange managerNextWrong)

/-- 'hallmootlaw17.ManagerAsymmetric': WHATEVER THE INPUT: true; the input reads as it did. -/
def managerAsymmetricSpec : ChangeSpec := { name := "managerAsymmetric", fn := fun _ => fun
  | [d1, d2, d3] => { results := [.lit (.bool true)], args := [d1, d2, d3] }
  | _ => none }
def managerAsymmetricRow : OpenClaim := { program := "ytaclnaedinfhmaa", sum := "bbc153b8ee7df606bc1f62dfd4ac6d22a9e6f916e2783ea1e6e11250f0bcf7d4", func := "hallmoot/hallmootlaw17.ManagerAsymmetric", spec := "managerAsymmetric", unfollowed := true, recurses := true, apart := false }
def ManagerAsymmetricSaid : Prop := managerAsymmetricRow.holds Try.pinned (OpenSpec.ofChange managerAsymmetricSpec)

/-- ITS FALSE NEIGHBOUR: 'it returns false'. Refute it at one input. -/
def managerAsymmetricWrong : ChangeSpec := { name := "managerAsymmetric", fn := fun _ => fun
  | [d1, d2, d3] => { results := [.lit (.bool false)], args := [d1, d2, d3] }
  | _ => none }
def ManagerAsymmetricWrongFalsely : Prop := managerAsymmetricRow.holds Try.pinned (OpenSpec.ofChange managerAsymmetricWrong)

/-- 'hallmootlaw17.ManagerAcyclic': WHATEVER THE INPUT: true; the input reads as it did. -/
def managerAcyclicSpec : ChangeSpec := { name := "managerAcyclic", fn := fun _ => fun
  | [d1, d2] => { results := [.lit (.bool true)], args := [d1, d2] }
  | _ => none }
def managerAcyclicRow : OpenClaim := { program := "ytaclnaedinfhmaa", sum := "bbc153b8ee7df606bc1f62dfd4ac6d22a9e6f916e2783ea1e6e11250f0bcf7d4", func := "hallmoot/hallmootlaw17.ManagerAcyclic", spec := "managerAcyclic", unfollowed := true, recurses := true, apart := false }
def ManagerAcyclicSaid : Prop := managerAcyclicRow.holds Try.pinned (OpenSpec.ofChange managerAcyclicSpec)

/-- ITS FALSE NEIGHBOUR: 'it returns false'. Refute it at one input. -/
def managerAcyclicWrong : ChangeSpec := { name := "managerAcyclic", fn := fun _ => fun
  | [d1, d2] => { results := [.lit (.bool false)], args := [d1, d2] }
  | _ => none }
def ManagerAcyclicWrongFalsely : Prop := managerAcyclicRow.holds Try.pinned (OpenSpec.ofChange managerAcyclicWrong)

/-- 'hallmootlaw17.ManagerDooms': WHATEVER THE INPUT: true; the input reads as it did. -/
def managerDoomsSpec : ChangeSpec := { name := "managerDooms", fn := fun _ => fun
  | [d1, d2, d3, d4, d5, d6] => { results := [.lit (.bool true)], args := [d1, d2, d3, d4, d5, d6] }
  | _ => none }
def managerDoomsRow : OpenClaim := { program := "ytaclnaedinfhmaa", sum := "bbc153b8ee7df606bc1f62dfd4ac6d22a9e6f916e2783ea1e6e11250f0bcf7d4", func := "hallmoot/hallmootlaw17.ManagerDooms", spec := "managerDooms", unfollowed := true, recurses := true, apart := false }
def ManagerDoomsSaid : Prop := managerDoomsRow.holds Try.pinned (OpenSpec.ofChange managerDoomsSpec)

/-- ITS FALSE NEIGHBOUR: 'it returns false'. Refute it at one input. -/
def managerDoomsWrong : ChangeSpec := { name := "managerDooms", fn := fun _ => fun
  | [d1, d2, d3, d4, d5, d6] => { results := [.lit (.bool false)], args := [d1, d2, d3, d4, d5, d6] }
  | _ => none }
def ManagerDoomsWrongFalsely : Prop := managerDoomsRow.holds Try.pinned (OpenSpec.ofChange managerDoomsWrong)

/-- 'hallmootlaw17.ManagerRace': WHATEVER THE INPUT: true; the input reads as it did. -/
def managerRaceSpec : ChangeSpec := { name := "managerRace", fn := fun _ => fun
  | [d1, d2, d3] => { results := [.lit (.bool true)], args := [d1, d2, d3] }
  | _ => none }
def managerRaceRow : OpenClaim := { program := "ytaclnaedinfhmaa", sum := "bbc153b8ee7df606bc1f62dfd4ac6d22a9e6f916e2783ea1e6e11250f0bcf7d4", func := "hallmoot/hallmootlaw17.ManagerRace", spec := "managerRace", unfollowed := true, recurses := true, apart := false }
def ManagerRaceSaid : Prop := managerRaceRow.holds Try.pinned (OpenSpec.ofChange managerRaceSpec)

/-- ITS FALSE NEIGHBOUR: 'it returns false'. Refute it at one input. -/
def managerRaceWrong : ChangeSpec := { name := "managerRace", fn := fun _ => fun
  | [d1, d2, d3] => { results := [.lit (.bool false)], args := [d1, d2, d3] }
  | _ => none }
def ManagerRaceWrongFalsely : Prop := managerRaceRow.holds Try.pinned (OpenSpec.ofChange managerRaceWrong)

/- THE SECOND FORM. 'bulk': how many values and letters a reading holds, each counted each time it is reached (what is shared counts as often as it is met; a slice's spare places count too). A statement '..UptoSaid' is the law's where the arguments, and the package variables that the reading takes, are together of bulk at most 1048576: NARROWER than '..Said'. Prove '..Said' where nothing that the law and all that it calls make is longer than what came in: it says more and counts as full. Else prove '..UptoSaid'. A law counts once. -/
mutual
def uptoBulk {H : Type} : DataW H → Nat
  | .lit (.string bytes) => bytes.length + 1
  | .lit _ => 1
  | .nil => 1
  | .ptr d => uptoBulk d + 1
  | .slice elems spare => uptoBulkAll elems + uptoBulkAll spare + 1
  | .agg parts => uptoBulkAll parts + 1
  | .iface _ d => uptoBulk d + 1
  | .map entries => uptoBulkEntries entries + 1
  | .held _ => 1
def uptoBulkAll {H : Type} : List (DataW H) → Nat
  | [] => 0
  | d :: r => uptoBulk d + uptoBulkAll r
def uptoBulkEntries {H : Type} : List (Lit × DataW H) → Nat
  | [] => 0
  | x :: r => uptoBulkEntry x + uptoBulkEntries r
def uptoBulkEntry {H : Type} : Lit × DataW H → Nat
  | (.string bytes, d) => bytes.length + uptoBulk d + 1
  | (_, d) => uptoBulk d + 1
 end
def uptoSmall : (H : Type) → List (DataW H) → Bool := fun _ ds => decide (uptoBulkAll ds ≤ 1048576)
def OpenSpec.upto (s : _root_.Go.ChangeSpec) : _root_.Go.OpenSpec := { _root_.Go.OpenSpec.ofChange s with cond := some uptoSmall }

/-- 'hallmootlaw16.LockNext', WHERE WHAT IT READS IS OF BULK AT MOST 1048576: true; the input reads as it did. -/
def lockNextUptoRow : OpenClaim := { program := "ytaclnaedinfhmaa", sum := "bbc153b8ee7df606bc1f62dfd4ac6d22a9e6f916e2783ea1e6e11250f0bcf7d4", func := "hallmoot/hallmootlaw16.LockNext", spec := "lockNext", unfollowed := true, recurses := true, apart := false, narrowed := true }
def LockNextUptoSaid : Prop := lockNextUptoRow.holds Try.pinned (OpenSpec.upto lockNextSpec)

/-- 'hallmootlaw16.LockExclusive', WHERE WHAT IT READS IS OF BULK AT MOST 1048576: true; the input reads as it did. -/
def lockExclusiveUptoRow : OpenClaim := { program := "ytaclnaedinfhmaa", sum := "bbc153b8ee7df606bc1f62dfd4ac6d22a9e6f916e2783ea1e6e11250f0bcf7d4", func := "hallmoot/hallmootlaw16.LockExclusive", spec := "lockExclusive", unfollowed := true, recurses := true, apart := false, narrowed := true }
def LockExclusiveUptoSaid : Prop := lockExclusiveUptoRow.holds Try.pinned (OpenSpec.upto lockExclusiveSpec)

/-- 'hallmootlaw16.LockRead', WHERE WHAT IT READS IS OF BULK AT MOST 1048576: true; the input reads as it did. -/
def lockReadUptoRow : OpenClaim := { program := "ytaclnaedinfhmaa", sum := "bbc153b8ee7df606bc1f62dfd4ac6d22a9e6f916e2783ea1e6e11250f0bcf7d4", func := "hallmoot/hallmootlaw16.LockRead", spec := "lockRead", unfollowed := true, recurses := true, apart := false, narrowed := true }
def LockReadUptoSaid : Prop := lockReadUptoRow.holds Try.pinned (OpenSpec.upto lockReadSpec)

/-- 'hallmootlaw16.LockValidate', WHERE WHAT IT READS IS OF BULK AT MOST 1048576: true; the input reads as it did. -/
def lockValidateUptoRow : OpenClaim := { program := "ytaclnaedinfhmaa", sum := "bbc153b8ee7df606bc1f62dfd4ac6d22a9e6f916e2783ea1e6e11250f0bcf7d4", func := "hallmoot/hallmootlaw16.LockValidate", spec := "lockValidate", unfollowed := true, recurses := true, apart := false, narrowed := true }
def LockValidateUptoSaid : Prop := lockValidateUptoRow.holds Try.pinned (OpenSpec.upto lockValidateSpec)

/-- 'hallmootlaw16.LockAlone', WHERE WHAT IT READS IS OF BULK AT MOST 1048576: true; the input reads as it did. -/
def lockAloneUptoRow : OpenClaim := { program := "ytaclnaedinfhmaa", sum := "bbc153b8ee7df606bc1f62dfd4ac6d22a9e6f916e2783ea1e6e11250f0bcf7d4", func := "hallmoot/hallmootlaw16.LockAlone", spec := "lockAlone", unfollowed := true, recurses := true, apart := false, narrowed := true }
def LockAloneUptoSaid : Prop := lockAloneUptoRow.holds Try.pinned (OpenSpec.upto lockAloneSpec)

/-- 'hallmootlaw17.ManagerChoose', WHERE WHAT IT READS IS OF BULK AT MOST 1048576: true; the input reads as it did. -/
def managerChooseUptoRow : OpenClaim := { program := "ytaclnaedinfhmaa", sum := "bbc153b8ee7df606bc1f62dfd4ac6d22a9e6f916e2783ea1e6e11250f0bcf7d4", func := "hallmoot/hallmootlaw17.ManagerChoose", spec := "managerChoose", unfollowed := true, recurses := true, apart := false, narrowed := true }
def ManagerChooseUptoSaid : Prop := managerChooseUptoRow.holds Try.pinned (OpenSpec.upto managerChooseSpec)

/-- 'hallmootlaw17.ManagerNext', WHERE WHAT IT READS IS OF BULK AT MOST 1048576: true; the input reads as it did. -/
def managerNextUptoRow : OpenClaim := { program := "ytaclnaedinfhmaa", sum := "bbc153b8ee7df606bc1f62dfd4ac6d22a9e6f916e2783ea1e6e11250f0bcf7d4", func := "hallmoot/hallmootlaw17.ManagerNext", spec := "managerNext", unfollowed := true, recurses := true, apart := false, narrowed := true }
def ManagerNextUptoSaid : Prop := managerNextUptoRow.holds Try.pinned (OpenSpec.upto managerNextSpec)

/-- 'hallmootlaw17.ManagerAsymmetric', WHERE WHAT IT READS IS OF BULK AT MOST 1048576: true; the input reads as it did. -/
def managerAsymmetricUptoRow : OpenClaim := { program := "ytaclnaedinfhmaa", sum := "bbc153b8ee7df606bc1f62dfd4ac6d22a9e6f916e2783ea1e6e11250f0bcf7d4", func := "hallmoot/hallmootlaw17.ManagerAsymmetric", spec := "managerAsymmetric", unfollowed := true, recurses := true, apart := false, narrowed := true }
def ManagerAsymmetricUptoSaid : Prop := managerAsymmetricUptoRow.holds Try.pinned (OpenSpec.upto managerAsymmetricSpec)

/-- 'hallmootlaw17.ManagerAcyclic', WHERE WHAT IT READS IS OF BULK AT MOST 1048576: true; the input reads as it did. -/
def managerAcyclicUptoRow : OpenClaim := { program := "ytaclnaedinfhmaa", sum := "bbc153b8ee7df606bc1f62dfd4ac6d22a9e6f916e2783ea1e6e11250f0bcf7d4", func := "hallmoot/hallmootlaw17.ManagerAcyclic", spec := "managerAcyclic", unfollowed := true, recurses := true, apart := false, narrowed := true }
def ManagerAcyclicUptoSaid : Prop := managerAcyclicUptoRow.holds Try.pinned (OpenSpec.upto managerAcyclicSpec)

/-- 'hallmootlaw17.ManagerDooms', WHERE WHAT IT READS IS OF BULK AT MOST 1048576: true; the input reads as it did. -/
def managerDoomsUptoRow : OpenClaim := { program := "ytaclnaedinfhmaa", sum := "bbc153b8ee7df606bc1f62dfd4ac6d22a9e6f916e2783ea1e6e11250f0bcf7d4", func := "hallmoot/hallmootlaw17.ManagerDooms", spec := "managerDooms", unfollowed := true, recurses := true, apart := false, narrowed := true }
def ManagerDoomsUptoSaid : Prop := managerDoomsUptoRow.holds Try.pinned (OpenSpec.upto managerDoomsSpec)

/-- 'hallmootlaw17.ManagerRace', WHERE WHAT IT READS IS OF BULK AT MOST 1048576: true; the input reads as it did. -/
def managerRaceUptoRow : OpenClaim := { program := "ytaclnaedinfhmaa", sum := "bbc153b8ee7df606bc1f62dfd4ac6d22a9e6f916e2783ea1e6e11250f0bcf7d4", func := "hallmoot/hallmootlaw17.ManagerRace", spec := "managerRace", unfollowed := true, recurses := true, apart := false, narrowed := true }
def ManagerRaceUptoSaid : Prop := managerRaceUptoRow.holds Try.pinned (OpenSpec.upto managerRaceSpec)

end Rows
end Go.Proofs.Ytaclnaedinfhmaa
