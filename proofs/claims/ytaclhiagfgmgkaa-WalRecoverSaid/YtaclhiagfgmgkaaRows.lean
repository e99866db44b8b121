/-
  No cell of these rows narrows 'for every input' (looked for: loops, veiled, ifaces, maps, wideKeys, modest, calm, conditions, laid).
  DERIVED. THE GIVEN ROWS OF THIS SEAT. 6 by the template 'for every input the law returns true; each argument reads behind the call as it read before'; 0 by the template 'total and deterministic' (their statements: YtaclhiagfgmgkaaTotals.lean).
  GIVEN WITH THE SEED: the statements are not yours to turn. If you find one false, say at which input.
  Laid BY PROGRAM, IN A SANDBOX (cutbox-rows.mjs): the forced cells as the released guide's own fill.sh prints them over the translation e14808d6a957551e… (all of the seat's roots in one cut). By AI agents, Wed Nov 11 2026. No macro, syntax, notation, axiom, sorry.
-/
import Derived.Test.YtaclhiagfgmgkaaChecked
import GoSem.Claim
import GoSem.ClaimJoined
import GoSem.ClaimMapViews
import Derived.JoinedTies
import Derived.KernelRfl
namespace Go.Proofs.Ytaclhiagfgmgkaa
/- THE CELL 'sum', in the pinned program and in every row, IS THE sha256 OF THE DUMP (.gsa) THAT YtaclhiagfgmgkaaProg.lean LOADS. Nothing in Lean hashes anything: it is a label: what it is worth is what the hold of that sum in a sandbox is worth. -/
noncomputable def Try.pinned : Pinned := { name := "ytaclhiagfgmgkaa", sum := "e14808d6a957551e8fc02498cd222cbd62be83343cb0a6eaea387c3ba914b9f8", checked := Try.checked }
namespace Rows
def none {H : Type} : Left H := { results := [], args := [] }

/-- 'hallmootlaw23.WalRecord': WHATEVER THE INPUT: true; the input reads as it did. -/
def walRecordSpec : ChangeSpec := { name := "walRecord", fn := fun _ => fun
  | [d1, d2] => { results := [.lit (.bool true)], args := [d1, d2] }
  | _ => none }
def walRecordRow : OpenClaim := { program := "ytaclhiagfgmgkaa", sum := "e14808d6a957551e8fc02498cd222cbd62be83343cb0a6eaea387c3ba914b9f8", func := "hallmoot/hallmootlaw23.WalRecord", spec := "walRecord", unfollowed := true, recurses := true, apart := false }
def WalRecordSaid : Prop := walRecordRow.holds Try.pinned (OpenSpec.ofChange walRecordSpec)

/-- ITS FALSE NEIGHBOUR: 'it returns false'. Refute it at one input. -/
def walRecordWrong : ChangeSpec := { name := "walRecord", fn := fun _ => fun
  | [d1, d2] => { results := [.lit (.bool false)], args := [d1, d2] }
  | _ => none }
def WalRecordWrongFalsely : Prop := walRecordRow.holds Try.pinned (OpenSpec.ofChange walRecordWrong)

/-- 'hallmootlaw23.WalParse': WHATEVER THE INPUT: true; the input reads as it did. -/
def walParseSpec : ChangeSpec := { name := "walParse", fn := fun _ => fun
  | [d1, d2] => { results := [.lit (.bool true)], args := [d1, d2] }
  | _ => none }
def walParseRow : OpenClaim := { program := "ytaclhiagfgmgkaa", sum := "e14808d6a957551e8fc02498cd222cbd62be83343cb0a6eaea387c3ba914b9f8", func := "hallmoot/hallmootlaw23.WalParse", spec := "walParse", unfollowed := true, recurses := true, apart := false }
def WalParseSaid : Prop := walParseRow.holds Try.pinned (OpenSpec.ofChange walParseSpec)

/-- ITS FALSE NEIGHBOUR: 'it returns false'. Refute it at one input. -/
def walParseWrong : ChangeSpec := { name := "walParse", fn := fun _ => fun
  | [d1, d2] => { results := [.lit (.bool false)], args := [d1, d2] }
  | _ => none }
def WalParseWrongFalsely : Prop := walParseRow.holds Try.pinned (OpenSpec.ofChange walParseWrong)

/-- 'hallmootlaw23.WalRoundTrip': WHATEVER THE INPUT: true; the input reads as it did. -/
def walRoundTripSpec : ChangeSpec := { name := "walRoundTrip", fn := fun _ => fun
  | [d1, d2, d3] => { results := [.lit (.bool true)], args := [d1, d2, d3] }
  | _ => none }
def walRoundTripRow : OpenClaim := { program := "ytaclhiagfgmgkaa", sum := "e14808d6a957551e8fc02498cd222cbd62be83343cb0a6eaea387c3ba914b9f8", func := "hallmoot/hallmootlaw23.WalRoundTrip", spec := "walRoundTrip", unfollowed := true, recurses := true, apart := false }
def WalRoundTripSaid : Prop := walRoundTripRow.holds Try.pinned (OpenSpec.ofChange walRoundTripSpec)

/-- ITS FALSE NEIGHBOUR: 'it returns false'. Refute it at one input. -/
def walRoundTripWrong : ChangeSpec := { name := "walRoundTrip", fn := fun _ => fun
  | [d1, d2, d3] => { results := [.lit (.bool false)], args := [d1, d2, d3] }
  | _ => none }
def WalRoundTripWrongFalsely : Prop := walRoundTripRow.holds Try.pinned (OpenSpec.ofChange walRoundTripWrong)

/-- 'hallmootlaw23.WalCanonical': WHATEVER THE INPUT: true; the input reads as it did. -/
def walCanonicalSpec : ChangeSpec := { name := "walCanonical", fn := fun _ => fun
  | [d1, d2] => { results := [.lit (.bool true)], args := [d1, d2] }
  | _ => none }
def walCanonicalRow : OpenClaim := { program := "ytaclhiagfgmgkaa", sum := "e14808d6a957551e8fc02498cd222cbd62be83343cb0a6eaea387c3ba914b9f8", func := "hallmoot/hallmootlaw23.WalCanonical", spec := "walCanonical", unfollowed := true, recurses := true, apart := false }
def WalCanonicalSaid : Prop := walCanonicalRow.holds Try.pinned (OpenSpec.ofChange walCanonicalSpec)

/-- ITS FALSE NEIGHBOUR: 'it returns false'. Refute it at one input. -/
def walCanonicalWrong : ChangeSpec := { name := "walCanonical", fn := fun _ => fun
  | [d1, d2] => { results := [.lit (.bool false)], args := [d1, d2] }
  | _ => none }
def WalCanonicalWrongFalsely : Prop := walCanonicalRow.holds Try.pinned (OpenSpec.ofChange walCanonicalWrong)

/-- 'hallmootlaw23.WalTorn': WHATEVER THE INPUT: true; the input reads as it did. -/
def walTornSpec : ChangeSpec := { name := "walTorn", fn := fun _ => fun
  | [d1, d2] => { results := [.lit (.bool true)], args := [d1, d2] }
  | _ => none }
def walTornRow : OpenClaim := { program := "ytaclhiagfgmgkaa", sum := "e14808d6a957551e8fc02498cd222cbd62be83343cb0a6eaea387c3ba914b9f8", func := "hallmoot/hallmootlaw23.WalTorn", spec := "walTorn", unfollowed := true, recurses := true, apart := false }
def WalTornSaid : Prop := walTornRow.holds Try.pinned (OpenSpec.ofChange walTornSpec)

/-- ITS FALSE NEIGHBOUR: 'it returns false'. Refute it at one input. -/
def walTornWrong : ChangeSpec := { name := "walTorn", fn := fun _ => fun
  | [d1, d2] => { results := [.lit (.bool false)], args := [d1, d2] }
  | _ => none }
def WalTornWrongFalsely : Prop := walTornRow.holds Try.pinned (OpenSpec.ofChange walTornWrong)

/-- 'hallmootlaw23.WalRecover': WHATEVER THE INPUT: true; the input reads as it did. -/
def walRecoverSpec : ChangeSpec := { name := "walRecover", fn := fun _ => fun
  | [d1, d2, d3, d4] => { results := [.lit (.bool true)], args := [d1, d2, d3, d4] }
  | _ => none }
def walRecoverRow : OpenClaim := { program := "ytaclhiagfgmgkaa", sum := "e14808d6a957551e8fc02498cd222cbd62be83343cb0a6eaea387c3ba914b9f8", func := "hallmoot/hallmootlaw23.WalRecover", spec := "walRecover", unfollowed := true, recurses := true, apart := false }
def WalRecoverSaid : Prop := walRecoverRow.holds Try.pinned (OpenSpec.ofChange walRecoverSpec)

/-- ITS FALSE NEIGHBOUR: 'it returns false'. Refute it at one input. -/
def walRecoverWrong : ChangeSpec := { name := "walRecover", fn := fun _ => fun
  | [d1, d2, d3, d4] => { results := [.lit (.bool false)], args := [d1, d2, d3, d4] }
  | _ => none }
def WalRecoverWrongFalsely : Prop := walRecoverRow.holds Try.pinned (OpenSpec.ofChange walRecoverWrong)

/- THE SECOND FORM. 'bulk': how many values and letters a reading holds, each counted each time it is reached (what is shared counts as often as it is met; a slice's spare places count too). A statement '..UptoSaid' is the law's where the arguments, and the package variables that the reading takes, are together of bulk at most 1048576: NARROWER than '..Said'. Prove '..Said' where nothing that the law and all that it calls make is longer than what came in: it says more and counts as full. Else prove '..UptoSaid'. A law counts once. -/
mutual
def uptoBulk {H : Type} : DataW H → Nat
  | .lit (.string bytes) => bytes.length + 1
  | .lit _ => 1
  | .nil => 1
  | .ptr d => uptoBulk d + 1
  | .slice elems spare => uptoBulkAll elems + uptoBulkAll spare + 1
  | .agg parts => uptoBulkAll parts + 1
  | .iface _ d => uptoBulk d + 1
  | .map entries => uptoBulkEntries entries + 1
  | .held _ => 1
def uptoBulkAll {H : Type} : List (DataW H) → Nat
  | [] => 0
  | d :: r => uptoBulk d + uptoBulkAll r
def uptoBulkEntries {H : Type} : List (Lit × DataW H) → Nat
  | [] => 0
  | x :: r => uptoBulkEntry x + uptoBulkEntries r
def uptoBulkEntry {H : Type} : Lit × DataW H → Nat
  | (.string bytes, d) => bytes.length + uptoBulk d + 1
  | (_, d) => uptoBulk d + 1
 end
def uptoSmall : (H : Type) → List (DataW H) → Bool := fun _ ds => decide (uptoBulkAll ds ≤ 1048576)
def OpenSpec.upto (s : _root_.Go.ChangeSpec) : _root_.Go.OpenSpec := { _root_.Go.OpenSpec.ofChange s with cond := some uptoSmall }

/-- 'hallmootlaw23.WalRecord', WHERE WHAT IT READS IS OF BULK AT MOST 1048576: true; the input reads as it did. -/
def walRecordUptoRow : OpenClaim := { program := "ytaclhiagfgmgkaa", sum := "e14808d6a957551e8fc02498cd222cbd62be83343cb0a6eaea387c3ba914b9f8", func := "hallmoot/hallmootlaw23.WalRecord", spec := "walRecord", unfollowed := true, recurses := true, apart := false, narrowed := true }
def WalRecordUptoSaid : Prop := walRecordUptoRow.holds Try.pinned (OpenSpec.upto walRecordSpec)

/-- 'hallmootlaw23.WalParse', WHERE WHAT IT READS IS OF BULK AT MOST 1048576: true; the input reads as it did. -/
def walParseUptoRow : OpenClaim := { program := "ytaclhiagfgmgkaa", sum := "e14808d6a957551e8fc02498cd222cbd62be83343cb0a6eaea387c3ba914b9f8", func := "hallmoot/hallmootlaw23.WalParse", spec := "walParse", unfollowed := true, recurses := true, apart := false, narrowed := true }
def WalParseUptoSaid : Prop := walParseUptoRow.holds Try.pinned (OpenSpec.upto walParseSpec)

/-- 'hallmootlaw23.WalRoundTrip', WHERE WHAT IT READS IS OF BULK AT MOST 1048576: true; the input reads as it did. -/
def walRoundTripUptoRow : OpenClaim := { program := "ytaclhiagfgmgkaa", sum := "e14808d6a957551e8fc02498cd222cbd62be83343cb0a6eaea387c3ba914b9f8", func := "hallmoot/hallmootlaw23.WalRoundTrip", spec := "walRoundTrip", unfollowed := true, recurses := true, apart := false, narrowed := true }
def WalRoundTripUptoSaid : Prop := walRoundTripUptoRow.holds Try.pinned (OpenSpec.upto walRoundTripSpec)

/-- 'hallmootlaw23.WalCanonical', WHERE WHAT IT READS IS OF BULK AT MOST 1048576: true; the input reads as it did. -/
def walCanonicalUptoRow : OpenClaim := { program := "ytaclhiagfgmgkaa", sum := "e14808d6a957551e8fc02498cd222cbd62be83343cb0a6eaea387c3ba914b9f8", func := "hallmoot/hallmootlaw23.WalCanonical", spec := "walCanonical", unfollowed := true, recurses := true, apart := false, narrowed := true }
def WalCanonicalUptoSaid : Prop := walCanonicalUptoRow.holds Try.pinned (OpenSpec.upto walCanonicalSpec)

/-- 'hallmootlaw23.WalTorn', WHERE WHAT IT READS IS OF BULK AT MOST 1048576: true; the input reads as it did. -/
def walTornUptoRow : OpenClaim := { program := "ytaclhiagfgmgkaa", sum := "e14808d6a957551e8fc02498cd222cbd62be83343cb0a6eaea387c3ba914b9f8", func := "hallmoot/hallmootlaw23.WalTorn", spec := "walTorn", unfollowed := true, recurses := true, apart := false, narrowed := true }
def WalTornUptoSaid : Prop := walTornUptoRow.holds Try.pinned (OpenSpec.upto walTornSpec)

/-- 'hallmootlaw23.WalRecover', WHERE WHAT IT READS IS OF BULK AT MOST 1048576: true; the input reads as it did. -/
def walRecoverUptoRow : OpenClaim := { program := "ytaclhiagfgmgkaa", sum := "e14808d6a957551e8fc02498cd222cbd62be83343cb0a6eaea387c3ba914b9f8", func := "hallmoot/hallmootlaw23.WalRecover", spec := "walRecover", unfollowed := true, recurses := true, apart := false, narrowed := true }
def WalRecoverUptoSaid : Prop := walRecoverUptoRow.holds Try.pinned (OpenSpec.upto walRecoverSpec)

end Rows
end Go.Proofs.Ytaclhiagfgmgkaa
