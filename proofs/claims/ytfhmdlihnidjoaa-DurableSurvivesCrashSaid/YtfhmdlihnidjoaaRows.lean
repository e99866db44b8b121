/-
  No cell of these rows narrows 'for every input' (looked for: loops, veiled, ifaces, maps, wideKeys, modest, calm, conditions, laid).
  DERIVED. THE GIVEN ROWS OF THIS SEAT. 3 by the template 'for every input the law returns true; each argument reads behind the call as it read before'; 0 by the template 'total and deterministic' (their statements: YtfhmdlihnidjoaaTotals.lean).
  GIVEN WITH THE SEED: the statements are not yours to turn. If you find one false, say at which input.
  Laid BY PROGRAM, IN A SANDBOX (cutbox-rows.mjs): the forced cells as the released guide's own fill.sh prints them over the translation 62ffc8ea53e23135… (all of the seat's roots in one cut). By AI agents, Wed Nov 11 2026. No macro, syntax, notation, axiom, sorry.
-/
import Derived.Test.YtfhmdlihnidjoaaChecked
import GoSem.Claim
import GoSem.ClaimJoined
import GoSem.ClaimMapViews
import Derived.JoinedTies
import Derived.KernelRfl
namespace Go.Proofs.Ytfhmdlihnidjoaa
/- THE CELL 'sum', in the pinned program and in every row, IS THE sha256 OF THE DUMP (.gsa) THAT YtfhmdlihnidjoaaProg.lean LOADS. Nothing in Lean hashes anything: it is a label: what it is worth is what the hold of that sum in a sandbox is worth. -/
noncomputable def Try.pinned : Pinned := { name := "ytfhmdlihnidjoaa", sum := "62ffc8ea53e231359fc44e92455b0f9533c2f526ca86a73fa54868c81c33a85f", checked := Try.checked }
namespace Rows
def none {H : Type} : Left H := { results := [], args := [] }

/-- 'hallmootlaw25.DurableBootMatchesSpec': WHATEVER THE INPUT: true; the input reads as it did. -/
def durableBootMatchesSpecSpec : ChangeSpec := { name := "durableBootMatchesSpec", fn := fun _ => fun
  | [d] => { results := [.lit (.bool true)], args := [d] }
  | _ => none }
def durableBootMatchesSpecRow : OpenClaim := { program := "ytfhmdlihnidjoaa", sum := "62ffc8ea53e231359fc44e92455b0f9533c2f526ca86a73fa54868c81c33a85f", func := "hallmoot/hallmootlaw25.DurableBootMatchesSpec", spec := "durableBootMatchesSpec", unfollowed := true, recurses := true, apart := false }
def DurableBootMatchesSpecSaid : Prop := durableBootMatchesSpecRow.holds Try.pinned (OpenSpec.ofChange durableBootMatchesSpecSpec)

/-- ITS FALSE NEIGHBOUR: 'it returns false'. Refute it at one input. -/
def durableBootMatchesSpecWrong : ChangeSpec := { name := "durableBootMatchesSpec", fn := fun _ => fun
  | [d] => { results := [.lit (.bool false)], args := [d] }
  | _ => none }
def DurableBootMatchesSpecWrongFalsely : Prop := durableBootMatchesSpecRow.holds Try.pinned (OpenSpec.ofChange durableBootMatchesSpecWrong)

/-- 'hallmootlaw25.DurableSurvivesCrash': WHATEVER THE INPUT: true; the input reads as it did. -/
def durableSurvivesCrashSpec : ChangeSpec := { name := "durableSurvivesCrash", fn := fun _ => fun
  | [d1, d2, d3] => { results := [.lit (.bool true)], args := [d1, d2, d3] }
  | _ => none }
def durableSurvivesCrashRow : OpenClaim := { program := "ytfhmdlihnidjoaa", sum := "62ffc8ea53e231359fc44e92455b0f9533c2f526ca86a73fa54868c81c33a85f", func := "hallmoot/hallmootlaw25.DurableSurvivesCrash", spec := "durableSurvivesCrash", unfollowed := true, recurses := true, apart := false }
def DurableSurvivesCrashSaid : Prop := durableSurvivesCrashRow.holds Try.pinned (OpenSpec.ofChange durableSurvivesCrashSpec)

/-- ITS FALSE NEIGHBOUR: 'it returns false'. Refute it at one input. -/
def durableSurvivesCrashWrong : ChangeSpec := { name := "durableSurvivesCrash", fn := fun _ => fun
  | [d1, d2, d3] => { results := [.lit (.bool false)], args := [d1, d2, d3] }
  | _ => none }
def DurableSurvivesCrashWrongFalsely : Prop := durableSurvivesCrashRow.holds Try.pinned (OpenSpec.ofChange durableSurvivesCrashWrong)

/-- 'hallmootlaw25.DurableBootAppends': WHATEVER THE INPUT: true; the input reads as it did. -/
def durableBootAppendsSpec : ChangeSpec := { name := "durableBootAppends", fn := fun _ => fun
  | [d1, d2] => { results := [.lit (.bool true)], args := [d1, d2] }
  | _ => none }
def durableBootAppendsRow : OpenClaim := { program := "ytfhmdlihnidjoaa", sum := "62ffc8ea53e231359fc44e92455b0f9533c2f526ca86a73fa54868c81c33a85f", func := "hallmoot/hallmootlaw25.DurableBootAppends", spec := "durableBootAppends", unfollowed := true, recurses := true, apart := false }
def DurableBootAppendsSaid : Prop := durableBootAppendsRow.holds Try.pinned (OpenSpec.ofChange durableBootAppendsSpec)

/-- ITS FALSE NEIGHBOUR: 'it returns false'. Refute it at one input. -/
def durableBootAppendsWrong : ChangeSpec := { name := "durableBootAppends", fn := fun _ => fun
  | [d1, d2] => { results := [.lit (.bool false)], args := [d1, d2] }
  | _ => none }
def DurableBootAppendsWrongFalsely : Prop := durableBootAppendsRow.holds Try.pinned (OpenSpec.ofChange durableBootAppendsWrong)

/- THE SECOND FORM. 'bulk': how many values and letters a reading holds, each counted each time it is reached (what is shared counts as often as it is met; a slice's spare places count too). A statement '..UptoSaid' is the law's where the arguments, and the package variables that the reading takes, are together of bulk at most 1048576: NARROWER than '..Said'. Prove '..Said' where nothing that the law and all that it calls make is longer than what came in: it says more and counts as full. Else prove '..UptoSaid'. A law counts once. -/
mutual
def uptoBulk {H : Type} : DataW H → Nat
  | .lit (.string bytes) => bytes.length + 1
  | .lit _ => 1
  | .nil => 1
  | .ptr d => uptoBulk d + 1
  | .slice elems spare => uptoBulkAll elems + uptoBulkAll spare + 1
  | .agg parts => uptoBulkAll parts + 1
  | .iface _ d => uptoBulk d + 1
  | .map entries => uptoBulkEntries entries + 1
  | .held _ => 1
def uptoBulkAll {H : Type} : List (DataW H) → Nat
  | [] => 0
  | d :: r => uptoBulk d + uptoBulkAll r
def uptoBulkEntries {H : Type} : List (Lit × DataW H) → Nat
  | [] => 0
  | x :: r => uptoBulkEntry x + uptoBulkEntries r
def uptoBulkEntry {H : Type} : Lit × DataW H → Nat
  | (.string bytes, d) => bytes.length + uptoBulk d + 1
  | (_, d) => uptoBulk d + 1
 end
def uptoSmall : (H : Type) → List (DataW H) → Bool := fun _ ds => decide (uptoBulkAll ds ≤ 1048576)
def OpenSpec.upto (s : _root_.Go.ChangeSpec) : _root_.Go.OpenSpec := { _root_.Go.OpenSpec.ofChange s with cond := some uptoSmall }

/-- 'hallmootlaw25.DurableBootMatchesSpec', WHERE WHAT IT READS IS OF BULK AT MOST 1048576: true; the input reads as it did. -/
def durableBootMatchesSpecUptoRow : OpenClaim := { program := "ytfhmdlihnidjoaa", sum := "62ffc8ea53e231359fc44e92455b0f9533c2f526ca86a73fa54868c81c33a85f", func := "hallmoot/hallmootlaw25.DurableBootMatchesSpec", spec := "durableBootMatchesSpec", unfollowed := true, recurses := true, apart := false, narrowed := true }
def DurableBootMatchesSpecUptoSaid : Prop := durableBootMatchesSpecUptoRow.holds Try.pinned (OpenSpec.upto durableBootMatchesSpecSpec)

/-- 'hallmootlaw25.DurableSurvivesCrash', WHERE WHAT IT READS IS OF BULK AT MOST 1048576: true; the input reads as it did. -/
def durableSurvivesCrashUptoRow : OpenClaim := { program := "ytfhmdlihnidjoaa", sum := "62ffc8ea53e231359fc44e92455b0f9533c2f526ca86a73fa54868c81c33a85f", func := "hallmoot/hallmootlaw25.DurableSurvivesCrash", spec := "durableSurvivesCrash", unfollowed := true, recurses := true, apart := false, narrowed := true }
def DurableSurvivesCrashUptoSaid : Prop := durableSurvivesCrashUptoRow.holds Try.pinned (OpenSpec.upto durableSurvivesCrashSpec)

/-- 'hallmootlaw25.DurableBootAppends', WHERE WHAT IT READS IS OF BULK AT MOST 1048576: true; the input reads as it did. -/
def durableBootAppendsUptoRow : OpenClaim := { program := "ytfhmdlihnidjoaa", sum := "62ffc8ea53e231359fc44e92455b0f9533c2f526ca86a73fa54868c81c33a85f", func := "hallmoot/hallmootlaw25.DurableBootAppends", spec := "durableBootAppends", unfollowed := true, recurses := true, apart := false, narrowed := true }
def DurableBootAppendsUptoSaid : Prop := durableBootAppendsUptoRow.holds Try.pinned (OpenSpec.upto durableBootAppendsSpec)

end Rows
end Go.Proofs.Ytfhmdlihnidjoaa
