/-
  No cell of these rows narrows 'for every input' (looked for: loops, veiled, ifaces, maps, wideKeys, modest, calm, conditions, laid).
  DERIVED. THE GIVEN ROWS OF THIS SEAT. 8 by the template 'for every input the law returns true; each argument reads behind the call as it read before'; 0 by the template 'total and deterministic' (their statements: YtdfngmplfgifiaaTotals.lean).
  GIVEN WITH THE SEED: the statements are not yours to turn. If you find one false, say at which input.
  Laid BY PROGRAM, IN A SANDBOX (cutbox-rows.mjs): the forced cells as the released guide's own fill.sh prints them over the translation dbe4d18dc2205771… (all of the seat's roots in one cut). By AI agents, Wed Nov 11 2026. No macro, syntax, notation, axiom, sorry.
-/
import Derived.Test.YtdfngmplfgifiaaChecked
import GoSem.Claim
import GoSem.ClaimJoined
import GoSem.ClaimMapViews
import Derived.JoinedTies
import Derived.KernelRfl
namespace Go.Proofs.Ytdfngmplfgifiaa
/- THE CELL 'sum', in the pinned program and in every row, IS THE sha256 OF THE DUMP (.gsa) THAT YtdfngmplfgifiaaProg.lean LOADS. Nothing in Lean hashes anything: it is a label: what it is worth is what the hold of that sum in a sandbox is worth. -/
noncomputable def Try.pinned : Pinned := { name := "ytdfngmplfgifiaa", sum := "dbe4d18dc2205771e294ebde09b1c7c6413ece7467e5a9104c51367aab88fe07", checked := Try.checked }
namespace Rows
def none {H : Type} : Left H := { results := [], args := [] }

/-- 'hallmootlaw18.VisibleMatchesSpec': WHATEVER THE INPUT: true; the input reads as it did. -/
def visibleMatchesSpecSpec : ChangeSpec := { name := "visibleMatchesSpec", fn := fun _ => fun
  | [d] => { results := [.lit (.bool true)], args := [d] }
  | _ => none }
def visibleMatchesSpecRow : OpenClaim := { program := "ytdfngmplfgifiaa", sum := "dbe4d18dc2205771e294ebde09b1c7c6413ece7467e5a9104c51367aab88fe07", func := "hallmoot/hallmootlaw18.VisibleMatchesSpec", spec := "visibleMatchesSpec", unfollowed := true, recurses := true, apart := false }
def VisibleMatchesSpecSaid : Prop := visibleMatchesSpecRow.holds Try.pinned (OpenSpec.ofChange visibleMatchesSpecSpec)

/-- ITS FALSE NEIGHBOUR: 'it returns false'. Refute it at one input. -/
def visibleMatchesSpecWrong : ChangeSpec := { name := "visibleMatchesSpec", fn := fun _ => fun
  | [d] => { results := [.lit (.bool false)], args := [d] }
  | _ => none }
def VisibleMatchesSpecWrongFalsely : Prop := visibleMatchesSpecRow.holds Try.pinned (OpenSpec.ofChange visibleMatchesSpecWrong)

/-- 'hallmootlaw18.VisibleKeepsBits': WHATEVER THE INPUT: true; the input reads as it did. -/
def visibleKeepsBitsSpec : ChangeSpec := { name := "visibleKeepsBits", fn := fun _ => fun
  | [d1, d2] => { results := [.lit (.bool true)], args := [d1, d2] }
  | _ => none }
def visibleKeepsBitsRow : OpenClaim := { program := "ytdfngmplfgifiaa", sum := "dbe4d18dc2205771e294ebde09b1c7c6413ece7467e5a9104c51367aab88fe07", func := "hallmoot/hallmootlaw18.VisibleKeepsBits", spec := "visibleKeepsBits", unfollowed := true, recurses := true, apart := false }
def VisibleKeepsBitsSaid : Prop := visibleKeepsBitsRow.holds Try.pinned (OpenSpec.ofChange visibleKeepsBitsSpec)

/-- ITS FALSE NEIGHBOUR: 'it returns false'. Refute it at one input. -/
def visibleKeepsBitsWrong : ChangeSpec := { name := "visibleKeepsBits", fn := fun _ => fun
  | [d1, d2] => { results := [.lit (.bool false)], args := [d1, d2] }
  | _ => none }
def VisibleKeepsBitsWrongFalsely : Prop := visibleKeepsBitsRow.holds Try.pinned (OpenSpec.ofChange visibleKeepsBitsWrong)

/-- 'hallmootlaw18.VisibleAlone': WHATEVER THE INPUT: true; the input reads as it did. -/
def visibleAloneSpec : ChangeSpec := { name := "visibleAlone", fn := fun _ => fun
  | [d1, d2, d3] => { results := [.lit (.bool true)], args := [d1, d2, d3] }
  | _ => none }
def visibleAloneRow : OpenClaim := { program := "ytdfngmplfgifiaa", sum := "dbe4d18dc2205771e294ebde09b1c7c6413ece7467e5a9104c51367aab88fe07", func := "hallmoot/hallmootlaw18.VisibleAlone", spec := "visibleAlone", unfollowed := true, recurses := true, apart := false }
def VisibleAloneSaid : Prop := visibleAloneRow.holds Try.pinned (OpenSpec.ofChange visibleAloneSpec)

/-- ITS FALSE NEIGHBOUR: 'it returns false'. Refute it at one input. -/
def visibleAloneWrong : ChangeSpec := { name := "visibleAlone", fn := fun _ => fun
  | [d1, d2, d3] => { results := [.lit (.bool false)], args := [d1, d2, d3] }
  | _ => none }
def VisibleAloneWrongFalsely : Prop := visibleAloneRow.holds Try.pinned (OpenSpec.ofChange visibleAloneWrong)

/-- 'hallmootlaw18.VisibleUndoes': WHATEVER THE INPUT: true; the input reads as it did. -/
def visibleUndoesSpec : ChangeSpec := { name := "visibleUndoes", fn := fun _ => fun
  | [d] => { results := [.lit (.bool true)], args := [d] }
  | _ => none }
def visibleUndoesRow : OpenClaim := { program := "ytdfngmplfgifiaa", sum := "dbe4d18dc2205771e294ebde09b1c7c6413ece7467e5a9104c51367aab88fe07", func := "hallmoot/hallmootlaw18.VisibleUndoes", spec := "visibleUndoes", unfollowed := true, recurses := true, apart := false }
def VisibleUndoesSaid : Prop := visibleUndoesRow.holds Try.pinned (OpenSpec.ofChange visibleUndoesSpec)

/-- ITS FALSE NEIGHBOUR: 'it returns false'. Refute it at one input. -/
def visibleUndoesWrong : ChangeSpec := { name := "visibleUndoes", fn := fun _ => fun
  | [d] => { results := [.lit (.bool false)], args := [d] }
  | _ => none }
def VisibleUndoesWrongFalsely : Prop := visibleUndoesRow.holds Try.pinned (OpenSpec.ofChange visibleUndoesWrong)

/-- 'hallmootlaw20.AbstractNext': WHATEVER THE INPUT: true; the input reads as it did. -/
def abstractNextSpec : ChangeSpec := { name := "abstractNext", fn := fun _ => fun
  | [d1, d2, d3, d4] => { results := [.lit (.bool true)], args := [d1, d2, d3, d4] }
  | _ => none }
def abstractNextRow : OpenClaim := { program := "ytdfngmplfgifiaa", sum := "dbe4d18dc2205771e294ebde09b1c7c6413ece7467e5a9104c51367aab88fe07", func := "hallmoot/hallmootlaw20.AbstractNext", spec := "abstractNext", unfollowed := true, recurses := true, apart := false }
def AbstractNextSaid : Prop := abstractNextRow.holds Try.pinned (OpenSpec.ofChange abstractNextSpec)

/-- ITS FALSE NEIGHBOUR: 'it returns false'. Refute it at one input. -/
def abstractNextWrong : ChangeSpec := { name := "abstractNext", fn := fun _ => fun
  | [d1, d2, d3, d4] => { results := [.lit (.bool false)], args := [d1, d2, d3, d4] }
  | _ => none }
def AbstractNextWrongFalsely : Prop := abstractNextRow.holds Try.pinned (OpenSpec.ofChange abstractNextWrong)

/-- 'hallmootlaw20.AbstractExclusive': WHATEVER THE INPUT: true; the input reads as it did. -/
def abstractExclusiveSpec : ChangeSpec := { name := "abstractExclusive", fn := fun _ => fun
  | [d] => { results := [.lit (.bool true)], args := [d] }
  | _ => none }
def abstractExclusiveRow : OpenClaim := { program := "ytdfngmplfgifiaa", sum := "dbe4d18dc2205771e294ebde09b1c7c6413ece7467e5a9104c51367aab88fe07", func := "hallmoot/hallmootlaw20.AbstractExclusive", spec := "abstractExclusive", unfollowed := true, recurses := true, apart := false }
def AbstractExclusiveSaid : Prop := abstractExclusiveRow.holds Try.pinned (OpenSpec.ofChange abstractExclusiveSpec)

/-- ITS FALSE NEIGHBOUR: 'it returns false'. Refute it at one input. -/
def abstractExclusiveWrong : ChangeSpec := { name := "abstractExclusive", fn := fun _ => fun
  | [d] => { results := [.lit (.bool false)], args := [d] }
  | _ => none }
def AbstractExclusiveWrongFalsely : Prop := abstractExclusiveRow.holds Try.pinned (OpenSpec.ofChange abstractExclusiveWrong)

/-- 'hallmootlaw20.AbstractDeadlock': WHATEVER THE INPUT: true; the input reads as it did. -/
def abstractDeadlockSpec : ChangeSpec := { name := "abstractDeadlock", fn := fun _ => fun
  | [d1, d2, d3, d4] => { results := [.lit (.bool true)], args := [d1, d2, d3, d4] }
  | _ => none }
def abstractDeadlockRow : OpenClaim := { program := "ytdfngmplfgifiaa", sum := "dbe4d18dc2205771e294ebde09b1c7c6413ece7467e5a9104c51367aab88fe07", func := "hallmoot/hallmootlaw20.AbstractDeadlock", spec := "abstractDeadlock", unfollowed := true, recurses := true, apart := false }
def AbstractDeadlockSaid : Prop := abstractDeadlockRow.holds Try.pinned (OpenSpec.ofChange abstractDeadlockSpec)

/-- ITS FALSE NEIGHBOUR: 'it returns false'. Refute it at one input. -/
def abstractDeadlockWrong : ChangeSpec := { name := "abstractDeadlock", fn := fun _ => fun
  | [d1, d2, d3, d4] => { results := [.lit (.bool false)], args := [d1, d2, d3, d4] }
  | _ => none }
def AbstractDeadlockWrongFalsely : Prop := abstractDeadlockRow.holds Try.pinned (OpenSpec.ofChange abstractDeadlockWrong)

/-- 'hallmootlaw20.AbstractOutcome': WHATEVER THE INPUT: true; the input reads as it did. -/
def abstractOutcomeSpec : ChangeSpec := { name := "abstractOutcome", fn := fun _ => fun
  | [d1, d2, d3, d4, d5, d6] => { results := [.lit (.bool true)], args := [d1, d2, d3, d4, d5, d6] }
  | _ => none }
def abstractOutcomeRow : OpenClaim := { program := "ytdfngmplfgifiaa", sum := "dbe4d18dc2205771e294ebde09b1c7c6413ece7467e5a9104c51367aab88fe07", func := "hallmoot/hallmootlaw20.AbstractOutcome", spec := "abstractOutcome", unfollowed := true, recurses := true, apart := false }
def AbstractOutcomeSaid : Prop := abstractOutcomeRow.holds Try.pinned (OpenSpec.ofChange abstractOutcomeSpec)

/-- ITS FALSE NEIGHBOUR: 'it returns false'. Refute it at one input. -/
def abstractOutcomeWrong : ChangeSpec := { name := "abstractOutcome", fn := fun _ => fun
  | [d1, d2, d3, d4, d5, d6] => { results := [.lit (.bool false)], args := [d1, d2, d3, d4, d5, d6] }
  | _ => none }
def AbstractOutcomeWrongFalsely : Prop := abstractOutcomeRow.holds Try.pinned (OpenSpec.ofChange abstractOutcomeWrong)

/- THE SECOND FORM. 'bulk': how many values and letters a reading holds, each counted each time it is reached (what is shared counts as often as it is met; a slice's spare places count too). A statement '..UptoSaid' is the law's where the arguments, and the package variables that the reading takes, are together of bulk at most 1048576: NARROWER than '..Said'. Prove '..Said' where nothing that the law and all that it calls make is longer than what came in: it says more and counts as full. Else prove '..UptoSaid'. A law counts once. -/
mutual
def uptoBulk {H : Type} : DataW H → Nat
  | .lit (.string bytes) => bytes.length + 1
  | .lit _ => 1
  | .nil => 1
  | .ptr d => uptoBulk d + 1
  | .slice elems spare => uptoBulkAll elems + uptoBulkAll spare + 1
  | .agg parts => uptoBulkAll parts + 1
  | .iface _ d => uptoBulk d + 1
  | .map entries => uptoBulkEntries entries + 1
  | .held _ => 1
def uptoBulkAll {H : Type} : List (DataW H) → Nat
  | [] => 0
  | d :: r => uptoBulk d + uptoBulkAll r
def uptoBulkEntries {H : Type} : List (Lit × DataW H) → Nat
  | [] => 0
  | x :: r => uptoBulkEntry x + uptoBulkEntries r
def uptoBulkEntry {H : Type} : Lit × DataW H → Nat
  | (.string bytes, d) => bytes.length + uptoBulk d + 1
  | (_, d) => uptoBulk d + 1
 end
def uptoSmall : (H : Type) → List (DataW H) → Bool := fun _ ds => decide (uptoBulkAll ds ≤ 1048576)
def OpenSpec.upto (s : _root_.Go.ChangeSpec) : _root_.Go.OpenSpec := { _root_.Go.OpenSpec.ofChange s with cond := some uptoSmall }

/-- 'hallmootlaw18.VisibleMatchesSpec', WHERE WHAT IT READS IS OF BULK AT MOST 1048576: true; the input reads as it did. -/
def visibleMatchesSpecUptoRow : OpenClaim := { program := "ytdfngmplfgifiaa", sum := "dbe4d18dc2205771e294ebde09b1c7c6413ece7467e5a9104c51367aab88fe07", func := "hallmoot/hallmootlaw18.VisibleMatchesSpec", spec := "visibleMatchesSpec", unfollowed := true, recurses := true, apart := false, narrowed := true }
def VisibleMatchesSpecUptoSaid : Prop := visibleMatchesSpecUptoRow.holds Try.pinned (OpenSpec.upto visibleMatchesSpecSpec)

/-- 'hallmootlaw18.VisibleKeepsBits', WHERE WHAT IT READS IS OF BULK AT MOST 1048576: true; the input reads as it did. -/
def visibleKeepsBitsUptoRow : OpenClaim := { program := "ytdfngmplfgifiaa", sum := "dbe4d18dc2205771e294ebde09b1c7c6413ece7467e5a9104c51367aab88fe07", func := "hallmoot/hallmootlaw18.VisibleKeepsBits", spec := "visibleKeepsBits", unfollowed := true, recurses := true, apart := false, narrowed := true }
def VisibleKeepsBitsUptoSaid : Prop := visibleKeepsBitsUptoRow.holds Try.pinned (OpenSpec.upto visibleKeepsBitsSpec)

/-- 'hallmootlaw18.VisibleAlone', WHERE WHAT IT READS IS OF BULK AT MOST 1048576: true; the input reads as it did. -/
def visibleAloneUptoRow : OpenClaim := { program := "ytdfngmplfgifiaa", sum := "dbe4d18dc2205771e294ebde09b1c7c6413ece7467e5a9104c51367aab88fe07", func := "hallmoot/hallmootlaw18.VisibleAlone", spec := "visibleAlone", unfollowed := true, recurses := true, apart := false, narrowed := true }
def VisibleAloneUptoSaid : Prop := visibleAloneUptoRow.holds Try.pinned (OpenSpec.upto visibleAloneSpec)

/-- 'hallmootlaw18.VisibleUndoes', WHERE WHAT IT READS IS OF BULK AT MOST 1048576: true; the input reads as it did. -/
def visibleUndoesUptoRow : OpenClaim := { program := "ytdfngmplfgifiaa", sum := "dbe4d18dc2205771e294ebde09b1c7c6413ece7467e5a9104c51367aab88fe07", func := "hallmoot/hallmootlaw18.VisibleUndoes", spec := "visibleUndoes", unfollowed := true, recurses := true, apart := false, narrowed := true }
def VisibleUndoesUptoSaid : Prop := visibleUndoesUptoRow.holds Try.pinned (OpenSpec.upto visibleUndoesSpec)

/-- 'hallmootlaw20.AbstractNext', WHERE WHAT IT READS IS OF BULK AT MOST 1048576: true; the input reads as it did. -/
def abstractNextUptoRow : OpenClaim := { program := "ytdfngmplfgifiaa", sum := "dbe4d18dc2205771e294ebde09b1c7c6413ece7467e5a9104c51367aab88fe07", func := "hallmoot/hallmootlaw20.AbstractNext", spec := "abstractNext", unfollowed := true, recurses := true, apart := false, narrowed := true }
def AbstractNextUptoSaid : Prop := abstractNextUptoRow.holds Try.pinned (OpenSpec.upto abstractNextSpec)

/-- 'hallmootlaw20.AbstractExclusive', WHERE WHAT IT READS IS OF BULK AT MOST 1048576: true; the input reads as it did. -/
def abstractExclusiveUptoRow : OpenClaim := { program := "ytdfngmplfgifiaa", sum := "dbe4d18dc2205771e294ebde09b1c7c6413ece7467e5a9104c51367aab88fe07", func := "hallmoot/hallmootlaw20.AbstractExclusive", spec := "abstractExclusive", unfollowed := true, recurses := true, apart := false, narrowed := true }
def AbstractExclusiveUptoSaid : Prop := abstractExclusiveUptoRow.holds Try.pinned (OpenSpec.upto abstractExclusiveSpec)

/-- 'hallmootlaw20.AbstractDeadlock', WHERE WHAT IT READS IS OF BULK AT MOST 1048576: true; the input reads as it did. -/
def abstractDeadlockUptoRow : OpenClaim := { program := "ytdfngmplfgifiaa", sum := "dbe4d18dc2205771e294ebde09b1c7c6413ece7467e5a9104c51367aab88fe07", func := "hallmoot/hallmootlaw20.AbstractDeadlock", spec := "abstractDeadlock", unfollowed := true, recurses := true, apart := false, narrowed := true }
def AbstractDeadlockUptoSaid : Prop := abstractDeadlockUptoRow.holds Try.pinned (OpenSpec.upto abstractDeadlockSpec)

/-- 'hallmootlaw20.AbstractOutcome', WHERE WHAT IT READS IS OF BULK AT MOST 1048576: true; the input reads as it did. -/
def abstractOutcomeUptoRow : OpenClaim := { program := "ytdfngmplfgifiaa", sum := "dbe4d18dc2205771e294ebde09b1c7c6413ece7467e5a9104c51367aab88fe07", func := "hallmoot/hallmootlaw20.AbstractOutcome", spec := "abstractOutcome", unfollowed := true, recurses := true, apart := false, narrowed := true }
def AbstractOutcomeUptoSaid : Prop := abstractOutcomeUptoRow.holds Try.pinned (OpenSpec.upto abstractOutcomeSpec)

end Rows
end Go.Proofs.Ytdfngmplfgifiaa
