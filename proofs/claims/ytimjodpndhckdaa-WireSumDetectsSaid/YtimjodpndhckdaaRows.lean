/-
  NARROWER THAN 'FOR EVERY INPUT', by the rows' own cells (each row's printed sentence says how): LayoutForFits: loops.
  DERIVED. THE GIVEN ROWS OF THIS SEAT. 9 by the template 'for every input the law returns true; each argument reads behind the call as it read before'; 0 by the template 'total and deterministic' (their statements: YtimjodpndhckdaaTotals.lean).
  GIVEN WITH THE SEED: the statements are not yours to turn. If you find one false, say at which input.
  Laid BY PROGRAM, IN A SANDBOX (cutbox-rows.mjs): the forced cells as the released guide's own fill.sh prints them over the translation 4ac9fa3475d78aa3… (all of the seat's roots in one cut). By AI agents, Wed Nov 11 2026. No macro, syntax, notation, axiom, sorry.
-/
import Derived.Test.YtimjodpndhckdaaChecked
import GoSem.Claim
import GoSem.ClaimJoined
import GoSem.ClaimMapViews
import Derived.JoinedTies
import Derived.KernelRfl
namespace Go.Proofs.Ytimjodpndhckdaa
/- THE CELL 'sum', in the pinned program and in every row, IS THE sha256 OF THE DUMP (.gsa) THAT YtimjodpndhckdaaProg.lean LOADS. Nothing in Lean hashes anything: it is a label: what it is worth is what the hold of that sum in a sandbox is worth. -/
noncomputable def Try.pinned : Pinned := { name := "ytimjodpndhckdaa", sum := "4ac9fa3475d78aa3872d7985517b532439d3d003e7bf6ed81fc40c49c81b5bd2", checked := Try.checked }
namespace Rows
def none {H : Type} : Left H := { results := [], args := [] }

/-- 'hallmootlaw02.MemAllMatchesSpec': WHATEVER THE INPUT: true; the input reads as it did. -/
def memAllMatchesSpecSpec : ChangeSpec := { name := "memAllMatchesSpec", fn := fun _ => fun
  | [d1, d2] => { results := [.lit (.bool true)], args := [d1, d2] }
  | _ => none }
def memAllMatchesSpecRow : OpenClaim := { program := "ytimjodpndhckdaa", sum := "4ac9fa3475d78aa3872d7985517b532439d3d003e7bf6ed81fc40c49c81b5bd2", func := "hallmoot/hallmootlaw02.MemAllMatchesSpec", spec := "memAllMatchesSpec", apart := false }
def MemAllMatchesSpecSaid : Prop := memAllMatchesSpecRow.holds Try.pinned (OpenSpec.ofChange memAllMatchesSpecSpec)

/-- ITS FALSE NEIGHBOUR: 'it returns false'. Refute it at one input. -/
def memAllMatchesSpecWrong : ChangeSpec := { name := "memAllMatchesSpec", fn := fun _ => fun
  | [d1, d2] => { results := [.lit (.bool false)], args := [d1, d2] }
  | _ => none }
def MemAllMatchesSpecWrongFalsely : Prop := memAllMatchesSpecRow.holds Try.pinned (OpenSpec.ofChange memAllMatchesSpecWrong)

/-- 'hallmootlaw02.MemAllSplits': WHATEVER THE INPUT: true; the input reads as it did. -/
def memAllSplitsSpec : ChangeSpec := { name := "memAllSplits", fn := fun _ => fun
  | [d1, d2, d3] => { results := [.lit (.bool true)], args := [d1, d2, d3] }
  | _ => none }
def memAllSplitsRow : OpenClaim := { program := "ytimjodpndhckdaa", sum := "4ac9fa3475d78aa3872d7985517b532439d3d003e7bf6ed81fc40c49c81b5bd2", func := "hallmoot/hallmootlaw02.MemAllSplits", spec := "memAllSplits", apart := false }
def MemAllSplitsSaid : Prop := memAllSplitsRow.holds Try.pinned (OpenSpec.ofChange memAllSplitsSpec)

/-- ITS FALSE NEIGHBOUR: 'it returns false'. Refute it at one input. -/
def memAllSplitsWrong : ChangeSpec := { name := "memAllSplits", fn := fun _ => fun
  | [d1, d2, d3] => { results := [.lit (.bool false)], args := [d1, d2, d3] }
  | _ => none }
def MemAllSplitsWrongFalsely : Prop := memAllSplitsRow.holds Try.pinned (OpenSpec.ofChange memAllSplitsWrong)

/-- 'hallmootlaw02.MemCasOnce': WHATEVER THE INPUT: true; the input reads as it did. -/
def memCasOnceSpec : ChangeSpec := { name := "memCasOnce", fn := fun _ => fun
  | [d1, d2] => { results := [.lit (.bool true)], args := [d1, d2] }
  | _ => none }
def memCasOnceRow : OpenClaim := { program := "ytimjodpndhckdaa", sum := "4ac9fa3475d78aa3872d7985517b532439d3d003e7bf6ed81fc40c49c81b5bd2", func := "hallmoot/hallmootlaw02.MemCasOnce", spec := "memCasOnce", apart := false }
def MemCasOnceSaid : Prop := memCasOnceRow.holds Try.pinned (OpenSpec.ofChange memCasOnceSpec)

/-- ITS FALSE NEIGHBOUR: 'it returns false'. Refute it at one input. -/
def memCasOnceWrong : ChangeSpec := { name := "memCasOnce", fn := fun _ => fun
  | [d1, d2] => { results := [.lit (.bool false)], args := [d1, d2] }
  | _ => none }
def MemCasOnceWrongFalsely : Prop := memCasOnceRow.holds Try.pinned (OpenSpec.ofChange memCasOnceWrong)

/-- 'hallmootlaw03.WireSumDetects': WHATEVER THE INPUT: true; the input reads as it did. -/
def wireSumDetectsSpec : ChangeSpec := { name := "wireSumDetects", fn := fun _ => fun
  | [d1, d2, d3, d4] => { results := [.lit (.bool true)], args := [d1, d2, d3, d4] }
  | _ => none }
def wireSumDetectsRow : OpenClaim := { program := "ytimjodpndhckdaa", sum := "4ac9fa3475d78aa3872d7985517b532439d3d003e7bf6ed81fc40c49c81b5bd2", func := "hallmoot/hallmootlaw03.WireSumDetects", spec := "wireSumDetects", unfollowed := true, recurses := true, apart := false }
def WireSumDetectsSaid : Prop := wireSumDetectsRow.holds Try.pinned (OpenSpec.ofChange wireSumDetectsSpec)

/-- ITS FALSE NEIGHBOUR: 'it returns false'. Refute it at one input. -/
def wireSumDetectsWrong : ChangeSpec := { name := "wireSumDetects", fn := fun _ => fun
  | [d1, d2, d3, d4] => { results := [.lit (.bool false)], args := [d1, d2, d3, d4] }
  | _ => none }
def WireSumDetectsWrongFalsely : Prop := wireSumDetectsRow.holds Try.pinned (OpenSpec.ofChange wireSumDetectsWrong)

/-- 'hallmootlaw15.LayoutMatchesSpec': WHATEVER THE INPUT: true; the input reads as it did. -/
def layoutMatchesSpecSpec : ChangeSpec := { name := "layoutMatchesSpec", fn := fun _ => fun
  | [d1, d2, d3] => { results := [.lit (.bool true)], args := [d1, d2, d3] }
  | _ => none }
def layoutMatchesSpecRow : OpenClaim := { program := "ytimjodpndhckdaa", sum := "4ac9fa3475d78aa3872d7985517b532439d3d003e7bf6ed81fc40c49c81b5bd2", func := "hallmoot/hallmootlaw15.LayoutMatchesSpec", spec := "layoutMatchesSpec", unfollowed := true, recurses := true, apart := false }
def LayoutMatchesSpecSaid : Prop := layoutMatchesSpecRow.holds Try.pinned (OpenSpec.ofChange layoutMatchesSpecSpec)

/-- ITS FALSE NEIGHBOUR: 'it returns false'. Refute it at one input. -/
def layoutMatchesSpecWrong : ChangeSpec := { name := "layoutMatchesSpec", fn := fun _ => fun
  | [d1, d2, d3] => { results := [.lit (.bool false)], args := [d1, d2, d3] }
  | _ => none }
def LayoutMatchesSpecWrongFalsely : Prop := layoutMatchesSpecRow.holds Try.pinned (OpenSpec.ofChange layoutMatchesSpecWrong)

/-- 'hallmootlaw15.LayoutRejectsChange': WHATEVER THE INPUT: true; the input reads as it did. -/
def layoutRejectsChangeSpec : ChangeSpec := { name := "layoutRejectsChange", fn := fun _ => fun
  | [d1, d2, d3] => { results := [.lit (.bool true)], args := [d1, d2, d3] }
  | _ => none }
def layoutRejectsChangeRow : OpenClaim := { program := "ytimjodpndhckdaa", sum := "4ac9fa3475d78aa3872d7985517b532439d3d003e7bf6ed81fc40c49c81b5bd2", func := "hallmoot/hallmootlaw15.LayoutRejectsChange", spec := "layoutRejectsChange", unfollowed := true, recurses := true, apart := false }
def LayoutRejectsChangeSaid : Prop := layoutRejectsChangeRow.holds Try.pinned (OpenSpec.ofChange layoutRejectsChangeSpec)

/-- ITS FALSE NEIGHBOUR: 'it returns false'. Refute it at one input. -/
def layoutRejectsChangeWrong : ChangeSpec := { name := "layoutRejectsChange", fn := fun _ => fun
  | [d1, d2, d3] => { results := [.lit (.bool false)], args := [d1, d2, d3] }
  | _ => none }
def LayoutRejectsChangeWrongFalsely : Prop := layoutRejectsChangeRow.holds Try.pinned (OpenSpec.ofChange layoutRejectsChangeWrong)

/-- 'hallmootlaw15.LayoutPartitions': WHATEVER THE INPUT: true; the input reads as it did. -/
def layoutPartitionsSpec : ChangeSpec := { name := "layoutPartitions", fn := fun _ => fun
  | [d] => { results := [.lit (.bool true)], args := [d] }
  | _ => none }
def layoutPartitionsRow : OpenClaim := { program := "ytimjodpndhckdaa", sum := "4ac9fa3475d78aa3872d7985517b532439d3d003e7bf6ed81fc40c49c81b5bd2", func := "hallmoot/hallmootlaw15.LayoutPartitions", spec := "layoutPartitions", unfollowed := true, recurses := true, apart := false }
def LayoutPartitionsSaid : Prop := layoutPartitionsRow.holds Try.pinned (OpenSpec.ofChange layoutPartitionsSpec)

/-- ITS FALSE NEIGHBOUR: 'it returns false'. Refute it at one input. -/
def layoutPartitionsWrong : ChangeSpec := { name := "layoutPartitions", fn := fun _ => fun
  | [d] => { results := [.lit (.bool false)], args := [d] }
  | _ => none }
def LayoutPartitionsWrongFalsely : Prop := layoutPartitionsRow.holds Try.pinned (OpenSpec.ofChange layoutPartitionsWrong)

/-- 'hallmootlaw15.LayoutForFits': WHATEVER THE INPUT: true; the input reads as it did. -/
def layoutForFitsSpec : ChangeSpec := { name := "layoutForFits", fn := fun _ => fun
  | [d1, d2, d3] => { results := [.lit (.bool true)], args := [d1, d2, d3] }
  | _ => none }
def layoutForFitsRow : OpenClaim := { program := "ytimjodpndhckdaa", sum := "4ac9fa3475d78aa3872d7985517b532439d3d003e7bf6ed81fc40c49c81b5bd2", func := "hallmoot/hallmootlaw15.LayoutForFits", spec := "layoutForFits", unfollowed := true, recurses := true, loops := true, apart := false }
def LayoutForFitsSaid : Prop := layoutForFitsRow.holds Try.pinned (OpenSpec.ofChange layoutForFitsSpec)

/-- ITS FALSE NEIGHBOUR: 'it returns false'. Refute it at one input. -/
def layoutForFitsWrong : ChangeSpec := { name := "layoutForFits", fn := fun _ => fun
  | [d1, d2, d3] => { results := [.lit (.bool false)], args := [d1, d2, d3] }
  | _ => none }
def LayoutForFitsWrongFalsely : Prop := layoutForFitsRow.holds Try.pinned (OpenSpec.ofChange layoutForFitsWrong)

/-- 'hallmootlaw15.LayoutInitStores': WHATEVER THE INPUT: true; the input reads as it did. -/
def layoutInitStoresSpec : ChangeSpec := { name := "layoutInitStores", fn := fun _ => fun
  | [d1, d2] => { results := [.lit (.bool true)], args := [d1, d2] }
  | _ => none }
def layoutInitStoresRow : OpenClaim := { program := "ytimjodpndhckdaa", sum := "4ac9fa3475d78aa3872d7985517b532439d3d003e7bf6ed81fc40c49c81b5bd2", func := "hallmoot/hallmootlaw15.LayoutInitStores", spec := "layoutInitStores", unfollowed := true, recurses := true, apart := false }
def LayoutInitStoresSaid : Prop := layoutInitStoresRow.holds Try.pinned (OpenSpec.ofChange layoutInitStoresSpec)

/-- ITS FALSE NEIGHBOUR: 'it returns false'. Refute it at one input. -/
def layoutInitStoresWrong : ChangeSpec := { name := "layoutInitStores", fn := fun _ => fun
  | [d1, d2] => { results := [.lit (.bool false)], args := [d1, d2] }
  | _ => none }
def LayoutInitStoresWrongFalsely : Prop := layoutInitStoresRow.holds Try.pinned (OpenSpec.ofChange layoutInitStoresWrong)

/- THE SECOND FORM. 'bulk': how many values and letters a reading holds, each counted each time it is reached (what is shared counts as often as it is met; a slice's spare places count too). A statement '..UptoSaid' is the law's where the arguments, and the package variables that the reading takes, are together of bulk at most 1048576: NARROWER than '..Said'. Prove '..Said' where nothing that the law and all that it calls make is longer than what came in: it says more and counts as full. Else prove '..UptoSaid'. A law counts once. -/
mutual
def uptoBulk {H : Type} : DataW H → Nat
  | .lit (.string bytes) => bytes.length + 1
  | .lit _ => 1
  | .nil => 1
  | .ptr d => uptoBulk d + 1
  | .slice elems spare => uptoBulkAll elems + uptoBulkAll spare + 1
  | .agg parts => uptoBulkAll parts + 1
  | .iface _ d => uptoBulk d + 1
  | .map entries => uptoBulkEntries entries + 1
  | .held _ => 1
def uptoBulkAll {H : Type} : List (DataW H) → Nat
  | [] => 0
  | d :: r => uptoBulk d + uptoBulkAll r
def uptoBulkEntries {H : Type} : List (Lit × DataW H) → Nat
  | [] => 0
  | x :: r => uptoBulkEntry x + uptoBulkEntries r
def uptoBulkEntry {H : Type} : Lit × DataW H → Nat
  | (.string bytes, d) => bytes.length + uptoBulk d + 1
  | (_, d) => uptoBulk d + 1
 end
def uptoSmall : (H : Type) → List (DataW H) → Bool := fun _ ds => decide (uptoBulkAll ds ≤ 1048576)
def OpenSpec.upto (s : _root_.Go.ChangeSpec) : _root_.Go.OpenSpec := { _root_.Go.OpenSpec.ofChange s with cond := some uptoSmall }

/-- 'hallmootlaw02.MemAllMatchesSpec', WHERE WHAT IT READS IS OF BULK AT MOST 1048576: true; the input reads as it did. -/
def memAllMatchesSpecUptoRow : OpenClaim := { program := "ytimjodpndhckdaa", sum := "4ac9fa3475d78aa3872d7985517b532439d3d003e7bf6ed81fc40c49c81b5bd2", func := "hallmoot/hallmootlaw02.MemAllMatchesSpec", spec := "memAllMatchesSpec", apart := false, narrowed := true }
def MemAllMatchesSpecUptoSaid : Prop := memAllMatchesSpecUptoRow.holds Try.pinned (OpenSpec.upto memAllMatchesSpecSpec)

/-- 'hallmootlaw02.MemAllSplits', WHERE WHAT IT READS IS OF BULK AT MOST 1048576: true; the input reads as it did. -/
def memAllSplitsUptoRow : OpenClaim := { program := "ytimjodpndhckdaa", sum := "4ac9fa3475d78aa3872d7985517b532439d3d003e7bf6ed81fc40c49c81b5bd2", func := "hallmoot/hallmootlaw02.MemAllSplits", spec := "memAllSplits", apart := false, narrowed := true }
def MemAllSplitsUptoSaid : Prop := memAllSplitsUptoRow.holds Try.pinned (OpenSpec.upto memAllSplitsSpec)

/-- 'hallmootlaw02.MemCasOnce', WHERE WHAT IT READS IS OF BULK AT MOST 1048576: true; the input reads as it did. -/
def memCasOnceUptoRow : OpenClaim := { program := "ytimjodpndhckdaa", sum := "4ac9fa3475d78aa3872d7985517b532439d3d003e7bf6ed81fc40c49c81b5bd2", func := "hallmoot/hallmootlaw02.MemCasOnce", spec := "memCasOnce", apart := false, narrowed := true }
def MemCasOnceUptoSaid : Prop := memCasOnceUptoRow.holds Try.pinned (OpenSpec.upto memCasOnceSpec)

/-- 'hallmootlaw03.WireSumDetects', WHERE WHAT IT READS IS OF BULK AT MOST 1048576: true; the input reads as it did. -/
def wireSumDetectsUptoRow : OpenClaim := { program := "ytimjodpndhckdaa", sum := "4ac9fa3475d78aa3872d7985517b532439d3d003e7bf6ed81fc40c49c81b5bd2", func := "hallmoot/hallmootlaw03.WireSumDetects", spec := "wireSumDetects", unfollowed := true, recurses := true, apart := false, narrowed := true }
def WireSumDetectsUptoSaid : Prop := wireSumDetectsUptoRow.holds Try.pinned (OpenSpec.upto wireSumDetectsSpec)

/-- 'hallmootlaw15.LayoutMatchesSpec', WHERE WHAT IT READS IS OF BULK AT MOST 1048576: true; the input reads as it did. -/
def layoutMatchesSpecUptoRow : OpenClaim := { program := "ytimjodpndhckdaa", sum := "4ac9fa3475d78aa3872d7985517b532439d3d003e7bf6ed81fc40c49c81b5bd2", func := "hallmoot/hallmootlaw15.LayoutMatchesSpec", spec := "layoutMatchesSpec", unfollowed := true, recurses := true, apart := false, narrowed := true }
def LayoutMatchesSpecUptoSaid : Prop := layoutMatchesSpecUptoRow.holds Try.pinned (OpenSpec.upto layoutMatchesSpecSpec)

/-- 'hallmootlaw15.LayoutRejectsChange', WHERE WHAT IT READS IS OF BULK AT MOST 1048576: true; the input reads as it did. -/
def layoutRejectsChangeUptoRow : OpenClaim := { program := "ytimjodpndhckdaa", sum := "4ac9fa3475d78aa3872d7985517b532439d3d003e7bf6ed81fc40c49c81b5bd2", func := "hallmoot/hallmootlaw15.LayoutRejectsChange", spec := "layoutRejectsChange", unfollowed := true, recurses := true, apart := false, narrowed := true }
def LayoutRejectsChangeUptoSaid : Prop := layoutRejectsChangeUptoRow.holds Try.pinned (OpenSpec.upto layoutRejectsChangeSpec)

/-- 'hallmootlaw15.LayoutPartitions', WHERE WHAT IT READS IS OF BULK AT MOST 1048576: true; the input reads as it did. -/
def layoutPartitionsUptoRow : OpenClaim := { program := "ytimjodpndhckdaa", sum := "4ac9fa3475d78aa3872d7985517b532439d3d003e7bf6ed81fc40c49c81b5bd2", func := "hallmoot/hallmootlaw15.LayoutPartitions", spec := "layoutPartitions", unfollowed := true, recurses := true, apart := false, narrowed := true }
def LayoutPartitionsUptoSaid : Prop := layoutPartitionsUptoRow.holds Try.pinned (OpenSpec.upto layoutPartitionsSpec)

/-- 'hallmootlaw15.LayoutForFits', WHERE WHAT IT READS IS OF BULK AT MOST 1048576: true; the input reads as it did. -/
def layoutForFitsUptoRow : OpenClaim := { program := "ytimjodpndhckdaa", sum := "4ac9fa3475d78aa3872d7985517b532439d3d003e7bf6ed81fc40c49c81b5bd2", func := "hallmoot/hallmootlaw15.LayoutForFits", spec := "layoutForFits", unfollowed := true, recurses := true, loops := true, apart := false, narrowed := true }
def LayoutForFitsUptoSaid : Prop := layoutForFitsUptoRow.holds Try.pinned (OpenSpec.upto layoutForFitsSpec)

/-- 'hallmootlaw15.LayoutInitStores', WHERE WHAT IT READS IS OF BULK AT MOST 1048576: true; the input reads as it did. -/
def layoutInitStoresUptoRow : OpenClaim := { program := "ytimjodpndhckdaa", sum := "4ac9fa3475d78aa3872d7985517b532439d3d003e7bf6ed81fc40c49c81b5bd2", func := "hallmoot/hallmootlaw15.LayoutInitStores", spec := "layoutInitStores", unfollowed := true, recurses := true, apart := false, narrowed := true }
def LayoutInitStoresUptoSaid : Prop := layoutInitStoresUptoRow.holds Try.pinned (OpenSpec.upto layoutInitStoresSpec)

end Rows
end Go.Proofs.Ytimjodpndhckdaa
