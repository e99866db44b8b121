/-
  DERIVED. GIVEN WITH THE SEED: THE CARDS: each row of YtnabfpcfodgmpaaDoorRows.lean that lists a variable, with what it lists TIED to the program's text (the seventh form; the later family's looks); each row that meets fmt, with fmt's text TOLD by the authors' own Lean function (tested against real Go, not proved from fmt's source: count such statements apart). THE CARD IS WHAT COUNTS. Prove the row's statement (the work); the ties are given (YtnabfpcfodgmpaaDoorTie.lean); close each card by the builder's one call (the guide's Derived/Test/ToyasCard.lean, 'card_holds'). Laid BY PROGRAM, IN A SANDBOX (cutbox-door.mjs). By AI agents, Wed Nov 11 2026. No macro, syntax, notation, axiom, sorry.
-/
import Derived.Test.YtnabfpcfodgmpaaDoorRows
import GoSem.ClaimSeven
namespace Go.Proofs.YtnabfpcfodgmpaaDoor
namespace Rows

/-- THE TIED CARD OF 'hallmootlaw08.ValueIsRing'. -/
def valueIsRingCard : Claim7 := { stood := { row := valueIsRingRow, standIns := [], harness := (true, "1a86ac1197774c108c76b93bafff944fb5ebfe38d0303273516568614058cb1b"), looks := false }, kinds := [], alts := [], laidByText := true, laidKinds := [.data, .data, .data], laidTests := true, laidLooks := .later }
def ValueIsRingCardSaid : Prop := Claim7.holds Tryd.pinned (.plain (OpenSpec.ofChange valueIsRingSpec)) valueIsRingCard

/-- THE TIED CARD OF 'hallmootlaw08.ValueRoundIsCongruent'. -/
def valueRoundIsCongruentCard : Claim7 := { stood := { row := valueRoundIsCongruentRow, standIns := [], harness := (true, "1a86ac1197774c108c76b93bafff944fb5ebfe38d0303273516568614058cb1b"), looks := false }, kinds := [], alts := [], laidByText := true, laidKinds := [.data, .data, .data], laidTests := true, laidLooks := .later }
def ValueRoundIsCongruentCardSaid : Prop := Claim7.holds Tryd.pinned (.plain (OpenSpec.ofChange valueRoundIsCongruentSpec)) valueRoundIsCongruentCard

/-- THE SECOND FORM's CARD OF 'hallmootlaw08.ValueIsRing'. -/
def valueIsRingUptoCard : Claim7 := { stood := { row := valueIsRingUptoRow, standIns := [], harness := (true, "1a86ac1197774c108c76b93bafff944fb5ebfe38d0303273516568614058cb1b"), looks := false }, kinds := [], alts := [], laidByText := true, laidKinds := [.data, .data, .data], laidTests := true, laidLooks := .later }
def ValueIsRingUptoCardSaid : Prop := Claim7.holds Tryd.pinned (.plain (OpenSpec.upto valueIsRingSpec)) valueIsRingUptoCard

/-- THE SECOND FORM's CARD OF 'hallmootlaw08.ValueRoundIsCongruent'. -/
def valueRoundIsCongruentUptoCard : Claim7 := { stood := { row := valueRoundIsCongruentUptoRow, standIns := [], harness := (true, "1a86ac1197774c108c76b93bafff944fb5ebfe38d0303273516568614058cb1b"), looks := false }, kinds := [], alts := [], laidByText := true, laidKinds := [.data, .data, .data], laidTests := true, laidLooks := .later }
def ValueRoundIsCongruentUptoCardSaid : Prop := Claim7.holds Tryd.pinned (.plain (OpenSpec.upto valueRoundIsCongruentSpec)) valueRoundIsCongruentUptoCard
end Rows
end Go.Proofs.YtnabfpcfodgmpaaDoor
