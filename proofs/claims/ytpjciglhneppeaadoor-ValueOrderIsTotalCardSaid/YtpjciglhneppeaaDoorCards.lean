/-
  DERIVED. GIVEN WITH THE SEED: THE CARDS: each row of YtpjciglhneppeaaDoorRows.lean that lists a variable, with what it lists TIED to the program's text (the seventh form; the later family's looks); each row that meets fmt, with fmt's text TOLD by the authors' own Lean function (tested against real Go, not proved from fmt's source: count such statements apart). THE CARD IS WHAT COUNTS. Prove the row's statement (the work); the ties are given (YtpjciglhneppeaaDoorTie.lean); close each card by the builder's one call (the guide's Derived/Test/ToyasCard.lean, 'card_holds'). Laid BY PROGRAM, IN A SANDBOX (cutbox-door.mjs). By AI agents, Wed Nov 11 2026. No macro, syntax, notation, axiom, sorry.
-/
import Derived.Test.YtpjciglhneppeaaDoorRows
import GoSem.ClaimSeven
namespace Go.Proofs.YtpjciglhneppeaaDoor
namespace Rows

/-- THE TIED CARD OF 'hallmootlaw08.ValueRoundIsCongruent'. -/
def valueRoundIsCongruentCard : Claim7 := { stood := { row := valueRoundIsCongruentRow, standIns := [], harness := (true, "b586c1946d1b37c6e4f64d4f84396cd0044154635eac61861aef14b790fb1948"), looks := false }, kinds := [], alts := [], laidByText := true, laidKinds := [.data, .data, .data], laidTests := true, laidLooks := .later }
def ValueRoundIsCongruentCardSaid : Prop := Claim7.holds Tryd.pinned (.plain (OpenSpec.ofChange valueRoundIsCongruentSpec)) valueRoundIsCongruentCard

/-- THE TIED CARD OF 'hallmootlaw08.ValueOrderIsTotal'. -/
def valueOrderIsTotalCard : Claim7 := { stood := { row := valueOrderIsTotalRow, standIns := [], harness := (true, "b586c1946d1b37c6e4f64d4f84396cd0044154635eac61861aef14b790fb1948"), looks := false }, kinds := [], alts := [], laidByText := true, laidKinds := [.data, .data, .data], laidTests := true, laidLooks := .later }
def ValueOrderIsTotalCardSaid : Prop := Claim7.holds Tryd.pinned (.plain (OpenSpec.ofChange valueOrderIsTotalSpec)) valueOrderIsTotalCard

/-- THE SECOND FORM's CARD OF 'hallmootlaw08.ValueRoundIsCongruent'. -/
def valueRoundIsCongruentUptoCard : Claim7 := { stood := { row := valueRoundIsCongruentUptoRow, standIns := [], harness := (true, "b586c1946d1b37c6e4f64d4f84396cd0044154635eac61861aef14b790fb1948"), looks := false }, kinds := [], alts := [], laidByText := true, laidKinds := [.data, .data, .data], laidTests := true, laidLooks := .later }
def ValueRoundIsCongruentUptoCardSaid : Prop := Claim7.holds Tryd.pinned (.plain (OpenSpec.upto valueRoundIsCongruentSpec)) valueRoundIsCongruentUptoCard

/-- THE SECOND FORM's CARD OF 'hallmootlaw08.ValueOrderIsTotal'. -/
def valueOrderIsTotalUptoCard : Claim7 := { stood := { row := valueOrderIsTotalUptoRow, standIns := [], harness := (true, "b586c1946d1b37c6e4f64d4f84396cd0044154635eac61861aef14b790fb1948"), looks := false }, kinds := [], alts := [], laidByText := true, laidKinds := [.data, .data, .data], laidTests := true, laidLooks := .later }
def ValueOrderIsTotalUptoCardSaid : Prop := Claim7.holds Tryd.pinned (.plain (OpenSpec.upto valueOrderIsTotalSpec)) valueOrderIsTotalUptoCard
end Rows
end Go.Proofs.YtpjciglhneppeaaDoor
