/-
  DERIVED. GIVEN WITH THE SEED: THE CARDS: each row of YtoijdnlplbeomaaDoorRows.lean that lists a variable, with what it lists TIED to the program's text (the seventh form; the later family's looks); each row that meets fmt, with fmt's text TOLD by the authors' own Lean function (tested against real Go, not proved from fmt's source: count such statements apart). THE CARD IS WHAT COUNTS. Prove the row's statement (the work); the ties are given (YtoijdnlplbeomaaDoorTie.lean); close each card by the builder's one call (the guide's Derived/Test/ToyasCard.lean, 'card_holds'). Laid BY PROGRAM, IN A SANDBOX (cutbox-door.mjs). By AI agents, Wed Nov 11 2026. No macro, syntax, notation, axiom, sorry.
-/
import Derived.Test.YtoijdnlplbeomaaDoorRows
import GoSem.ClaimSeven
namespace Go.Proofs.YtoijdnlplbeomaaDoor
namespace Rows

/-- THE TIED CARD OF 'hallmootlaw08.ValueMatchesSpec'. -/
def valueMatchesSpecCard : Claim7 := { stood := { row := valueMatchesSpecRow, standIns := [], harness := (true, "bbd4cae612d69296a62109c98865909dae226b589165484a625b8efb0cb42983"), looks := false }, kinds := [], alts := [], laidByText := true, laidKinds := [.data, .data, .data], laidTests := true, laidLooks := .later }
def ValueMatchesSpecCardSaid : Prop := Claim7.holds Tryd.pinned (.plain (OpenSpec.ofChange valueMatchesSpecSpec)) valueMatchesSpecCard

/-- THE TIED CARD OF 'hallmootlaw08.ValueBinMatchesSpec'. -/
def valueBinMatchesSpecCard : Claim7 := { stood := { row := valueBinMatchesSpecRow, standIns := [], harness := (true, "bbd4cae612d69296a62109c98865909dae226b589165484a625b8efb0cb42983"), looks := false }, kinds := [], alts := [], laidByText := true, laidKinds := [.data, .data, .data], laidTests := true, laidLooks := .later }
def ValueBinMatchesSpecCardSaid : Prop := Claim7.holds Tryd.pinned (.plain (OpenSpec.ofChange valueBinMatchesSpecSpec)) valueBinMatchesSpecCard

/-- THE TIED CARD OF 'hallmootlaw08.ValueShowIsInjective'. -/
def valueShowIsInjectiveCard : Claim7 := { stood := { row := valueShowIsInjectiveRow, standIns := [], harness := (true, "bbd4cae612d69296a62109c98865909dae226b589165484a625b8efb0cb42983"), looks := false }, kinds := [], alts := [], laidByText := true, laidKinds := [.data, .data, .data], laidTests := true, laidLooks := .later }
def ValueShowIsInjectiveCardSaid : Prop := Claim7.holds Tryd.pinned (.plain (OpenSpec.ofChange valueShowIsInjectiveSpec)) valueShowIsInjectiveCard

/-- THE TIED CARD OF 'hallmootlaw08.ValueStaysValid'. -/
def valueStaysValidCard : Claim7 := { stood := { row := valueStaysValidRow, standIns := [], harness := (true, "bbd4cae612d69296a62109c98865909dae226b589165484a625b8efb0cb42983"), looks := false }, kinds := [], alts := [], laidByText := true, laidKinds := [.data, .data, .data], laidTests := true, laidLooks := .later }
def ValueStaysValidCardSaid : Prop := Claim7.holds Tryd.pinned (.plain (OpenSpec.ofChange valueStaysValidSpec)) valueStaysValidCard

/-- THE SECOND FORM's CARD OF 'hallmootlaw08.ValueMatchesSpec'. -/
def valueMatchesSpecUptoCard : Claim7 := { stood := { row := valueMatchesSpecUptoRow, standIns := [], harness := (true, "bbd4cae612d69296a62109c98865909dae226b589165484a625b8efb0cb42983"), looks := false }, kinds := [], alts := [], laidByText := true, laidKinds := [.data, .data, .data], laidTests := true, laidLooks := .later }
def ValueMatchesSpecUptoCardSaid : Prop := Claim7.holds Tryd.pinned (.plain (OpenSpec.upto valueMatchesSpecSpec)) valueMatchesSpecUptoCard

/-- THE SECOND FORM's CARD OF 'hallmootlaw08.ValueBinMatchesSpec'. -/
def valueBinMatchesSpecUptoCard : Claim7 := { stood := { row := valueBinMatchesSpecUptoRow, standIns := [], harness := (true, "bbd4cae612d69296a62109c98865909dae226b589165484a625b8efb0cb42983"), looks := false }, kinds := [], alts := [], laidByText := true, laidKinds := [.data, .data, .data], laidTests := true, laidLooks := .later }
def ValueBinMatchesSpecUptoCardSaid : Prop := Claim7.holds Tryd.pinned (.plain (OpenSpec.upto valueBinMatchesSpecSpec)) valueBinMatchesSpecUptoCard

/-- THE SECOND FORM's CARD OF 'hallmootlaw08.ValueShowIsInjective'. -/
def valueShowIsInjectiveUptoCard : Claim7 := { stood := { row := valueShowIsInjectiveUptoRow, standIns := [], harness := (true, "bbd4cae612d69296a62109c98865909dae226b589165484a625b8efb0cb42983"), looks := false }, kinds := [], alts := [], laidByText := true, laidKinds := [.data, .data, .data], laidTests := true, laidLooks := .later }
def ValueShowIsInjectiveUptoCardSaid : Prop := Claim7.holds Tryd.pinned (.plain (OpenSpec.upto valueShowIsInjectiveSpec)) valueShowIsInjectiveUptoCard

/-- THE SECOND FORM's CARD OF 'hallmootlaw08.ValueStaysValid'. -/
def valueStaysValidUptoCard : Claim7 := { stood := { row := valueStaysValidUptoRow, standIns := [], harness := (true, "bbd4cae612d69296a62109c98865909dae226b589165484a625b8efb0cb42983"), looks := false }, kinds := [], alts := [], laidByText := true, laidKinds := [.data, .data, .data], laidTests := true, laidLooks := .later }
def ValueStaysValidUptoCardSaid : Prop := Claim7.holds Tryd.pinned (.plain (OpenSpec.upto valueStaysValidSpec)) valueStaysValidUptoCard
end Rows
end Go.Proofs.YtoijdnlplbeomaaDoor
