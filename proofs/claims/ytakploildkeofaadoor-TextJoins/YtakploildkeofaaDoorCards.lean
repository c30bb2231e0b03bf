/-
  DERIVED. GIVEN WITH THE SEED: THE CARDS: each row of YtakploildkeofaaDoorRows.lean that lists a variable, with what it lists TIED to the program's text (the seventh form; the later family's looks); each row that meets fmt, with fmt's text TOLD by the authors' own Lean function (tested against real Go, not proved from fmt's source: count such statements apart). THE CARD IS WHAT COUNTS. Prove the row's statement (the work); the ties are given (YtakploildkeofaaDoorTie.lean); close each card by the builder's one call (the guide's Derived/Test/ToyasCard.lean, 'card_holds'). Laid BY PROGRAM, IN A SANDBOX (cutbox-door.mjs). By AI agents, Wed Nov 11 2026. No macro, syntax, notation, axiom, sorry.
-/
import Derived.Test.YtakploildkeofaaDoorRows
import GoSem.ClaimSeven
namespace Go.Proofs.YtakploildkeofaaDoor
namespace Rows

/-- THE TIED CARD OF 'inquestlaw04.TextHexes'. -/
def textHexesCard : Claim7 := { stood := { row := textHexesRow, standIns := [], harness := (true, "06484402733ff8058347310135865a83588f503dc0d9d7824d95d84b819da846"), looks := true }, kinds := [], alts := [], laidByText := true, laidKinds := [.data, .data, .data], laidTests := true, laidLooks := .later }
def TextHexesCardSaid : Prop := Claim7.holds Tryd.pinned (.plain (OpenSpec.ofChange textHexesSpec)) textHexesCard

/-- THE TIED CARD OF 'inquestlaw04.TextDecs'. -/
def textDecsCard : Claim7 := { stood := { row := textDecsRow, standIns := [], harness := (true, "06484402733ff8058347310135865a83588f503dc0d9d7824d95d84b819da846"), looks := true }, kinds := [], alts := [], laidByText := true, laidKinds := [.data, .data, .data, .sentinel, .sentinel], laidTests := true, laidLooks := .later }
def TextDecsCardSaid : Prop := Claim7.holds Tryd.pinned (.plain (OpenSpec.ofChange textDecsSpec)) textDecsCard

/-- THE TIED CARD OF 'inquestlaw04.TextFields'. -/
def textFieldsCard : Claim7 := { stood := { row := textFieldsRow, standIns := [], harness := (true, "06484402733ff8058347310135865a83588f503dc0d9d7824d95d84b819da846"), looks := true }, kinds := [], alts := [], laidByText := true, laidKinds := [.data, .data, .data], laidTests := true, laidLooks := .later }
def TextFieldsCardSaid : Prop := Claim7.holds Tryd.pinned (.plain (OpenSpec.ofChange textFieldsSpec)) textFieldsCard

/-- THE TIED CARD OF 'inquestlaw04.TextNames'. -/
def textNamesCard : Claim7 := { stood := { row := textNamesRow, standIns := [], harness := (true, "06484402733ff8058347310135865a83588f503dc0d9d7824d95d84b819da846"), looks := true }, kinds := [], alts := [], laidByText := true, laidKinds := [.data, .data, .data], laidTests := true, laidLooks := .later }
def TextNamesCardSaid : Prop := Claim7.holds Tryd.pinned (.plain (OpenSpec.ofChange textNamesSpec)) textNamesCard

/-- THE TIED CARD OF 'inquestlaw04.TextBack'. -/
def textBackCard : Claim7 := { stood := { row := textBackRow, standIns := [], harness := (true, "06484402733ff8058347310135865a83588f503dc0d9d7824d95d84b819da846"), looks := true }, kinds := [], alts := [], laidByText := true, laidKinds := [.data, .data, .data, .sentinel, .sentinel], laidTests := true, laidLooks := .later }
def TextBackCardSaid : Prop := Claim7.holds Tryd.pinned (.plain (OpenSpec.ofChange textBackSpec)) textBackCard

/-- THE TIED CARD OF 'inquestlaw04.TextJoins'. -/
def textJoinsCard : Claim7 := { stood := { row := textJoinsRow, standIns := [], harness := (true, "06484402733ff8058347310135865a83588f503dc0d9d7824d95d84b819da846"), looks := true }, kinds := [], alts := [], laidByText := true, laidKinds := [.data, .data, .data], laidTests := true, laidLooks := .later }
def TextJoinsCardSaid : Prop := Claim7.holds Tryd.pinned (.plain (OpenSpec.ofChange textJoinsSpec)) textJoinsCard

/-- THE SECOND FORM's CARD OF 'inquestlaw04.TextHexes'. -/
def textHexesUptoCard : Claim7 := { stood := { row := textHexesUptoRow, standIns := [], harness := (true, "06484402733ff8058347310135865a83588f503dc0d9d7824d95d84b819da846"), looks := true }, kinds := [], alts := [], laidByText := true, laidKinds := [.data, .data, .data], laidTests := true, laidLooks := .later }
def TextHexesUptoCardSaid : Prop := Claim7.holds Tryd.pinned (.plain (OpenSpec.upto textHexesSpec)) textHexesUptoCard

/-- THE SECOND FORM's CARD OF 'inquestlaw04.TextDecs'. -/
def textDecsUptoCard : Claim7 := { stood := { row := textDecsUptoRow, standIns := [], harness := (true, "06484402733ff8058347310135865a83588f503dc0d9d7824d95d84b819da846"), looks := true }, kinds := [], alts := [], laidByText := true, laidKinds := [.data, .data, .data, .sentinel, .sentinel], laidTests := true, laidLooks := .later }
def TextDecsUptoCardSaid : Prop := Claim7.holds Tryd.pinned (.plain (OpenSpec.upto textDecsSpec)) textDecsUptoCard

/-- THE SECOND FORM's CARD OF 'inquestlaw04.TextFields'. -/
def textFieldsUptoCard : Claim7 := { stood := { row := textFieldsUptoRow, standIns := [], harness := (true, "06484402733ff8058347310135865a83588f503dc0d9d7824d95d84b819da846"), looks := true }, kinds := [], alts := [], laidByText := true, laidKinds := [.data, .data, .data], laidTests := true, laidLooks := .later }
def TextFieldsUptoCardSaid : Prop := Claim7.holds Tryd.pinned (.plain (OpenSpec.upto textFieldsSpec)) textFieldsUptoCard

/-- THE SECOND FORM's CARD OF 'inquestlaw04.TextNames'. -/
def textNamesUptoCard : Claim7 := { stood := { row := textNamesUptoRow, standIns := [], harness := (true, "06484402733ff8058347310135865a83588f503dc0d9d7824d95d84b819da846"), looks := true }, kinds := [], alts := [], laidByText := true, laidKinds := [.data, .data, .data], laidTests := true, laidLooks := .later }
def TextNamesUptoCardSaid : Prop := Claim7.holds Tryd.pinned (.plain (OpenSpec.upto textNamesSpec)) textNamesUptoCard

/-- THE SECOND FORM's CARD OF 'inquestlaw04.TextBack'. -/
def textBackUptoCard : Claim7 := { stood := { row := textBackUptoRow, standIns := [], harness := (true, "06484402733ff8058347310135865a83588f503dc0d9d7824d95d84b819da846"), looks := true }, kinds := [], alts := [], laidByText := true, laidKinds := [.data, .data, .data, .sentinel, .sentinel], laidTests := true, laidLooks := .later }
def TextBackUptoCardSaid : Prop := Claim7.holds Tryd.pinned (.plain (OpenSpec.upto textBackSpec)) textBackUptoCard

/-- THE SECOND FORM's CARD OF 'inquestlaw04.TextJoins'. -/
def textJoinsUptoCard : Claim7 := { stood := { row := textJoinsUptoRow, standIns := [], harness := (true, "06484402733ff8058347310135865a83588f503dc0d9d7824d95d84b819da846"), looks := true }, kinds := [], alts := [], laidByText := true, laidKinds := [.data, .data, .data], laidTests := true, laidLooks := .later }
def TextJoinsUptoCardSaid : Prop := Claim7.holds Tryd.pinned (.plain (OpenSpec.upto textJoinsSpec)) textJoinsUptoCard
end Rows
end Go.Proofs.YtakploildkeofaaDoor
