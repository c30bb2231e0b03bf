/-
  DERIVED. GIVEN WITH THE SEED: THE CARDS: each row of YtdameoejigpnhaaGreatDoorRows.lean that lists a variable, with what it lists TIED to the program's text (the seventh form; the later family's looks); each row that meets fmt, with fmt's text TOLD by the authors' own Lean function (tested against real Go, not proved from fmt's source: count such statements apart). THE CARD IS WHAT COUNTS. Prove the row's statement (the work); the ties are given (YtdameoejigpnhaaGreatDoorTie.lean); close each card by the builder's one call (the guide's Derived/Test/ToyasCard.lean, 'card_holds'). Laid BY PROGRAM, IN A SANDBOX (cutbox-door.mjs). By AI agents, Wed Nov 11 2026. No macro, syntax, notation, axiom, sorry.
-/
import Derived.Test.YtdameoejigpnhaaGreatDoorRows
import GoSem.ClaimSeven
namespace Go.Proofs.YtdameoejigpnhaaGreatDoor
namespace Rows

/-- THE TIED CARD OF 'inquestlaw13.WireReads'. -/
def wireReadsCard : Claim7 := { stood := { row := wireReadsRow, standIns := [], harness := (true, "7652ebfd9facc9f14a95c583499ea9278db5b5aa812588f1bc34c725998f714f"), looks := true }, kinds := [], alts := [], laidByText := true, laidKinds := [.data, .data, .data, .data, .sentinel, .sentinel, .pinned, .pinned], laidTests := true, laidLooks := .later }
def WireReadsCardSaid : Prop := Claim7.holds Tryz.pinned (.plain (OpenSpec.ofChange wireReadsSpec)) wireReadsCard

/-- THE TIED CARD OF 'inquestlaw13.WireSteps'. -/
def wireStepsCard : Claim7 := { stood := { row := wireStepsRow, standIns := [], harness := (true, "7652ebfd9facc9f14a95c583499ea9278db5b5aa812588f1bc34c725998f714f"), looks := true }, kinds := [], alts := [], laidByText := true, laidKinds := [.data, .data, .data, .data, .sentinel, .sentinel, .pinned, .pinned], laidTests := true, laidLooks := .later }
def WireStepsCardSaid : Prop := Claim7.holds Tryz.pinned (.plain (OpenSpec.ofChange wireStepsSpec)) wireStepsCard

/-- THE TIED CARD OF 'inquestlaw13.WirePrints'. -/
def wirePrintsCard : Claim7 := { stood := { row := wirePrintsRow, standIns := [], harness := (true, "7652ebfd9facc9f14a95c583499ea9278db5b5aa812588f1bc34c725998f714f"), looks := true }, kinds := [], alts := [], laidByText := true, laidKinds := [.data, .data, .data, .data, .sentinel, .sentinel, .pinned, .pinned], laidTests := true, laidLooks := .later }
def WirePrintsCardSaid : Prop := Claim7.holds Tryz.pinned (.plain (OpenSpec.ofChange wirePrintsSpec)) wirePrintsCard

/-- THE TIED CARD OF 'inquestlaw13.WireBack'. -/
def wireBackCard : Claim7 := { stood := { row := wireBackRow, standIns := [], harness := (true, "7652ebfd9facc9f14a95c583499ea9278db5b5aa812588f1bc34c725998f714f"), looks := true }, kinds := [], alts := [], laidByText := true, laidKinds := [.data, .data, .data, .data, .sentinel, .sentinel, .pinned, .pinned], laidTests := true, laidLooks := .later }
def WireBackCardSaid : Prop := Claim7.holds Tryz.pinned (.plain (OpenSpec.ofChange wireBackSpec)) wireBackCard

/-- THE TIED CARD OF 'inquestlaw13.WireCase'. -/
def wireCaseCard : Claim7 := { stood := { row := wireCaseRow, standIns := [], harness := (true, "7652ebfd9facc9f14a95c583499ea9278db5b5aa812588f1bc34c725998f714f"), looks := true }, kinds := [], alts := [], laidByText := true, laidKinds := [.data, .data, .data, .data, .sentinel, .sentinel, .pinned, .pinned], laidTests := true, laidLooks := .later }
def WireCaseCardSaid : Prop := Claim7.holds Tryz.pinned (.plain (OpenSpec.ofChange wireCaseSpec)) wireCaseCard

/-- THE TIED CARD OF 'inquestlaw13.WireNext'. -/
def wireNextCard : Claim7 := { stood := { row := wireNextRow, standIns := [], harness := (true, "7652ebfd9facc9f14a95c583499ea9278db5b5aa812588f1bc34c725998f714f"), looks := true }, kinds := [], alts := [], laidByText := true, laidKinds := [.data, .data, .data, .data, .sentinel, .sentinel, .pinned, .pinned], laidTests := true, laidLooks := .later }
def WireNextCardSaid : Prop := Claim7.holds Tryz.pinned (.plain (OpenSpec.ofChange wireNextSpec)) wireNextCard

/-- THE SECOND FORM's CARD OF 'inquestlaw13.WireReads'. -/
def wireReadsUptoCard : Claim7 := { stood := { row := wireReadsUptoRow, standIns := [], harness := (true, "7652ebfd9facc9f14a95c583499ea9278db5b5aa812588f1bc34c725998f714f"), looks := true }, kinds := [], alts := [], laidByText := true, laidKinds := [.data, .data, .data, .data, .sentinel, .sentinel, .pinned, .pinned], laidTests := true, laidLooks := .later }
def WireReadsUptoCardSaid : Prop := Claim7.holds Tryz.pinned (.plain (OpenSpec.upto wireReadsSpec)) wireReadsUptoCard

/-- THE SECOND FORM's CARD OF 'inquestlaw13.WireSteps'. -/
def wireStepsUptoCard : Claim7 := { stood := { row := wireStepsUptoRow, standIns := [], harness := (true, "7652ebfd9facc9f14a95c583499ea9278db5b5aa812588f1bc34c725998f714f"), looks := true }, kinds := [], alts := [], laidByText := true, laidKinds := [.data, .data, .data, .data, .sentinel, .sentinel, .pinned, .pinned], laidTests := true, laidLooks := .later }
def WireStepsUptoCardSaid : Prop := Claim7.holds Tryz.pinned (.plain (OpenSpec.upto wireStepsSpec)) wireStepsUptoCard

/-- THE SECOND FORM's CARD OF 'inquestlaw13.WirePrints'. -/
def wirePrintsUptoCard : Claim7 := { stood := { row := wirePrintsUptoRow, standIns := [], harness := (true, "7652ebfd9facc9f14a95c583499ea9278db5b5aa812588f1bc34c725998f714f"), looks := true }, kinds := [], alts := [], laidByText := true, laidKinds := [.data, .data, .data, .data, .sentinel, .sentinel, .pinned, .pinned], laidTests := true, laidLooks := .later }
def WirePrintsUptoCardSaid : Prop := Claim7.holds Tryz.pinned (.plain (OpenSpec.upto wirePrintsSpec)) wirePrintsUptoCard

/-- THE SECOND FORM's CARD OF 'inquestlaw13.WireBack'. -/
def wireBackUptoCard : Claim7 := { stood := { row := wireBackUptoRow, standIns := [], harness := (true, "7652ebfd9facc9f14a95c583499ea9278db5b5aa812588f1bc34c725998f714f"), looks := true }, kinds := [], alts := [], laidByText := true, laidKinds := [.data, .data, .data, .data, .sentinel, .sentinel, .pinned, .pinned], laidTests := true, laidLooks := .later }
def WireBackUptoCardSaid : Prop := Claim7.holds Tryz.pinned (.plain (OpenSpec.upto wireBackSpec)) wireBackUptoCard

/-- THE SECOND FORM's CARD OF 'inquestlaw13.WireCase'. -/
def wireCaseUptoCard : Claim7 := { stood := { row := wireCaseUptoRow, standIns := [], harness := (true, "7652ebfd9facc9f14a95c583499ea9278db5b5aa812588f1bc34c725998f714f"), looks := true }, kinds := [], alts := [], laidByText := true, laidKinds := [.data, .data, .data, .data, .sentinel, .sentinel, .pinned, .pinned], laidTests := true, laidLooks := .later }
def WireCaseUptoCardSaid : Prop := Claim7.holds Tryz.pinned (.plain (OpenSpec.upto wireCaseSpec)) wireCaseUptoCard

/-- THE SECOND FORM's CARD OF 'inquestlaw13.WireNext'. -/
def wireNextUptoCard : Claim7 := { stood := { row := wireNextUptoRow, standIns := [], harness := (true, "7652ebfd9facc9f14a95c583499ea9278db5b5aa812588f1bc34c725998f714f"), looks := true }, kinds := [], alts := [], laidByText := true, laidKinds := [.data, .data, .data, .data, .sentinel, .sentinel, .pinned, .pinned], laidTests := true, laidLooks := .later }
def WireNextUptoCardSaid : Prop := Claim7.holds Tryz.pinned (.plain (OpenSpec.upto wireNextSpec)) wireNextUptoCard
end Rows
end Go.Proofs.YtdameoejigpnhaaGreatDoor
