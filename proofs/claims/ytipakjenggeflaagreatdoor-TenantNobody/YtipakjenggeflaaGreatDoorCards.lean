/-
  DERIVED. GIVEN WITH THE SEED: THE CARDS: each row of YtipakjenggeflaaGreatDoorRows.lean that lists a variable, with what it lists TIED to the program's text (the seventh form; the later family's looks); each row that meets fmt, with fmt's text TOLD by the authors' own Lean function (tested against real Go, not proved from fmt's source: count such statements apart). THE CARD IS WHAT COUNTS. Prove the row's statement (the work); the ties are given (YtipakjenggeflaaGreatDoorTie.lean); close each card by the builder's one call (the guide's Derived/Test/ToyasCard.lean, 'card_holds'). Laid BY PROGRAM, IN A SANDBOX (cutbox-door.mjs). By AI agents, Wed Nov 11 2026. No macro, syntax, notation, axiom, sorry.
-/
import Derived.Test.YtipakjenggeflaaGreatDoorRows
import GoSem.ClaimSeven
namespace Go.Proofs.YtipakjenggeflaaGreatDoor
namespace Rows

/-- THE TIED CARD OF 'inquestlaw22.TenantKept'. -/
def tenantKeptCard : Claim7 := { stood := { row := tenantKeptRow, standIns := [], harness := (true, "704a53c7aa87bcac379456b2a1a7f901f4269987d82ec31dcb304fbb0e25d873"), looks := true }, kinds := [], alts := [], laidByText := true, laidKinds := [.data, .data, .data, .data, .sentinel, .sentinel, .data, .pinned], laidTests := true, laidLooks := .later }
def TenantKeptCardSaid : Prop := Claim7.holds Tryz.pinned (.plain (OpenSpec.ofChange tenantKeptSpec)) tenantKeptCard

/-- THE TIED CARD OF 'inquestlaw22.TenantVerdicts'. -/
def tenantVerdictsCard : Claim7 := { stood := { row := tenantVerdictsRow, standIns := [], harness := (true, "704a53c7aa87bcac379456b2a1a7f901f4269987d82ec31dcb304fbb0e25d873"), looks := true }, kinds := [], alts := [], laidByText := true, laidKinds := [.data, .data, .data, .data, .sentinel, .sentinel, .data, .pinned], laidTests := true, laidLooks := .later }
def TenantVerdictsCardSaid : Prop := Claim7.holds Tryz.pinned (.plain (OpenSpec.ofChange tenantVerdictsSpec)) tenantVerdictsCard

/-- THE TIED CARD OF 'inquestlaw22.TenantRoom'. -/
def tenantRoomCard : Claim7 := { stood := { row := tenantRoomRow, standIns := [], harness := (true, "704a53c7aa87bcac379456b2a1a7f901f4269987d82ec31dcb304fbb0e25d873"), looks := true }, kinds := [], alts := [], laidByText := true, laidKinds := [.data, .data, .data, .data, .sentinel, .sentinel, .data, .pinned], laidTests := true, laidLooks := .later }
def TenantRoomCardSaid : Prop := Claim7.holds Tryz.pinned (.plain (OpenSpec.ofChange tenantRoomSpec)) tenantRoomCard

/-- THE TIED CARD OF 'inquestlaw22.TenantPieces'. -/
def tenantPiecesCard : Claim7 := { stood := { row := tenantPiecesRow, standIns := [], harness := (true, "704a53c7aa87bcac379456b2a1a7f901f4269987d82ec31dcb304fbb0e25d873"), looks := true }, kinds := [], alts := [], laidByText := true, laidKinds := [.data, .data, .data, .data, .sentinel, .sentinel, .data, .pinned], laidTests := true, laidLooks := .later }
def TenantPiecesCardSaid : Prop := Claim7.holds Tryz.pinned (.plain (OpenSpec.ofChange tenantPiecesSpec)) tenantPiecesCard

/-- THE TIED CARD OF 'inquestlaw22.TenantNobody'. -/
def tenantNobodyCard : Claim7 := { stood := { row := tenantNobodyRow, standIns := [], harness := (true, "704a53c7aa87bcac379456b2a1a7f901f4269987d82ec31dcb304fbb0e25d873"), looks := true }, kinds := [], alts := [], laidByText := true, laidKinds := [.data, .data, .data, .data, .sentinel, .sentinel, .data, .pinned], laidTests := true, laidLooks := .later }
def TenantNobodyCardSaid : Prop := Claim7.holds Tryz.pinned (.plain (OpenSpec.ofChange tenantNobodySpec)) tenantNobodyCard

/-- THE SECOND FORM's CARD OF 'inquestlaw22.TenantKept'. -/
def tenantKeptUptoCard : Claim7 := { stood := { row := tenantKeptUptoRow, standIns := [], harness := (true, "704a53c7aa87bcac379456b2a1a7f901f4269987d82ec31dcb304fbb0e25d873"), looks := true }, kinds := [], alts := [], laidByText := true, laidKinds := [.data, .data, .data, .data, .sentinel, .sentinel, .data, .pinned], laidTests := true, laidLooks := .later }
def TenantKeptUptoCardSaid : Prop := Claim7.holds Tryz.pinned (.plain (OpenSpec.upto tenantKeptSpec)) tenantKeptUptoCard

/-- THE SECOND FORM's CARD OF 'inquestlaw22.TenantVerdicts'. -/
def tenantVerdictsUptoCard : Claim7 := { stood := { row := tenantVerdictsUptoRow, standIns := [], harness := (true, "704a53c7aa87bcac379456b2a1a7f901f4269987d82ec31dcb304fbb0e25d873"), looks := true }, kinds := [], alts := [], laidByText := true, laidKinds := [.data, .data, .data, .data, .sentinel, .sentinel, .data, .pinned], laidTests := true, laidLooks := .later }
def TenantVerdictsUptoCardSaid : Prop := Claim7.holds Tryz.pinned (.plain (OpenSpec.upto tenantVerdictsSpec)) tenantVerdictsUptoCard

/-- THE SECOND FORM's CARD OF 'inquestlaw22.TenantRoom'. -/
def tenantRoomUptoCard : Claim7 := { stood := { row := tenantRoomUptoRow, standIns := [], harness := (true, "704a53c7aa87bcac379456b2a1a7f901f4269987d82ec31dcb304fbb0e25d873"), looks := true }, kinds := [], alts := [], laidByText := true, laidKinds := [.data, .data, .data, .data, .sentinel, .sentinel, .data, .pinned], laidTests := true, laidLooks := .later }
def TenantRoomUptoCardSaid : Prop := Claim7.holds Tryz.pinned (.plain (OpenSpec.upto tenantRoomSpec)) tenantRoomUptoCard

/-- THE SECOND FORM's CARD OF 'inquestlaw22.TenantPieces'. -/
def tenantPiecesUptoCard : Claim7 := { stood := { row := tenantPiecesUptoRow, standIns := [], harness := (true, "704a53c7aa87bcac379456b2a1a7f901f4269987d82ec31dcb304fbb0e25d873"), looks := true }, kinds := [], alts := [], laidByText := true, laidKinds := [.data, .data, .data, .data, .sentinel, .sentinel, .data, .pinned], laidTests := true, laidLooks := .later }
def TenantPiecesUptoCardSaid : Prop := Claim7.holds Tryz.pinned (.plain (OpenSpec.upto tenantPiecesSpec)) tenantPiecesUptoCard

/-- THE SECOND FORM's CARD OF 'inquestlaw22.TenantNobody'. -/
def tenantNobodyUptoCard : Claim7 := { stood := { row := tenantNobodyUptoRow, standIns := [], harness := (true, "704a53c7aa87bcac379456b2a1a7f901f4269987d82ec31dcb304fbb0e25d873"), looks := true }, kinds := [], alts := [], laidByText := true, laidKinds := [.data, .data, .data, .data, .sentinel, .sentinel, .data, .pinned], laidTests := true, laidLooks := .later }
def TenantNobodyUptoCardSaid : Prop := Claim7.holds Tryz.pinned (.plain (OpenSpec.upto tenantNobodySpec)) tenantNobodyUptoCard
end Rows
end Go.Proofs.YtipakjenggeflaaGreatDoor
