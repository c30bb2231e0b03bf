/-
  DERIVED. GIVEN WITH THE SEED: THE CARDS: each row of YtjlclgmbenhakaaDoorRows.lean that lists a variable, with what it lists TIED to the program's text (the seventh form; the later family's looks); each row that meets fmt, with fmt's text TOLD by the authors' own Lean function (tested against real Go, not proved from fmt's source: count such statements apart). THE CARD IS WHAT COUNTS. Prove the row's statement (the work); the ties are given (YtjlclgmbenhakaaDoorTie.lean); close each card by the builder's one call (the guide's Derived/Test/ToyasCard.lean, 'card_holds'). Laid BY PROGRAM, IN A SANDBOX (cutbox-door.mjs). By AI agents, Wed Nov 11 2026. No macro, syntax, notation, axiom, sorry.
-/
import Derived.Test.YtjlclgmbenhakaaDoorRows
import GoSem.ClaimSeven
namespace Go.Proofs.YtjlclgmbenhakaaDoor
namespace Rows

/-- THE TIED CARD OF 'inquestlaw12.ChunkPrints'. -/
def chunkPrintsCard : Claim7 := { stood := { row := chunkPrintsRow, standIns := [], harness := (true, "3bee4c63fbba533c2423184a59c3cb4a8c81109b5df1ff74007e58cada57b881"), looks := false }, kinds := [], alts := [], laidByText := true, laidKinds := [.data, .data, .data], laidTests := true, laidLooks := .later }
def ChunkPrintsCardSaid : Prop := Claim7.holds Tryd.pinned (.plain (OpenSpec.ofChange chunkPrintsSpec)) chunkPrintsCard

/-- THE TIED CARD OF 'inquestlaw12.ChunkBack'. -/
def chunkBackCard : Claim7 := { stood := { row := chunkBackRow, standIns := [], harness := (true, "3bee4c63fbba533c2423184a59c3cb4a8c81109b5df1ff74007e58cada57b881"), looks := false }, kinds := [], alts := [], laidByText := true, laidKinds := [.data, .data, .data], laidTests := true, laidLooks := .later }
def ChunkBackCardSaid : Prop := Claim7.holds Tryd.pinned (.plain (OpenSpec.ofChange chunkBackSpec)) chunkBackCard

/-- THE TIED CARD OF 'inquestlaw12.ChunkRoom'. -/
def chunkRoomCard : Claim7 := { stood := { row := chunkRoomRow, standIns := [], harness := (true, "3bee4c63fbba533c2423184a59c3cb4a8c81109b5df1ff74007e58cada57b881"), looks := false }, kinds := [], alts := [], laidByText := true, laidKinds := [.data, .data, .data], laidTests := true, laidLooks := .later }
def ChunkRoomCardSaid : Prop := Claim7.holds Tryd.pinned (.plain (OpenSpec.ofChange chunkRoomSpec)) chunkRoomCard

/-- THE SECOND FORM's CARD OF 'inquestlaw12.ChunkPrints'. -/
def chunkPrintsUptoCard : Claim7 := { stood := { row := chunkPrintsUptoRow, standIns := [], harness := (true, "3bee4c63fbba533c2423184a59c3cb4a8c81109b5df1ff74007e58cada57b881"), looks := false }, kinds := [], alts := [], laidByText := true, laidKinds := [.data, .data, .data], laidTests := true, laidLooks := .later }
def ChunkPrintsUptoCardSaid : Prop := Claim7.holds Tryd.pinned (.plain (OpenSpec.upto chunkPrintsSpec)) chunkPrintsUptoCard

/-- THE SECOND FORM's CARD OF 'inquestlaw12.ChunkBack'. -/
def chunkBackUptoCard : Claim7 := { stood := { row := chunkBackUptoRow, standIns := [], harness := (true, "3bee4c63fbba533c2423184a59c3cb4a8c81109b5df1ff74007e58cada57b881"), looks := false }, kinds := [], alts := [], laidByText := true, laidKinds := [.data, .data, .data], laidTests := true, laidLooks := .later }
def ChunkBackUptoCardSaid : Prop := Claim7.holds Tryd.pinned (.plain (OpenSpec.upto chunkBackSpec)) chunkBackUptoCard

/-- THE SECOND FORM's CARD OF 'inquestlaw12.ChunkRoom'. -/
def chunkRoomUptoCard : Claim7 := { stood := { row := chunkRoomUptoRow, standIns := [], harness := (true, "3bee4c63fbba533c2423184a59c3cb4a8c81109b5df1ff74007e58cada57b881"), looks := false }, kinds := [], alts := [], laidByText := true, laidKinds := [.data, .data, .data], laidTests := true, laidLooks := .later }
def ChunkRoomUptoCardSaid : Prop := Claim7.holds Tryd.pinned (.plain (OpenSpec.upto chunkRoomSpec)) chunkRoomUptoCard
end Rows
end Go.Proofs.YtjlclgmbenhakaaDoor
