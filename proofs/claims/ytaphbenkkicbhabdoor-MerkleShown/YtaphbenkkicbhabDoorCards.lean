/-
  DERIVED. GIVEN WITH THE SEED: THE CARDS: each row of YtaphbenkkicbhabDoorRows.lean that lists a variable, with what it lists TIED to the program's text (the seventh form; the later family's looks); each row that meets fmt, with fmt's text TOLD by the authors' own Lean function (tested against real Go, not proved from fmt's source: count such statements apart). THE CARD IS WHAT COUNTS. Prove the row's statement (the work); the ties are given (YtaphbenkkicbhabDoorTie.lean); close each card by the builder's one call (the guide's Derived/Test/ToyasCard.lean, 'card_holds'). Laid BY PROGRAM, IN A SANDBOX (cutbox-door.mjs). By AI agents, Wed Nov 11 2026. No macro, syntax, notation, axiom, sorry.
-/
import Derived.Test.YtaphbenkkicbhabDoorRows
import GoSem.ClaimSeven
namespace Go.Proofs.YtaphbenkkicbhabDoor
namespace Rows

/-- THE TIED CARD OF 'inquestlaw06.MerkleShown'. -/
def merkleShownCard : Claim7 := { stood := { row := merkleShownRow, standIns := [], harness := (true, "754bd91fea222e8a0daa55272debac6dc145a96f7c50a1f32200eef3bed01100"), looks := false }, kinds := [], alts := [], laidByText := true, laidKinds := [.data], laidTests := true, laidLooks := .later }
def MerkleShownCardSaid : Prop := Claim7.holds Tryd.pinned (.plain (OpenSpec.ofChange merkleShownSpec)) merkleShownCard

/-- THE TIED CARD OF 'inquestlaw06.MerkleJoins'. -/
def merkleJoinsCard : Claim7 := { stood := { row := merkleJoinsRow, standIns := [], harness := (true, "754bd91fea222e8a0daa55272debac6dc145a96f7c50a1f32200eef3bed01100"), looks := false }, kinds := [], alts := [], laidByText := true, laidKinds := [.data], laidTests := true, laidLooks := .later }
def MerkleJoinsCardSaid : Prop := Claim7.holds Tryd.pinned (.plain (OpenSpec.ofChange merkleJoinsSpec)) merkleJoinsCard

/-- THE SECOND FORM's CARD OF 'inquestlaw06.MerkleShown'. -/
def merkleShownUptoCard : Claim7 := { stood := { row := merkleShownUptoRow, standIns := [], harness := (true, "754bd91fea222e8a0daa55272debac6dc145a96f7c50a1f32200eef3bed01100"), looks := false }, kinds := [], alts := [], laidByText := true, laidKinds := [.data], laidTests := true, laidLooks := .later }
def MerkleShownUptoCardSaid : Prop := Claim7.holds Tryd.pinned (.plain (OpenSpec.upto merkleShownSpec)) merkleShownUptoCard

/-- THE SECOND FORM's CARD OF 'inquestlaw06.MerkleJoins'. -/
def merkleJoinsUptoCard : Claim7 := { stood := { row := merkleJoinsUptoRow, standIns := [], harness := (true, "754bd91fea222e8a0daa55272debac6dc145a96f7c50a1f32200eef3bed01100"), looks := false }, kinds := [], alts := [], laidByText := true, laidKinds := [.data], laidTests := true, laidLooks := .later }
def MerkleJoinsUptoCardSaid : Prop := Claim7.holds Tryd.pinned (.plain (OpenSpec.upto merkleJoinsSpec)) merkleJoinsUptoCard
end Rows
end Go.Proofs.YtaphbenkkicbhabDoor
