/-
  DERIVED. GIVEN WITH THE SEED: THE CARDS: each row of YtegcoilkdnmhoabDoorRows.lean that lists a variable, with what it lists TIED to the program's text (the seventh form; the later family's looks); each row that meets fmt, with fmt's text TOLD by the authors' own Lean function (tested against real Go, not proved from fmt's source: count such statements apart). THE CARD IS WHAT COUNTS. Prove the row's statement (the work); the ties are given (YtegcoilkdnmhoabDoorTie.lean); close each card by the builder's one call (the guide's Derived/Test/ToyasCard.lean, 'card_holds'). Laid BY PROGRAM, IN A SANDBOX (cutbox-door.mjs). By AI agents, Wed Nov 11 2026. No macro, syntax, notation, axiom, sorry.
-/
import Derived.Test.YtegcoilkdnmhoabDoorRows
import GoSem.ClaimSeven
namespace Go.Proofs.YtegcoilkdnmhoabDoor
namespace Rows

/-- THE TIED CARD OF 'inquestlaw02.ShaJoined'. -/
def shaJoinedCard : Claim7 := { stood := { row := shaJoinedRow, standIns := [], harness := (true, "dacfc0f1e59017807ef8bc4cfae4736e12bff6e977c9c450d40fe0642705defb"), looks := false }, kinds := [], alts := [], laidByText := true, laidKinds := [.data], laidTests := true, laidLooks := .later }
def ShaJoinedCardSaid : Prop := Claim7.holds Tryd.pinned (.plain (OpenSpec.ofChange shaJoinedSpec)) shaJoinedCard

/-- THE TIED CARD OF 'inquestlaw02.ShaNobody'. -/
def shaNobodyCard : Claim7 := { stood := { row := shaNobodyRow, standIns := [], harness := (true, "dacfc0f1e59017807ef8bc4cfae4736e12bff6e977c9c450d40fe0642705defb"), looks := false }, kinds := [], alts := [], laidByText := true, laidKinds := [.data], laidTests := true, laidLooks := .later }
def ShaNobodyCardSaid : Prop := Claim7.holds Tryd.pinned (.plain (OpenSpec.ofChange shaNobodySpec)) shaNobodyCard

/-- THE SECOND FORM's CARD OF 'inquestlaw02.ShaJoined'. -/
def shaJoinedUptoCard : Claim7 := { stood := { row := shaJoinedUptoRow, standIns := [], harness := (true, "dacfc0f1e59017807ef8bc4cfae4736e12bff6e977c9c450d40fe0642705defb"), looks := false }, kinds := [], alts := [], laidByText := true, laidKinds := [.data], laidTests := true, laidLooks := .later }
def ShaJoinedUptoCardSaid : Prop := Claim7.holds Tryd.pinned (.plain (OpenSpec.upto shaJoinedSpec)) shaJoinedUptoCard

/-- THE SECOND FORM's CARD OF 'inquestlaw02.ShaNobody'. -/
def shaNobodyUptoCard : Claim7 := { stood := { row := shaNobodyUptoRow, standIns := [], harness := (true, "dacfc0f1e59017807ef8bc4cfae4736e12bff6e977c9c450d40fe0642705defb"), looks := false }, kinds := [], alts := [], laidByText := true, laidKinds := [.data], laidTests := true, laidLooks := .later }
def ShaNobodyUptoCardSaid : Prop := Claim7.holds Tryd.pinned (.plain (OpenSpec.upto shaNobodySpec)) shaNobodyUptoCard
end Rows
end Go.Proofs.YtegcoilkdnmhoabDoor
