/-
  DERIVED. GIVEN WITH THE SEED: THE CARDS: each row of YtlodbkjjkhpbaaaDoorRows.lean that lists a variable, with what it lists TIED to the program's text (the seventh form; the later family's looks); each row that meets fmt, with fmt's text TOLD by the authors' own Lean function (tested against real Go, not proved from fmt's source: count such statements apart). THE CARD IS WHAT COUNTS. Prove the row's statement (the work); the ties are given (YtlodbkjjkhpbaaaDoorTie.lean); close each card by the builder's one call (the guide's Derived/Test/ToyasCard.lean, 'card_holds'). Laid BY PROGRAM, IN A SANDBOX (cutbox-door.mjs). By AI agents, Wed Nov 11 2026. No macro, syntax, notation, axiom, sorry.
-/
import Derived.Test.YtlodbkjjkhpbaaaDoorRows
import GoSem.ClaimSeven
namespace Go.Proofs.YtlodbkjjkhpbaaaDoor
namespace Rows

/-- THE TIED CARD OF 'inquestlaw20.EntryLines'. -/
def entryLinesCard : Claim7 := { stood := { row := entryLinesRow, standIns := [], harness := (true, "0f239cc46a8896d9c38d20206544b51c4798d4705ef2cd73e8fbefff6d66b4bb"), looks := false }, kinds := [], alts := [], laidByText := true, laidKinds := [.data, .data, .data], laidTests := true, laidLooks := .later }
def EntryLinesCardSaid : Prop := Claim7.holds Tryd.pinned (.plain (OpenSpec.ofChange entryLinesSpec)) entryLinesCard

/-- THE SECOND FORM's CARD OF 'inquestlaw20.EntryLines'. -/
def entryLinesUptoCard : Claim7 := { stood := { row := entryLinesUptoRow, standIns := [], harness := (true, "0f239cc46a8896d9c38d20206544b51c4798d4705ef2cd73e8fbefff6d66b4bb"), looks := false }, kinds := [], alts := [], laidByText := true, laidKinds := [.data, .data, .data], laidTests := true, laidLooks := .later }
def EntryLinesUptoCardSaid : Prop := Claim7.holds Tryd.pinned (.plain (OpenSpec.upto entryLinesSpec)) entryLinesUptoCard
end Rows
end Go.Proofs.YtlodbkjjkhpbaaaDoor
