/-
  No cell of these rows narrows 'for every input' (looked for: loops, veiled, ifaces, maps, wideKeys, modest, calm, conditions, laid).
  DERIVED. THE GIVEN ROWS OF THIS SEAT. 4 by the template 'for every input the law returns true; each argument reads behind the call as it read before'; 0 by the template 'total and deterministic' (their statements: YtckgplemdmgekaaTotals.lean).
  GIVEN WITH THE SEED: the statements are not yours to turn. If you find one false, say at which input.
  Laid BY PROGRAM, IN A SANDBOX (cutbox-rows.mjs): the forced cells as the released guide's own fill.sh prints them over the translation 3b5aed3adeaf5275… (all of the seat's roots in one cut). By AI agents, Wed Nov 11 2026. No macro, syntax, notation, axiom, sorry.
-/
import Derived.Test.YtckgplemdmgekaaChecked
import GoSem.Claim
import GoSem.ClaimJoined
import GoSem.ClaimMapViews
import Derived.JoinedTies
import Derived.KernelRfl
namespace Go.Proofs.Ytckgplemdmgekaa
/- THE CELL 'sum', in the pinned program and in every row, IS THE sha256 OF THE DUMP (.gsa) THAT YtckgplemdmgekaaProg.lean LOADS. Nothing in Lean hashes anything: it is a label: what it is worth is what the hold of that sum in a sandbox is worth. -/
noncomputable def Try.pinned : Pinned := { name := "ytckgplemdmgekaa", sum := "3b5aed3adeaf52757031de8fda48f2ed2aa0720ad3b17cd85c4a8cf58b841b02", checked := Try.checked }
namespace Rows
def none {H : Type} : Left H := { results := [], args := [] }

/-- 'inquestlaw17.OrderChecks': WHATEVER THE INPUT: true; the input reads as it did. -/
def orderChecksSpec : ChangeSpec := { name := "orderChecks", fn := fun _ => fun
  | [d1, d2, d3, d4] => { results := [.lit (.bool true)], args := [d1, d2, d3, d4] }
  | _ => none }
def orderChecksRow : OpenClaim := { program := "ytckgplemdmgekaa", sum := "3b5aed3adeaf52757031de8fda48f2ed2aa0720ad3b17cd85c4a8cf58b841b02", func := "inquest/inquestlaw17.OrderChecks", spec := "orderChecks", unfollowed := true, recurses := true, apart := false }
def OrderChecksSaid : Prop := orderChecksRow.holds Try.pinned (OpenSpec.ofChange orderChecksSpec)

/-- ITS FALSE NEIGHBOUR: 'it returns false'. Refute it at one input. -/
def orderChecksWrong : ChangeSpec := { name := "orderChecks", fn := fun _ => fun
  | [d1, d2, d3, d4] => { results := [.lit (.bool false)], args := [d1, d2, d3, d4] }
  | _ => none }
def OrderChecksWrongFalsely : Prop := orderChecksRow.holds Try.pinned (OpenSpec.ofChange orderChecksWrong)

/-- 'inquestlaw17.OrderMeans': WHATEVER THE INPUT: true; the input reads as it did. -/
def orderMeansSpec : ChangeSpec := { name := "orderMeans", fn := fun _ => fun
  | [d1, d2, d3, d4] => { results := [.lit (.bool true)], args := [d1, d2, d3, d4] }
  | _ => none }
def orderMeansRow : OpenClaim := { program := "ytckgplemdmgekaa", sum := "3b5aed3adeaf52757031de8fda48f2ed2aa0720ad3b17cd85c4a8cf58b841b02", func := "inquest/inquestlaw17.OrderMeans", spec := "orderMeans", unfollowed := true, recurses := true, apart := false }
def OrderMeansSaid : Prop := orderMeansRow.holds Try.pinned (OpenSpec.ofChange orderMeansSpec)

/-- ITS FALSE NEIGHBOUR: 'it returns false'. Refute it at one input. -/
def orderMeansWrong : ChangeSpec := { name := "orderMeans", fn := fun _ => fun
  | [d1, d2, d3, d4] => { results := [.lit (.bool false)], args := [d1, d2, d3, d4] }
  | _ => none }
def OrderMeansWrongFalsely : Prop := orderMeansRow.holds Try.pinned (OpenSpec.ofChange orderMeansWrong)

/-- 'inquestlaw17.OrderFuel': WHATEVER THE INPUT: true; the input reads as it did. -/
def orderFuelSpec : ChangeSpec := { name := "orderFuel", fn := fun _ => fun
  | [d1, d2, d3, d4, d5] => { results := [.lit (.bool true)], args := [d1, d2, d3, d4, d5] }
  | _ => none }
def orderFuelRow : OpenClaim := { program := "ytckgplemdmgekaa", sum := "3b5aed3adeaf52757031de8fda48f2ed2aa0720ad3b17cd85c4a8cf58b841b02", func := "inquest/inquestlaw17.OrderFuel", spec := "orderFuel", unfollowed := true, recurses := true, apart := false }
def OrderFuelSaid : Prop := orderFuelRow.holds Try.pinned (OpenSpec.ofChange orderFuelSpec)

/-- ITS FALSE NEIGHBOUR: 'it returns false'. Refute it at one input. -/
def orderFuelWrong : ChangeSpec := { name := "orderFuel", fn := fun _ => fun
  | [d1, d2, d3, d4, d5] => { results := [.lit (.bool false)], args := [d1, d2, d3, d4, d5] }
  | _ => none }
def OrderFuelWrongFalsely : Prop := orderFuelRow.holds Try.pinned (OpenSpec.ofChange orderFuelWrong)

/-- 'inquestlaw17.OrderSwaps': WHATEVER THE INPUT: true; the input reads as it did. -/
def orderSwapsSpec : ChangeSpec := { name := "orderSwaps", fn := fun _ => fun
  | [d1, d2, d3, d4, d5] => { results := [.lit (.bool true)], args := [d1, d2, d3, d4, d5] }
  | _ => none }
def orderSwapsRow : OpenClaim := { program := "ytckgplemdmgekaa", sum := "3b5aed3adeaf52757031de8fda48f2ed2aa0720ad3b17cd85c4a8cf58b841b02", func := "inquest/inquestlaw17.OrderSwaps", spec := "orderSwaps", unfollowed := true, recurses := true, apart := false }
def OrderSwapsSaid : Prop := orderSwapsRow.holds Try.pinned (OpenSpec.ofChange orderSwapsSpec)

/-- ITS FALSE NEIGHBOUR: 'it returns false'. Refute it at one input. -/
def orderSwapsWrong : ChangeSpec := { name := "orderSwaps", fn := fun _ => fun
  | [d1, d2, d3, d4, d5] => { results := [.lit (.bool false)], args := [d1, d2, d3, d4, d5] }
  | _ => none }
def OrderSwapsWrongFalsely : Prop := orderSwapsRow.holds Try.pinned (OpenSpec.ofChange orderSwapsWrong)

/- THE SECOND FORM. 'bulk': how many values and letters a reading holds, each counted each time it is reached (what is shared counts as often as it is met; a slice's spare places count too). A statement '..UptoSaid' is the law's where the arguments, and the package variables that the reading takes, are together of bulk at most 1048576: NARROWER than '..Said'. Prove '..Said' where nothing that the law and all that it calls make is longer than what came in: it says more and counts as full. Else prove '..UptoSaid'. A law counts once. -/
mutual
def uptoBulk {H : Type} : DataW H → Nat
  | .lit (.string bytes) => bytes.length + 1
  | .lit _ => 1
  | .nil => 1
  | .ptr d => uptoBulk d + 1
  | .slice elems spare => uptoBulkAll elems + uptoBulkAll spare + 1
  | .agg parts => uptoBulkAll parts + 1
  | .iface _ d => uptoBulk d + 1
  | .map entries => uptoBulkEntries entries + 1
  | .held _ => 1
def uptoBulkAll {H : Type} : List (DataW H) → Nat
  | [] => 0
  | d :: r => uptoBulk d + uptoBulkAll r
def uptoBulkEntries {H : Type} : List (Lit × DataW H) → Nat
  | [] => 0
  | x :: r => uptoBulkEntry x + uptoBulkEntries r
def uptoBulkEntry {H : Type} : Lit × DataW H → Nat
  | (.string bytes, d) => bytes.length + uptoBulk d + 1
  | (_, d) => uptoBulk d + 1
 end
def uptoSmall : (H : Type) → List (DataW H) → Bool := fun _ ds => decide (uptoBulkAll ds ≤ 1048576)
def OpenSpec.upto (s : _root_.Go.ChangeSpec) : _root_.Go.OpenSpec := { _root_.Go.OpenSpec.ofChange s with cond := some uptoSmall }

/-- 'inquestlaw17.OrderChecks', WHERE WHAT IT READS IS OF BULK AT MOST 1048576: true; the input reads as it did. -/
def orderChecksUptoRow : OpenClaim := { program := "ytckgplemdmgekaa", sum := "3b5aed3adeaf52757031de8fda48f2ed2aa0720ad3b17cd85c4a8cf58b841b02", func := "inquest/inquestlaw17.OrderChecks", spec := "orderChecks", unfollowed := true, recurses := true, apart := false, narrowed := true }
def OrderChecksUptoSaid : Prop := orderChecksUptoRow.holds Try.pinned (OpenSpec.upto orderChecksSpec)

/-- 'inquestlaw17.OrderMeans', WHERE WHAT IT READS IS OF BULK AT MOST 1048576: true; the input reads as it did. -/
def orderMeansUptoRow : OpenClaim := { program := "ytckgplemdmgekaa", sum := "3b5aed3adeaf52757031de8fda48f2ed2aa0720ad3b17cd85c4a8cf58b841b02", func := "inquest/inquestlaw17.OrderMeans", spec := "orderMeans", unfollowed := true, recurses := true, apart := false, narrowed := true }
def OrderMeansUptoSaid : Prop := orderMeansUptoRow.holds Try.pinned (OpenSpec.upto orderMeansSpec)

/-- 'inquestlaw17.OrderFuel', WHERE WHAT IT READS IS OF BULK AT MOST 1048576: true; the input reads as it did. -/
def orderFuelUptoRow : OpenClaim := { program := "ytckgplemdmgekaa", sum := "3b5aed3adeaf52757031de8fda48f2ed2aa0720ad3b17cd85c4a8cf58b841b02", func := "inquest/inquestlaw17.OrderFuel", spec := "orderFuel", unfollowed := true, recurses := true, apart := false, narrowed := true }
def OrderFuelUptoSaid : Prop := orderFuelUptoRow.holds Try.pinned (OpenSpec.upto orderFuelSpec)

/-- 'inquestlaw17.OrderSwaps', WHERE WHAT IT READS IS OF BULK AT MOST 1048576: true; the input reads as it did. -/
def orderSwapsUptoRow : OpenClaim := { program := "ytckgplemdmgekaa", sum := "3b5aed3adeaf52757031de8fda48f2ed2aa0720ad3b17cd85c4a8cf58b841b02", func := "inquest/inquestlaw17.OrderSwaps", spec := "orderSwaps", unfollowed := true, recurses := true, apart := false, narrowed := true }
def OrderSwapsUptoSaid : Prop := orderSwapsUptoRow.holds Try.pinned (OpenSpec.upto orderSwapsSpec)

end Rows
end Go.Proofs.Ytckgplemdmgekaa
