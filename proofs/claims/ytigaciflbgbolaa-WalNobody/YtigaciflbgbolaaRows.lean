/-
  No cell of these rows narrows 'for every input' (looked for: loops, veiled, ifaces, maps, wideKeys, modest, calm, conditions, laid).
  DERIVED. THE GIVEN ROWS OF THIS SEAT. 6 by the template 'for every input the law returns true; each argument reads behind the call as it read before'; 0 by the template 'total and deterministic' (their statements: YtigaciflbgbolaaTotals.lean).
  GIVEN WITH THE SEED: the statements are not yours to turn. If you find one false, say at which input.
  Laid BY PROGRAM, IN A SANDBOX (cutbox-rows.mjs): the forced cells as the released guide's own fill.sh prints them over the translation 210d8a09c6a84419… (all of the seat's roots in one cut). By AI agents, Wed Nov 11 2026. No macro, syntax, notation, axiom, sorry.
-/
import Derived.Test.YtigaciflbgbolaaChecked
import GoSem.Claim
import GoSem.ClaimJoined
import GoSem.ClaimMapViews
import Derived.JoinedTies
import Derived.KernelRfl
namespace Go.Proofs.Ytigaciflbgbolaa
/- THE CELL 'sum', in the pinned program and in every row, IS THE sha256 OF THE DUMP (.gsa) THAT YtigaciflbgbolaaProg.lean LOADS. Nothing in Lean hashes anything: it is a label: what it is worth is what the hold of that sum in a sandbox is worth. -/
noncomputable def Try.pinned : Pinned := { name := "ytigaciflbgbolaa", sum := "210d8a09c6a8441933cb255e4d487c41c1d0ddccbd77b1de93f8d208b0273a48", checked := Try.checked }
namespace Rows
def none {H : Type} : Left H := { results := [], args := [] }

/-- 'inquestlaw10.WalPlays': WHATEVER THE INPUT: true; the input reads as it did. -/
def walPlaysSpec : ChangeSpec := { name := "walPlays", fn := fun _ => fun
  | [d1, d2] => { results := [.lit (.bool true)], args := [d1, d2] }
  | _ => none }
def walPlaysRow : OpenClaim := { program := "ytigaciflbgbolaa", sum := "210d8a09c6a8441933cb255e4d487c41c1d0ddccbd77b1de93f8d208b0273a48", func := "inquest/inquestlaw10.WalPlays", spec := "walPlays", apart := false }
def WalPlaysSaid : Prop := walPlaysRow.holds Try.pinned (OpenSpec.ofChange walPlaysSpec)

/-- ITS FALSE NEIGHBOUR: 'it returns false'. Refute it at one input. -/
def walPlaysWrong : ChangeSpec := { name := "walPlays", fn := fun _ => fun
  | [d1, d2] => { results := [.lit (.bool false)], args := [d1, d2] }
  | _ => none }
def WalPlaysWrongFalsely : Prop := walPlaysRow.holds Try.pinned (OpenSpec.ofChange walPlaysWrong)

/-- 'inquestlaw10.WalKept': WHATEVER THE INPUT: true; the input reads as it did. -/
def walKeptSpec : ChangeSpec := { name := "walKept", fn := fun _ => fun
  | [d1, d2] => { results := [.lit (.bool true)], args := [d1, d2] }
  | _ => none }
def walKeptRow : OpenClaim := { program := "ytigaciflbgbolaa", sum := "210d8a09c6a8441933cb255e4d487c41c1d0ddccbd77b1de93f8d208b0273a48", func := "inquest/inquestlaw10.WalKept", spec := "walKept", apart := false }
def WalKeptSaid : Prop := walKeptRow.holds Try.pinned (OpenSpec.ofChange walKeptSpec)

/-- ITS FALSE NEIGHBOUR: 'it returns false'. Refute it at one input. -/
def walKeptWrong : ChangeSpec := { name := "walKept", fn := fun _ => fun
  | [d1, d2] => { results := [.lit (.bool false)], args := [d1, d2] }
  | _ => none }
def WalKeptWrongFalsely : Prop := walKeptRow.holds Try.pinned (OpenSpec.ofChange walKeptWrong)

/-- 'inquestlaw10.WalAgain': WHATEVER THE INPUT: true; the input reads as it did. -/
def walAgainSpec : ChangeSpec := { name := "walAgain", fn := fun _ => fun
  | [d1, d2] => { results := [.lit (.bool true)], args := [d1, d2] }
  | _ => none }
def walAgainRow : OpenClaim := { program := "ytigaciflbgbolaa", sum := "210d8a09c6a8441933cb255e4d487c41c1d0ddccbd77b1de93f8d208b0273a48", func := "inquest/inquestlaw10.WalAgain", spec := "walAgain", apart := false }
def WalAgainSaid : Prop := walAgainRow.holds Try.pinned (OpenSpec.ofChange walAgainSpec)

/-- ITS FALSE NEIGHBOUR: 'it returns false'. Refute it at one input. -/
def walAgainWrong : ChangeSpec := { name := "walAgain", fn := fun _ => fun
  | [d1, d2] => { results := [.lit (.bool false)], args := [d1, d2] }
  | _ => none }
def WalAgainWrongFalsely : Prop := walAgainRow.holds Try.pinned (OpenSpec.ofChange walAgainWrong)

/-- 'inquestlaw10.WalHalts': WHATEVER THE INPUT: true; the input reads as it did. -/
def walHaltsSpec : ChangeSpec := { name := "walHalts", fn := fun _ => fun
  | [d1, d2, d3, d4] => { results := [.lit (.bool true)], args := [d1, d2, d3, d4] }
  | _ => none }
def walHaltsRow : OpenClaim := { program := "ytigaciflbgbolaa", sum := "210d8a09c6a8441933cb255e4d487c41c1d0ddccbd77b1de93f8d208b0273a48", func := "inquest/inquestlaw10.WalHalts", spec := "walHalts", apart := false }
def WalHaltsSaid : Prop := walHaltsRow.holds Try.pinned (OpenSpec.ofChange walHaltsSpec)

/-- ITS FALSE NEIGHBOUR: 'it returns false'. Refute it at one input. -/
def walHaltsWrong : ChangeSpec := { name := "walHalts", fn := fun _ => fun
  | [d1, d2, d3, d4] => { results := [.lit (.bool false)], args := [d1, d2, d3, d4] }
  | _ => none }
def WalHaltsWrongFalsely : Prop := walHaltsRow.holds Try.pinned (OpenSpec.ofChange walHaltsWrong)

/-- 'inquestlaw10.WalForged': WHATEVER THE INPUT: true; the input reads as it did. -/
def walForgedSpec : ChangeSpec := { name := "walForged", fn := fun _ => fun
  | [d1, d2, d3, d4] => { results := [.lit (.bool true)], args := [d1, d2, d3, d4] }
  | _ => none }
def walForgedRow : OpenClaim := { program := "ytigaciflbgbolaa", sum := "210d8a09c6a8441933cb255e4d487c41c1d0ddccbd77b1de93f8d208b0273a48", func := "inquest/inquestlaw10.WalForged", spec := "walForged", apart := false }
def WalForgedSaid : Prop := walForgedRow.holds Try.pinned (OpenSpec.ofChange walForgedSpec)

/-- ITS FALSE NEIGHBOUR: 'it returns false'. Refute it at one input. -/
def walForgedWrong : ChangeSpec := { name := "walForged", fn := fun _ => fun
  | [d1, d2, d3, d4] => { results := [.lit (.bool false)], args := [d1, d2, d3, d4] }
  | _ => none }
def WalForgedWrongFalsely : Prop := walForgedRow.holds Try.pinned (OpenSpec.ofChange walForgedWrong)

/-- 'inquestlaw10.WalNobody': WHATEVER THE INPUT: true; the input reads as it did. -/
def walNobodySpec : ChangeSpec := { name := "walNobody", fn := fun _ => fun
  | [d] => { results := [.lit (.bool true)], args := [d] }
  | _ => none }
def walNobodyRow : OpenClaim := { program := "ytigaciflbgbolaa", sum := "210d8a09c6a8441933cb255e4d487c41c1d0ddccbd77b1de93f8d208b0273a48", func := "inquest/inquestlaw10.WalNobody", spec := "walNobody", apart := false }
def WalNobodySaid : Prop := walNobodyRow.holds Try.pinned (OpenSpec.ofChange walNobodySpec)

/-- ITS FALSE NEIGHBOUR: 'it returns false'. Refute it at one input. -/
def walNobodyWrong : ChangeSpec := { name := "walNobody", fn := fun _ => fun
  | [d] => { results := [.lit (.bool false)], args := [d] }
  | _ => none }
def WalNobodyWrongFalsely : Prop := walNobodyRow.holds Try.pinned (OpenSpec.ofChange walNobodyWrong)

/- THE SECOND FORM. 'bulk': how many values and letters a reading holds, each counted each time it is reached (what is shared counts as often as it is met; a slice's spare places count too). A statement '..UptoSaid' is the law's where the arguments, and the package variables that the reading takes, are together of bulk at most 1048576: NARROWER than '..Said'. Prove '..Said' where nothing that the law and all that it calls make is longer than what came in: it says more and counts as full. Else prove '..UptoSaid'. A law counts once. -/
mutual
def uptoBulk {H : Type} : DataW H → Nat
  | .lit (.string bytes) => bytes.length + 1
  | .lit _ => 1
  | .nil => 1
  | .ptr d => uptoBulk d + 1
  | .slice elems spare => uptoBulkAll elems + uptoBulkAll spare + 1
  | .agg parts => uptoBulkAll parts + 1
  | .iface _ d => uptoBulk d + 1
  | .map entries => uptoBulkEntries entries + 1
  | .held _ => 1
def uptoBulkAll {H : Type} : List (DataW H) → Nat
  | [] => 0
  | d :: r => uptoBulk d + uptoBulkAll r
def uptoBulkEntries {H : Type} : List (Lit × DataW H) → Nat
  | [] => 0
  | x :: r => uptoBulkEntry x + uptoBulkEntries r
def uptoBulkEntry {H : Type} : Lit × DataW H → Nat
  | (.string bytes, d) => bytes.length + uptoBulk d + 1
  | (_, d) => uptoBulk d + 1
 end
def uptoSmall : (H : Type) → List (DataW H) → Bool := fun _ ds => decide (uptoBulkAll ds ≤ 1048576)
def OpenSpec.upto (s : _root_.Go.ChangeSpec) : _root_.Go.OpenSpec := { _root_.Go.OpenSpec.ofChange s with cond := some uptoSmall }

/-- 'inquestlaw10.WalPlays', WHERE WHAT IT READS IS OF BULK AT MOST 1048576: true; the input reads as it did. -/
def walPlaysUptoRow : OpenClaim := { program := "ytigaciflbgbolaa", sum := "210d8a09c6a8441933cb255e4d487c41c1d0ddccbd77b1de93f8d208b0273a48", func := "inquest/inquestlaw10.WalPlays", spec := "walPlays", apart := false, narrowed := true }
def WalPlaysUptoSaid : Prop := walPlaysUptoRow.holds Try.pinned (OpenSpec.upto walPlaysSpec)

/-- 'inquestlaw10.WalKept', WHERE WHAT IT READS IS OF BULK AT MOST 1048576: true; the input reads as it did. -/
def walKeptUptoRow : OpenClaim := { program := "ytigaciflbgbolaa", sum := "210d8a09c6a8441933cb255e4d487c41c1d0ddccbd77b1de93f8d208b0273a48", func := "inquest/inquestlaw10.WalKept", spec := "walKept", apart := false, narrowed := true }
def WalKeptUptoSaid : Prop := walKeptUptoRow.holds Try.pinned (OpenSpec.upto walKeptSpec)

/-- 'inquestlaw10.WalAgain', WHERE WHAT IT READS IS OF BULK AT MOST 1048576: true; the input reads as it did. -/
def walAgainUptoRow : OpenClaim := { program := "ytigaciflbgbolaa", sum := "210d8a09c6a8441933cb255e4d487c41c1d0ddccbd77b1de93f8d208b0273a48", func := "inquest/inquestlaw10.WalAgain", spec := "walAgain", apart := false, narrowed := true }
def WalAgainUptoSaid : Prop := walAgainUptoRow.holds Try.pinned (OpenSpec.upto walAgainSpec)

/-- 'inquestlaw10.WalHalts', WHERE WHAT IT READS IS OF BULK AT MOST 1048576: true; the input reads as it did. -/
def walHaltsUptoRow : OpenClaim := { program := "ytigaciflbgbolaa", sum := "210d8a09c6a8441933cb255e4d487c41c1d0ddccbd77b1de93f8d208b0273a48", func := "inquest/inquestlaw10.WalHalts", spec := "walHalts", apart := false, narrowed := true }
def WalHaltsUptoSaid : Prop := walHaltsUptoRow.holds Try.pinned (OpenSpec.upto walHaltsSpec)

/-- 'inquestlaw10.WalForged', WHERE WHAT IT READS IS OF BULK AT MOST 1048576: true; the input reads as it did. -/
def walForgedUptoRow : OpenClaim := { program := "ytigaciflbgbolaa", sum := "210d8a09c6a8441933cb255e4d487c41c1d0ddccbd77b1de93f8d208b0273a48", func := "inquest/inquestlaw10.WalForged", spec := "walForged", apart := false, narrowed := true }
def WalForgedUptoSaid : Prop := walForgedUptoRow.holds Try.pinned (OpenSpec.upto walForgedSpec)

/-- 'inquestlaw10.WalNobody', WHERE WHAT IT READS IS OF BULK AT MOST 1048576: true; the input reads as it did. -/
def walNobodyUptoRow : OpenClaim := { program := "ytigaciflbgbolaa", sum := "210d8a09c6a8441933cb255e4d487c41c1d0ddccbd77b1de93f8d208b0273a48", func := "inquest/inquestlaw10.WalNobody", spec := "walNobody", apart := false, narrowed := true }
def WalNobodyUptoSaid : Prop := walNobodyUptoRow.holds Try.pinned (OpenSpec.upto walNobodySpec)

end Rows
end Go.Proofs.Ytigaciflbgbolaa
