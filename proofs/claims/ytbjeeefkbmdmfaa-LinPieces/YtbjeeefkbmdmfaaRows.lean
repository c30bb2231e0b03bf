/-
  No cell of these rows narrows 'for every input' (looked for: loops, veiled, ifaces, maps, wideKeys, modest, calm, conditions, laid).
  DERIVED. THE GIVEN ROWS OF THIS SEAT. 6 by the template 'for every input the law returns true; each argument reads behind the call as it read before'; 0 by the template 'total and deterministic' (their statements: YtbjeeefkbmdmfaaTotals.lean).
  GIVEN WITH THE SEED: the statements are not yours to turn. If you find one false, say at which input.
  Laid BY PROGRAM, IN A SANDBOX (cutbox-rows.mjs): the forced cells as the released guide's own fill.sh prints them over the translation 5957381a96fea6e6… (all of the seat's roots in one cut). By AI agents, Wed Nov 11 2026. No macro, syntax, notation, axiom, sorry.
-/
import Derived.Test.YtbjeeefkbmdmfaaChecked
import GoSem.Claim
import GoSem.ClaimJoined
import GoSem.ClaimMapViews
import Derived.JoinedTies
import Derived.KernelRfl
namespace Go.Proofs.Ytbjeeefkbmdmfaa
/- THE CELL 'sum', in the pinned program and in every row, IS THE sha256 OF THE DUMP (.gsa) THAT YtbjeeefkbmdmfaaProg.lean LOADS. Nothing in Lean hashes anything: it is a label: what it is worth is what the hold of that sum in a sandbox is worth. -/
noncomputable def Try.pinned : Pinned := { name := "ytbjeeefkbmdmfaa", sum := "5957381a96fea6e62103be894d5d3db0819512fd35023d33036fd8be2f50acde", checked := Try.checked }
namespace Rows
def none {H : Type} : Left H := { results := [], args := [] }

/-- 'inquestlaw18.LinTells': WHATEVER THE INPUT: true; the input reads as it did. -/
def linTellsSpec : ChangeSpec := { name := "linTells", fn := fun _ => fun
  | [d1, d2, d3, d4] => { results := [.lit (.bool true)], args := [d1, d2, d3, d4] }
  | _ => none }
def linTellsRow : OpenClaim := { program := "ytbjeeefkbmdmfaa", sum := "5957381a96fea6e62103be894d5d3db0819512fd35023d33036fd8be2f50acde", func := "inquest/inquestlaw18.LinTells", spec := "linTells", unfollowed := true, recurses := true, plainKeys := false, apart := false }
def LinTellsSaid : Prop := linTellsRow.holds Try.pinned (OpenSpec.ofChange linTellsSpec)

/-- ITS FALSE NEIGHBOUR: 'it returns false'. Refute it at one input. -/
def linTellsWrong : ChangeSpec := { name := "linTells", fn := fun _ => fun
  | [d1, d2, d3, d4] => { results := [.lit (.bool false)], args := [d1, d2, d3, d4] }
  | _ => none }
def LinTellsWrongFalsely : Prop := linTellsRow.holds Try.pinned (OpenSpec.ofChange linTellsWrong)

/-- 'inquestlaw18.LinPieces': WHATEVER THE INPUT: true; the input reads as it did. -/
def linPiecesSpec : ChangeSpec := { name := "linPieces", fn := fun _ => fun
  | [d1, d2, d3, d4, d5] => { results := [.lit (.bool true)], args := [d1, d2, d3, d4, d5] }
  | _ => none }
def linPiecesRow : OpenClaim := { program := "ytbjeeefkbmdmfaa", sum := "5957381a96fea6e62103be894d5d3db0819512fd35023d33036fd8be2f50acde", func := "inquest/inquestlaw18.LinPieces", spec := "linPieces", unfollowed := true, recurses := true, plainKeys := false, apart := false }
def LinPiecesSaid : Prop := linPiecesRow.holds Try.pinned (OpenSpec.ofChange linPiecesSpec)

/-- ITS FALSE NEIGHBOUR: 'it returns false'. Refute it at one input. -/
def linPiecesWrong : ChangeSpec := { name := "linPieces", fn := fun _ => fun
  | [d1, d2, d3, d4, d5] => { results := [.lit (.bool false)], args := [d1, d2, d3, d4, d5] }
  | _ => none }
def LinPiecesWrongFalsely : Prop := linPiecesRow.holds Try.pinned (OpenSpec.ofChange linPiecesWrong)

/-- 'inquestlaw18.LinSound': WHATEVER THE INPUT: true; the input reads as it did. -/
def linSoundSpec : ChangeSpec := { name := "linSound", fn := fun _ => fun
  | [d1, d2, d3, d4] => { results := [.lit (.bool true)], args := [d1, d2, d3, d4] }
  | _ => none }
def linSoundRow : OpenClaim := { program := "ytbjeeefkbmdmfaa", sum := "5957381a96fea6e62103be894d5d3db0819512fd35023d33036fd8be2f50acde", func := "inquest/inquestlaw18.LinSound", spec := "linSound", unfollowed := true, recurses := true, plainKeys := false, apart := false }
def LinSoundSaid : Prop := linSoundRow.holds Try.pinned (OpenSpec.ofChange linSoundSpec)

/-- ITS FALSE NEIGHBOUR: 'it returns false'. Refute it at one input. -/
def linSoundWrong : ChangeSpec := { name := "linSound", fn := fun _ => fun
  | [d1, d2, d3, d4] => { results := [.lit (.bool false)], args := [d1, d2, d3, d4] }
  | _ => none }
def LinSoundWrongFalsely : Prop := linSoundRow.holds Try.pinned (OpenSpec.ofChange linSoundWrong)

/-- 'inquestlaw18.LinWhole': WHATEVER THE INPUT: true; the input reads as it did. -/
def linWholeSpec : ChangeSpec := { name := "linWhole", fn := fun _ => fun
  | [d1, d2, d3] => { results := [.lit (.bool true)], args := [d1, d2, d3] }
  | _ => none }
def linWholeRow : OpenClaim := { program := "ytbjeeefkbmdmfaa", sum := "5957381a96fea6e62103be894d5d3db0819512fd35023d33036fd8be2f50acde", func := "inquest/inquestlaw18.LinWhole", spec := "linWhole", unfollowed := true, recurses := true, plainKeys := false, apart := false }
def LinWholeSaid : Prop := linWholeRow.holds Try.pinned (OpenSpec.ofChange linWholeSpec)

/-- ITS FALSE NEIGHBOUR: 'it returns false'. Refute it at one input. -/
def linWholeWrong : ChangeSpec := { name := "linWhole", fn := fun _ => fun
  | [d1, d2, d3] => { results := [.lit (.bool false)], args := [d1, d2, d3] }
  | _ => none }
def LinWholeWrongFalsely : Prop := linWholeRow.holds Try.pinned (OpenSpec.ofChange linWholeWrong)

/-- 'inquestlaw18.LinBudget': WHATEVER THE INPUT: true; the input reads as it did. -/
def linBudgetSpec : ChangeSpec := { name := "linBudget", fn := fun _ => fun
  | [d1, d2, d3, d4] => { results := [.lit (.bool true)], args := [d1, d2, d3, d4] }
  | _ => none }
def linBudgetRow : OpenClaim := { program := "ytbjeeefkbmdmfaa", sum := "5957381a96fea6e62103be894d5d3db0819512fd35023d33036fd8be2f50acde", func := "inquest/inquestlaw18.LinBudget", spec := "linBudget", unfollowed := true, recurses := true, plainKeys := false, apart := false }
def LinBudgetSaid : Prop := linBudgetRow.holds Try.pinned (OpenSpec.ofChange linBudgetSpec)

/-- ITS FALSE NEIGHBOUR: 'it returns false'. Refute it at one input. -/
def linBudgetWrong : ChangeSpec := { name := "linBudget", fn := fun _ => fun
  | [d1, d2, d3, d4] => { results := [.lit (.bool false)], args := [d1, d2, d3, d4] }
  | _ => none }
def LinBudgetWrongFalsely : Prop := linBudgetRow.holds Try.pinned (OpenSpec.ofChange linBudgetWrong)

/-- 'inquestlaw18.LinEnough': WHATEVER THE INPUT: true; the input reads as it did. -/
def linEnoughSpec : ChangeSpec := { name := "linEnough", fn := fun _ => fun
  | [d] => { results := [.lit (.bool true)], args := [d] }
  | _ => none }
def linEnoughRow : OpenClaim := { program := "ytbjeeefkbmdmfaa", sum := "5957381a96fea6e62103be894d5d3db0819512fd35023d33036fd8be2f50acde", func := "inquest/inquestlaw18.LinEnough", spec := "linEnough", unfollowed := true, recurses := true, plainKeys := false, apart := false }
def LinEnoughSaid : Prop := linEnoughRow.holds Try.pinned (OpenSpec.ofChange linEnoughSpec)

/-- ITS FALSE NEIGHBOUR: 'it returns false'. Refute it at one input. -/
def linEnoughWrong : ChangeSpec := { name := "linEnough", fn := fun _ => fun
  | [d] => { results := [.lit (.bool false)], args := [d] }
  | _ => none }
def LinEnoughWrongFalsely : Prop := linEnoughRow.holds Try.pinned (OpenSpec.ofChange linEnoughWrong)

/- THE SECOND FORM. 'bulk': how many values and letters a reading holds, each counted each time it is reached (what is shared counts as often as it is met; a slice's spare places count too). A statement '..UptoSaid' is the law's where the arguments, and the package variables that the reading takes, are together of bulk at most 1048576: NARROWER than '..Said'. Prove '..Said' where nothing that the law and all that it calls make is longer than what came in: it says more and counts as full. Else prove '..UptoSaid'. A law counts once. -/
mutual
def uptoBulk {H : Type} : DataW H → Nat
  | .lit (.string bytes) => bytes.length + 1
  | .lit _ => 1
  | .nil => 1
  | .ptr d => uptoBulk d + 1
  | .slice elems spare => uptoBulkAll elems + uptoBulkAll spare + 1
  | .agg parts => uptoBulkAll parts + 1
  | .iface _ d => uptoBulk d + 1
  | .map entries => uptoBulkEntries entries + 1
  | .held _ => 1
def uptoBulkAll {H : Type} : List (DataW H) → Nat
  | [] => 0
  | d :: r => uptoBulk d + uptoBulkAll r
def uptoBulkEntries {H : Type} : List (Lit × DataW H) → Nat
  | [] => 0
  | x :: r => uptoBulkEntry x + uptoBulkEntries r
def uptoBulkEntry {H : Type} : Lit × DataW H → Nat
  | (.string bytes, d) => bytes.length + uptoBulk d + 1
  | (_, d) => uptoBulk d + 1
 end
def uptoSmall : (H : Type) → List (DataW H) → Bool := fun _ ds => decide (uptoBulkAll ds ≤ 1048576)
def OpenSpec.upto (s : _root_.Go.ChangeSpec) : _root_.Go.OpenSpec := { _root_.Go.OpenSpec.ofChange s with cond := some uptoSmall }

/-- 'inquestlaw18.LinTells', WHERE WHAT IT READS IS OF BULK AT MOST 1048576: true; the input reads as it did. -/
def linTellsUptoRow : OpenClaim := { program := "ytbjeeefkbmdmfaa", sum := "5957381a96fea6e62103be894d5d3db0819512fd35023d33036fd8be2f50acde", func := "inquest/inquestlaw18.LinTells", spec := "linTells", unfollowed := true, recurses := true, plainKeys := false, apart := false, narrowed := true }
def LinTellsUptoSaid : Prop := linTellsUptoRow.holds Try.pinned (OpenSpec.upto linTellsSpec)

/-- 'inquestlaw18.LinPieces', WHERE WHAT IT READS IS OF BULK AT MOST 1048576: true; the input reads as it did. -/
def linPiecesUptoRow : OpenClaim := { program := "ytbjeeefkbmdmfaa", sum := "5957381a96fea6e62103be894d5d3db0819512fd35023d33036fd8be2f50acde", func := "inquest/inquestlaw18.LinPieces", spec := "linPieces", unfollowed := true, recurses := true, plainKeys := false, apart := false, narrowed := true }
def LinPiecesUptoSaid : Prop := linPiecesUptoRow.holds Try.pinned (OpenSpec.upto linPiecesSpec)

/-- 'inquestlaw18.LinSound', WHERE WHAT IT READS IS OF BULK AT MOST 1048576: true; the input reads as it did. -/
def linSoundUptoRow : OpenClaim := { program := "ytbjeeefkbmdmfaa", sum := "5957381a96fea6e62103be894d5d3db0819512fd35023d33036fd8be2f50acde", func := "inquest/inquestlaw18.LinSound", spec := "linSound", unfollowed := true, recurses := true, plainKeys := false, apart := false, narrowed := true }
def LinSoundUptoSaid : Prop := linSoundUptoRow.holds Try.pinned (OpenSpec.upto linSoundSpec)

/-- 'inquestlaw18.LinWhole', WHERE WHAT IT READS IS OF BULK AT MOST 1048576: true; the input reads as it did. -/
def linWholeUptoRow : OpenClaim := { program := "ytbjeeefkbmdmfaa", sum := "5957381a96fea6e62103be894d5d3db0819512fd35023d33036fd8be2f50acde", func := "inquest/inquestlaw18.LinWhole", spec := "linWhole", unfollowed := true, recurses := true, plainKeys := false, apart := false, narrowed := true }
def LinWholeUptoSaid : Prop := linWholeUptoRow.holds Try.pinned (OpenSpec.upto linWholeSpec)

/-- 'inquestlaw18.LinBudget', WHERE WHAT IT READS IS OF BULK AT MOST 1048576: true; the input reads as it did. -/
def linBudgetUptoRow : OpenClaim := { program := "ytbjeeefkbmdmfaa", sum := "5957381a96fea6e62103be894d5d3db0819512fd35023d33036fd8be2f50acde", func := "inquest/inquestlaw18.LinBudget", spec := "linBudget", unfollowed := true, recurses := true, plainKeys := false, apart := false, narrowed := true }
def LinBudgetUptoSaid : Prop := linBudgetUptoRow.holds Try.pinned (OpenSpec.upto linBudgetSpec)

/-- 'inquestlaw18.LinEnough', WHERE WHAT IT READS IS OF BULK AT MOST 1048576: true; the input reads as it did. -/
def linEnoughUptoRow : OpenClaim := { program := "ytbjeeefkbmdmfaa", sum := "5957381a96fea6e62103be894d5d3db0819512fd35023d33036fd8be2f50acde", func := "inquest/inquestlaw18.LinEnough", spec := "linEnough", unfollowed := true, recurses := true, plainKeys := false, apart := false, narrowed := true }
def LinEnoughUptoSaid : Prop := linEnoughUptoRow.holds Try.pinned (OpenSpec.upto linEnoughSpec)

end Rows
end Go.Proofs.Ytbjeeefkbmdmfaa
