/-
  NARROWER THAN 'FOR EVERY INPUT', by the rows' own cells (each row's printed sentence says how): ClashIs: laid · ClashPaths: laid · ClashGrowths: laid · ClashNone: laid · ClashFew: laid.
  DERIVED. THE GIVEN ROWS OF THIS SEAT. 5 by the template 'for every input the law returns true; each argument reads behind the call as it read before'; 0 by the template 'total and deterministic' (their statements: YtfkloilbjfleeaaDoorTotals.lean).
  GIVEN WITH THE SEED: the statements are not yours to turn. If you find one false, say at which input.
  Laid BY PROGRAM, IN A SANDBOX (cutbox-rows.mjs): the forced cells as the released guide's own fill.sh prints them over the translation 514245bd3100b2d3… (all of the seat's roots in one cut). By AI agents, Wed Nov 11 2026. No macro, syntax, notation, axiom, sorry.
-/
import Derived.Test.YtfkloilbjfleeaaDoorChecked
import GoSem.Claim
import GoSem.ClaimJoined
import GoSem.ClaimMapViews
import Derived.JoinedTies
import Derived.KernelRfl
namespace Go.Proofs.YtfkloilbjfleeaaDoor
/- THE CELL 'sum', in the pinned program and in every row, IS THE sha256 OF THE DUMP (.gsa) THAT YtfkloilbjfleeaaDoorProg.lean LOADS. Nothing in Lean hashes anything: it is a label: what it is worth is what the hold of that sum in a sandbox is worth. -/
noncomputable def Tryd.pinned : Pinned := { name := "ytfkloilbjfleeaadoor", sum := "514245bd3100b2d3fb3ac20c9140e4f2c6bdf021472f12cf5e0fddd477835ba5", checked := Tryd.checked }
namespace Rows
def none {H : Type} : Left H := { results := [], args := [] }

/- WHAT THE LISTED PACKAGE-LEVEL VARIABLES READ AS WHEN THE CALL BEGINS. Each datum BY PROGRAM (the guide's laid-datum.mjs) off the statement by which the dump's own 'gosem.cut.vars' lays the variable. In a bare row this is a premise. The card (YtfkloilbjfleeaaDoorCards.lean) ties it to the program's text. -/
def laid_inquest_sha_addends {H : Type} : DataW H := .agg [.lit (.int .u32 1116352408), .lit (.int .u32 1899447441), .lit (.int .u32 3049323471), .lit (.int .u32 3921009573), .lit (.int .u32 961987163), .lit (.int .u32 1508970993), .lit (.int .u32 2453635748), .lit (.int .u32 2870763221), .lit (.int .u32 3624381080), .lit (.int .u32 310598401), .lit (.int .u32 607225278), .lit (.int .u32 1426881987), .lit (.int .u32 1925078388), .lit (.int .u32 2162078206), .lit (.int .u32 2614888103), .lit (.int .u32 3248222580), .lit (.int .u32 3835390401), .lit (.int .u32 4022224774), .lit (.int .u32 264347078), .lit (.int .u32 604807628), .lit (.int .u32 770255983), .lit (.int .u32 1249150122), .lit (.int .u32 1555081692), .lit (.int .u32 1996064986), .lit (.int .u32 2554220882), .lit (.int .u32 2821834349), .lit (.int .u32 2952996808), .lit (.int .u32 3210313671), .lit (.int .u32 3336571891), .lit (.int .u32 3584528711), .lit (.int .u32 113926993), .lit (.int .u32 338241895), .lit (.int .u32 666307205), .lit (.int .u32 773529912), .lit (.int .u32 1294757372), .lit (.int .u32 1396182291), .lit (.int .u32 1695183700), .lit (.int .u32 1986661051), .lit (.int .u32 2177026350), .lit (.int .u32 2456956037), .lit (.int .u32 2730485921), .lit (.int .u32 2820302411), .lit (.int .u32 3259730800), .lit (.int .u32 3345764771), .lit (.int .u32 3516065817), .lit (.int .u32 3600352804), .lit (.int .u32 4094571909), .lit (.int .u32 275423344), .lit (.int .u32 430227734), .lit (.int .u32 506948616), .lit (.int .u32 659060556), .lit (.int .u32 883997877), .lit (.int .u32 958139571), .lit (.int .u32 1322822218), .lit (.int .u32 1537002063), .lit (.int .u32 1747873779), .lit (.int .u32 1955562222), .lit (.int .u32 2024104815), .lit (.int .u32 2227730452), .lit (.int .u32 2361852424), .lit (.int .u32 2428436474), .lit (.int .u32 2756734187), .lit (.int .u32 3204031479), .lit (.int .u32 3329325298)]

/-- 'inquestlaw07.ClashIs': WHATEVER THE INPUT: true; the input reads as it did. -/
def clashIsSpec : ChangeSpec := { name := "clashIs", fn := fun _ => fun
  | [d1, d2, d3] => { results := [.lit (.bool true)], args := [d1, d2, d3] }
  | _ => none }
def clashIsRow : OpenClaim := { program := "ytfkloilbjfleeaadoor", sum := "514245bd3100b2d3fb3ac20c9140e4f2c6bdf021472f12cf5e0fddd477835ba5", func := "inquest/inquestlaw07.ClashIs", spec := "clashIs", recurses := true, named := ["inquest/sha.addends"], apart := false, laid := [("inquest/sha.addends", laid_inquest_sha_addends)] }
def ClashIsSaid : Prop := clashIsRow.holds Tryd.pinned (OpenSpec.ofChange clashIsSpec)

/-- ITS FALSE NEIGHBOUR: 'it returns false'. Refute it at one input. -/
def clashIsWrong : ChangeSpec := { name := "clashIs", fn := fun _ => fun
  | [d1, d2, d3] => { results := [.lit (.bool false)], args := [d1, d2, d3] }
  | _ => none }
def ClashIsWrongFalsely : Prop := clashIsRow.holds Tryd.pinned (OpenSpec.ofChange clashIsWrong)

/-- 'inquestlaw07.ClashPaths': WHATEVER THE INPUT: true; the input reads as it did. -/
def clashPathsSpec : ChangeSpec := { name := "clashPaths", fn := fun _ => fun
  | [d1, d2, d3, d4, d5] => { results := [.lit (.bool true)], args := [d1, d2, d3, d4, d5] }
  | _ => none }
def clashPathsRow : OpenClaim := { program := "ytfkloilbjfleeaadoor", sum := "514245bd3100b2d3fb3ac20c9140e4f2c6bdf021472f12cf5e0fddd477835ba5", func := "inquest/inquestlaw07.ClashPaths", spec := "clashPaths", recurses := true, named := ["inquest/sha.addends"], apart := false, laid := [("inquest/sha.addends", laid_inquest_sha_addends)] }
def ClashPathsSaid : Prop := clashPathsRow.holds Tryd.pinned (OpenSpec.ofChange clashPathsSpec)

/-- ITS FALSE NEIGHBOUR: 'it returns false'. Refute it at one input. -/
def clashPathsWrong : ChangeSpec := { name := "clashPaths", fn := fun _ => fun
  | [d1, d2, d3, d4, d5] => { results := [.lit (.bool false)], args := [d1, d2, d3, d4, d5] }
  | _ => none }
def ClashPathsWrongFalsely : Prop := clashPathsRow.holds Tryd.pinned (OpenSpec.ofChange clashPathsWrong)

/-- 'inquestlaw07.ClashGrowths': WHATEVER THE INPUT: true; the input reads as it did. -/
def clashGrowthsSpec : ChangeSpec := { name := "clashGrowths", fn := fun _ => fun
  | [d1, d2, d3, d4, d5] => { results := [.lit (.bool true)], args := [d1, d2, d3, d4, d5] }
  | _ => none }
def clashGrowthsRow : OpenClaim := { program := "ytfkloilbjfleeaadoor", sum := "514245bd3100b2d3fb3ac20c9140e4f2c6bdf021472f12cf5e0fddd477835ba5", func := "inquest/inquestlaw07.ClashGrowths", spec := "clashGrowths", recurses := true, named := ["inquest/sha.addends"], apart := false, laid := [("inquest/sha.addends", laid_inquest_sha_addends)] }
def ClashGrowthsSaid : Prop := clashGrowthsRow.holds Tryd.pinned (OpenSpec.ofChange clashGrowthsSpec)

/-- ITS FALSE NEIGHBOUR: 'it returns false'. Refute it at one input. -/
def clashGrowthsWrong : ChangeSpec := { name := "clashGrowths", fn := fun _ => fun
  | [d1, d2, d3, d4, d5] => { results := [.lit (.bool false)], args := [d1, d2, d3, d4, d5] }
  | _ => none }
def ClashGrowthsWrongFalsely : Prop := clashGrowthsRow.holds Tryd.pinned (OpenSpec.ofChange clashGrowthsWrong)

/-- 'inquestlaw07.ClashNone': WHATEVER THE INPUT: true; the input reads as it did. -/
def clashNoneSpec : ChangeSpec := { name := "clashNone", fn := fun _ => fun
  | [d1, d2, d3] => { results := [.lit (.bool true)], args := [d1, d2, d3] }
  | _ => none }
def clashNoneRow : OpenClaim := { program := "ytfkloilbjfleeaadoor", sum := "514245bd3100b2d3fb3ac20c9140e4f2c6bdf021472f12cf5e0fddd477835ba5", func := "inquest/inquestlaw07.ClashNone", spec := "clashNone", recurses := true, named := ["inquest/sha.addends"], apart := false, laid := [("inquest/sha.addends", laid_inquest_sha_addends)] }
def ClashNoneSaid : Prop := clashNoneRow.holds Tryd.pinned (OpenSpec.ofChange clashNoneSpec)

/-- ITS FALSE NEIGHBOUR: 'it returns false'. Refute it at one input. -/
def clashNoneWrong : ChangeSpec := { name := "clashNone", fn := fun _ => fun
  | [d1, d2, d3] => { results := [.lit (.bool false)], args := [d1, d2, d3] }
  | _ => none }
def ClashNoneWrongFalsely : Prop := clashNoneRow.holds Tryd.pinned (OpenSpec.ofChange clashNoneWrong)

/-- 'inquestlaw07.ClashFew': WHATEVER THE INPUT: true; the input reads as it did. -/
def clashFewSpec : ChangeSpec := { name := "clashFew", fn := fun _ => fun
  | [d1, d2, d3, d4] => { results := [.lit (.bool true)], args := [d1, d2, d3, d4] }
  | _ => none }
def clashFewRow : OpenClaim := { program := "ytfkloilbjfleeaadoor", sum := "514245bd3100b2d3fb3ac20c9140e4f2c6bdf021472f12cf5e0fddd477835ba5", func := "inquest/inquestlaw07.ClashFew", spec := "clashFew", recurses := true, named := ["inquest/sha.addends"], apart := false, laid := [("inquest/sha.addends", laid_inquest_sha_addends)] }
def ClashFewSaid : Prop := clashFewRow.holds Tryd.pinned (OpenSpec.ofChange clashFewSpec)

/-- ITS FALSE NEIGHBOUR: 'it returns false'. Refute it at one input. -/
def clashFewWrong : ChangeSpec := { name := "clashFew", fn := fun _ => fun
  | [d1, d2, d3, d4] => { results := [.lit (.bool false)], args := [d1, d2, d3, d4] }
  | _ => none }
def ClashFewWrongFalsely : Prop := clashFewRow.holds Tryd.pinned (OpenSpec.ofChange clashFewWrong)

/- THE SECOND FORM. 'bulk': how many values and letters a reading holds, each counted each time it is reached (what is shared counts as often as it is met; a slice's spare places count too). A statement '..UptoSaid' is the law's where the arguments, and the package variables that the reading takes, are together of bulk at most 1048576: NARROWER than '..Said'. Prove '..Said' where nothing that the law and all that it calls make is longer than what came in: it says more and counts as full. Else prove '..UptoSaid'. A law counts once. -/
mutual
def uptoBulk {H : Type} : DataW H → Nat
  | .lit (.string bytes) => bytes.length + 1
  | .lit _ => 1
  | .nil => 1
  | .ptr d => uptoBulk d + 1
  | .slice elems spare => uptoBulkAll elems + uptoBulkAll spare + 1
  | .agg parts => uptoBulkAll parts + 1
  | .iface _ d => uptoBulk d + 1
  | .map entries => uptoBulkEntries entries + 1
  | .held _ => 1
def uptoBulkAll {H : Type} : List (DataW H) → Nat
  | [] => 0
  | d :: r => uptoBulk d + uptoBulkAll r
def uptoBulkEntries {H : Type} : List (Lit × DataW H) → Nat
  | [] => 0
  | x :: r => uptoBulkEntry x + uptoBulkEntries r
def uptoBulkEntry {H : Type} : Lit × DataW H → Nat
  | (.string bytes, d) => bytes.length + uptoBulk d + 1
  | (_, d) => uptoBulk d + 1
 end
def uptoSmall : (H : Type) → List (DataW H) → Bool := fun _ ds => decide (uptoBulkAll ds ≤ 1048576)
def OpenSpec.upto (s : _root_.Go.ChangeSpec) : _root_.Go.OpenSpec := { _root_.Go.OpenSpec.ofChange s with cond := some uptoSmall }

/-- 'inquestlaw07.ClashIs', WHERE WHAT IT READS IS OF BULK AT MOST 1048576: true; the input reads as it did. -/
def clashIsUptoRow : OpenClaim := { program := "ytfkloilbjfleeaadoor", sum := "514245bd3100b2d3fb3ac20c9140e4f2c6bdf021472f12cf5e0fddd477835ba5", func := "inquest/inquestlaw07.ClashIs", spec := "clashIs", recurses := true, named := ["inquest/sha.addends"], apart := false, laid := [("inquest/sha.addends", laid_inquest_sha_addends)], narrowed := true }
def ClashIsUptoSaid : Prop := clashIsUptoRow.holds Tryd.pinned (OpenSpec.upto clashIsSpec)

/-- 'inquestlaw07.ClashPaths', WHERE WHAT IT READS IS OF BULK AT MOST 1048576: true; the input reads as it did. -/
def clashPathsUptoRow : OpenClaim := { program := "ytfkloilbjfleeaadoor", sum := "514245bd3100b2d3fb3ac20c9140e4f2c6bdf021472f12cf5e0fddd477835ba5", func := "inquest/inquestlaw07.ClashPaths", spec := "clashPaths", recurses := true, named := ["inquest/sha.addends"], apart := false, laid := [("inquest/sha.addends", laid_inquest_sha_addends)], narrowed := true }
def ClashPathsUptoSaid : Prop := clashPathsUptoRow.holds Tryd.pinned (OpenSpec.upto clashPathsSpec)

/-- 'inquestlaw07.ClashGrowths', WHERE WHAT IT READS IS OF BULK AT MOST 1048576: true; the input reads as it did. -/
def clashGrowthsUptoRow : OpenClaim := { program := "ytfkloilbjfleeaadoor", sum := "514245bd3100b2d3fb3ac20c9140e4f2c6bdf021472f12cf5e0fddd477835ba5", func := "inquest/inquestlaw07.ClashGrowths", spec := "clashGrowths", recurses := true, named := ["inquest/sha.addends"], apart := false, laid := [("inquest/sha.addends", laid_inquest_sha_addends)], narrowed := true }
def ClashGrowthsUptoSaid : Prop := clashGrowthsUptoRow.holds Tryd.pinned (OpenSpec.upto clashGrowthsSpec)

/-- 'inquestlaw07.ClashNone', WHERE WHAT IT READS IS OF BULK AT MOST 1048576: true; the input reads as it did. -/
def clashNoneUptoRow : OpenClaim := { program := "ytfkloilbjfleeaadoor", sum := "514245bd3100b2d3fb3ac20c9140e4f2c6bdf021472f12cf5e0fddd477835ba5", func := "inquest/inquestlaw07.ClashNone", spec := "clashNone", recurses := true, named := ["inquest/sha.addends"], apart := false, laid := [("inquest/sha.addends", laid_inquest_sha_addends)], narrowed := true }
def ClashNoneUptoSaid : Prop := clashNoneUptoRow.holds Tryd.pinned (OpenSpec.upto clashNoneSpec)

/-- 'inquestlaw07.ClashFew', WHERE WHAT IT READS IS OF BULK AT MOST 1048576: true; the input reads as it did. -/
def clashFewUptoRow : OpenClaim := { program := "ytfkloilbjfleeaadoor", sum := "514245bd3100b2d3fb3ac20c9140e4f2c6bdf021472f12cf5e0fddd477835ba5", func := "inquest/inquestlaw07.ClashFew", spec := "clashFew", recurses := true, named := ["inquest/sha.addends"], apart := false, laid := [("inquest/sha.addends", laid_inquest_sha_addends)], narrowed := true }
def ClashFewUptoSaid : Prop := clashFewUptoRow.holds Tryd.pinned (OpenSpec.upto clashFewSpec)

end Rows
end Go.Proofs.YtfkloilbjfleeaaDoor
