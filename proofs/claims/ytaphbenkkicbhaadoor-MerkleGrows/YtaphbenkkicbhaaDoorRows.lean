/-
  NARROWER THAN 'FOR EVERY INPUT', by the rows' own cells (each row's printed sentence says how): MerkleSums: laid · MerkleRoots: laid · MerklePaths: laid · MerkleChecks: laid · MerkleGrowths: laid · MerkleGrows: laid.
  DERIVED. THE GIVEN ROWS OF THIS SEAT. 6 by the template 'for every input the law returns true; each argument reads behind the call as it read before'; 0 by the template 'total and deterministic' (their statements: YtaphbenkkicbhaaDoorTotals.lean).
  GIVEN WITH THE SEED: the statements are not yours to turn. If you find one false, say at which input.
  Laid BY PROGRAM, IN A SANDBOX (cutbox-rows.mjs): the forced cells as the released guide's own fill.sh prints them over the translation 182903f813977c81… (all of the seat's roots in one cut). By AI agents, Wed Nov 11 2026. No macro, syntax, notation, axiom, sorry.
-/
import Derived.Test.YtaphbenkkicbhaaDoorChecked
import GoSem.Claim
import GoSem.ClaimJoined
import GoSem.ClaimMapViews
import Derived.JoinedTies
import Derived.KernelRfl
namespace Go.Proofs.YtaphbenkkicbhaaDoor
/- THE CELL 'sum', in the pinned program and in every row, IS THE sha256 OF THE DUMP (.gsa) THAT YtaphbenkkicbhaaDoorProg.lean LOADS. Nothing in Lean hashes anything: it is a label: what it is worth is what the hold of that sum in a sandbox is worth. -/
noncomputable def Tryd.pinned : Pinned := { name := "ytaphbenkkicbhaadoor", sum := "182903f813977c8194bd7ff07bd7e9a925b2868e2bd6985b940b214d5b796795", checked := Tryd.checked }
namespace Rows
def none {H : Type} : Left H := { results := [], args := [] }

/- WHAT THE LISTED PACKAGE-LEVEL VARIABLES READ AS WHEN THE CALL BEGINS. Each datum BY PROGRAM (the guide's laid-datum.mjs) off the statement by which the dump's own 'gosem.cut.vars' lays the variable. In a bare row this is a premise. The card (YtaphbenkkicbhaaDoorCards.lean) ties it to the program's text. -/
def laid_inquest_sha_addends {H : Type} : DataW H := .agg [.lit (.int .u32 1116352408), .lit (.int .u32 1899447441), .lit (.int .u32 3049323471), .lit (.int .u32 3921009573), .lit (.int .u32 961987163), .lit (.int .u32 1508970993), .lit (.int .u32 2453635748), .lit (.int .u32 2870763221), .lit (.int .u32 3624381080), .lit (.int .u32 310598401), .lit (.int .u32 607225278), .lit (.int .u32 1426881987), .lit (.int .u32 1925078388), .lit (.int .u32 2162078206), .lit (.int .u32 2614888103), .lit (.int .u32 3248222580), .lit (.int .u32 3835390401), .lit (.int .u32 4022224774), .lit (.int .u32 264347078), .lit (.int .u32 604807628), .lit (.int .u32 770255983), .lit (.int .u32 1249150122), .lit (.int .u32 1555081692), .lit (.int .u32 1996064986), .lit (.int .u32 2554220882), .lit (.int .u32 2821834349), .lit (.int .u32 2952996808), .lit (.int .u32 3210313671), .lit (.int .u32 3336571891), .lit (.int .u32 3584528711), .lit (.int .u32 113926993), .lit (.int .u32 338241895), .lit (.int .u32 666307205), .lit (.int .u32 773529912), .lit (.int .u32 1294757372), .lit (.int .u32 1396182291), .lit (.int .u32 1695183700), .lit (.int .u32 1986661051), .lit (.int .u32 2177026350), .lit (.int .u32 2456956037), .lit (.int .u32 2730485921), .lit (.int .u32 2820302411), .lit (.int .u32 3259730800), .lit (.int .u32 3345764771), .lit (.int .u32 3516065817), .lit (.int .u32 3600352804), .lit (.int .u32 4094571909), .lit (.int .u32 275423344), .lit (.int .u32 430227734), .lit (.int .u32 506948616), .lit (.int .u32 659060556), .lit (.int .u32 883997877), .lit (.int .u32 958139571), .lit (.int .u32 1322822218), .lit (.int .u32 1537002063), .lit (.int .u32 1747873779), .lit (.int .u32 1955562222), .lit (.int .u32 2024104815), .lit (.int .u32 2227730452), .lit (.int .u32 2361852424), .lit (.int .u32 2428436474), .lit (.int .u32 2756734187), .lit (.int .u32 3204031479), .lit (.int .u32 3329325298)]

/-- 'inquestlaw06.MerkleSums': WHATEVER THE INPUT: true; the input reads as it did. -/
def merkleSumsSpec : ChangeSpec := { name := "merkleSums", fn := fun _ => fun
  | [d1, d2, d3, d4, d5] => { results := [.lit (.bool true)], args := [d1, d2, d3, d4, d5] }
  | _ => none }
def merkleSumsRow : OpenClaim := { program := "ytaphbenkkicbhaadoor", sum := "182903f813977c8194bd7ff07bd7e9a925b2868e2bd6985b940b214d5b796795", func := "inquest/inquestlaw06.MerkleSums", spec := "merkleSums", recurses := true, named := ["inquest/sha.addends"], apart := false, laid := [("inquest/sha.addends", laid_inquest_sha_addends)] }
def MerkleSumsSaid : Prop := merkleSumsRow.holds Tryd.pinned (OpenSpec.ofChange merkleSumsSpec)

/-- ITS FALSE NEIGHBOUR: 'it returns false'. Refute it at one input. -/
def merkleSumsWrong : ChangeSpec := { name := "merkleSums", fn := fun _ => fun
  | [d1, d2, d3, d4, d5] => { results := [.lit (.bool false)], args := [d1, d2, d3, d4, d5] }
  | _ => none }
def MerkleSumsWrongFalsely : Prop := merkleSumsRow.holds Tryd.pinned (OpenSpec.ofChange merkleSumsWrong)

/-- 'inquestlaw06.MerkleRoots': WHATEVER THE INPUT: true; the input reads as it did. -/
def merkleRootsSpec : ChangeSpec := { name := "merkleRoots", fn := fun _ => fun
  | [d1, d2] => { results := [.lit (.bool true)], args := [d1, d2] }
  | _ => none }
def merkleRootsRow : OpenClaim := { program := "ytaphbenkkicbhaadoor", sum := "182903f813977c8194bd7ff07bd7e9a925b2868e2bd6985b940b214d5b796795", func := "inquest/inquestlaw06.MerkleRoots", spec := "merkleRoots", recurses := true, named := ["inquest/sha.addends"], apart := false, laid := [("inquest/sha.addends", laid_inquest_sha_addends)] }
def MerkleRootsSaid : Prop := merkleRootsRow.holds Tryd.pinned (OpenSpec.ofChange merkleRootsSpec)

/-- ITS FALSE NEIGHBOUR: 'it returns false'. Refute it at one input. -/
def merkleRootsWrong : ChangeSpec := { name := "merkleRoots", fn := fun _ => fun
  | [d1, d2] => { results := [.lit (.bool false)], args := [d1, d2] }
  | _ => none }
def MerkleRootsWrongFalsely : Prop := merkleRootsRow.holds Tryd.pinned (OpenSpec.ofChange merkleRootsWrong)

/-- 'inquestlaw06.MerklePaths': WHATEVER THE INPUT: true; the input reads as it did. -/
def merklePathsSpec : ChangeSpec := { name := "merklePaths", fn := fun _ => fun
  | [d1, d2, d3] => { results := [.lit (.bool true)], args := [d1, d2, d3] }
  | _ => none }
def merklePathsRow : OpenClaim := { program := "ytaphbenkkicbhaadoor", sum := "182903f813977c8194bd7ff07bd7e9a925b2868e2bd6985b940b214d5b796795", func := "inquest/inquestlaw06.MerklePaths", spec := "merklePaths", recurses := true, named := ["inquest/sha.addends"], apart := false, laid := [("inquest/sha.addends", laid_inquest_sha_addends)] }
def MerklePathsSaid : Prop := merklePathsRow.holds Tryd.pinned (OpenSpec.ofChange merklePathsSpec)

/-- ITS FALSE NEIGHBOUR: 'it returns false'. Refute it at one input. -/
def merklePathsWrong : ChangeSpec := { name := "merklePaths", fn := fun _ => fun
  | [d1, d2, d3] => { results := [.lit (.bool false)], args := [d1, d2, d3] }
  | _ => none }
def MerklePathsWrongFalsely : Prop := merklePathsRow.holds Tryd.pinned (OpenSpec.ofChange merklePathsWrong)

/-- 'inquestlaw06.MerkleChecks': WHATEVER THE INPUT: true; the input reads as it did. -/
def merkleChecksSpec : ChangeSpec := { name := "merkleChecks", fn := fun _ => fun
  | [d1, d2, d3, d4, d5, d6] => { results := [.lit (.bool true)], args := [d1, d2, d3, d4, d5, d6] }
  | _ => none }
def merkleChecksRow : OpenClaim := { program := "ytaphbenkkicbhaadoor", sum := "182903f813977c8194bd7ff07bd7e9a925b2868e2bd6985b940b214d5b796795", func := "inquest/inquestlaw06.MerkleChecks", spec := "merkleChecks", recurses := true, named := ["inquest/sha.addends"], apart := false, laid := [("inquest/sha.addends", laid_inquest_sha_addends)] }
def MerkleChecksSaid : Prop := merkleChecksRow.holds Tryd.pinned (OpenSpec.ofChange merkleChecksSpec)

/-- ITS FALSE NEIGHBOUR: 'it returns false'. Refute it at one input. -/
def merkleChecksWrong : ChangeSpec := { name := "merkleChecks", fn := fun _ => fun
  | [d1, d2, d3, d4, d5, d6] => { results := [.lit (.bool false)], args := [d1, d2, d3, d4, d5, d6] }
  | _ => none }
def MerkleChecksWrongFalsely : Prop := merkleChecksRow.holds Tryd.pinned (OpenSpec.ofChange merkleChecksWrong)

/-- 'inquestlaw06.MerkleGrowths': WHATEVER THE INPUT: true; the input reads as it did. -/
def merkleGrowthsSpec : ChangeSpec := { name := "merkleGrowths", fn := fun _ => fun
  | [d1, d2, d3] => { results := [.lit (.bool true)], args := [d1, d2, d3] }
  | _ => none }
def merkleGrowthsRow : OpenClaim := { program := "ytaphbenkkicbhaadoor", sum := "182903f813977c8194bd7ff07bd7e9a925b2868e2bd6985b940b214d5b796795", func := "inquest/inquestlaw06.MerkleGrowths", spec := "merkleGrowths", recurses := true, named := ["inquest/sha.addends"], apart := false, laid := [("inquest/sha.addends", laid_inquest_sha_addends)] }
def MerkleGrowthsSaid : Prop := merkleGrowthsRow.holds Tryd.pinned (OpenSpec.ofChange merkleGrowthsSpec)

/-- ITS FALSE NEIGHBOUR: 'it returns false'. Refute it at one input. -/
def merkleGrowthsWrong : ChangeSpec := { name := "merkleGrowths", fn := fun _ => fun
  | [d1, d2, d3] => { results := [.lit (.bool false)], args := [d1, d2, d3] }
  | _ => none }
def MerkleGrowthsWrongFalsely : Prop := merkleGrowthsRow.holds Tryd.pinned (OpenSpec.ofChange merkleGrowthsWrong)

/-- 'inquestlaw06.MerkleGrows': WHATEVER THE INPUT: true; the input reads as it did. -/
def merkleGrowsSpec : ChangeSpec := { name := "merkleGrows", fn := fun _ => fun
  | [d1, d2, d3, d4, d5, d6] => { results := [.lit (.bool true)], args := [d1, d2, d3, d4, d5, d6] }
  | _ => none }
def merkleGrowsRow : OpenClaim := { program := "ytaphbenkkicbhaadoor", sum := "182903f813977c8194bd7ff07bd7e9a925b2868e2bd6985b940b214d5b796795", func := "inquest/inquestlaw06.MerkleGrows", spec := "merkleGrows", recurses := true, named := ["inquest/sha.addends"], apart := false, laid := [("inquest/sha.addends", laid_inquest_sha_addends)] }
def MerkleGrowsSaid : Prop := merkleGrowsRow.holds Tryd.pinned (OpenSpec.ofChange merkleGrowsSpec)

/-- ITS FALSE NEIGHBOUR: 'it returns false'. Refute it at one input. -/
def merkleGrowsWrong : ChangeSpec := { name := "merkleGrows", fn := fun _ => fun
  | [d1, d2, d3, d4, d5, d6] => { results := [.lit (.bool false)], args := [d1, d2, d3, d4, d5, d6] }
  | _ => none }
def MerkleGrowsWrongFalsely : Prop := merkleGrowsRow.holds Tryd.pinned (OpenSpec.ofChange merkleGrowsWrong)

/- THE SECOND FORM. 'bulk': how many values and letters a reading holds, each counted each time it is reached (what is shared counts as often as it is met; a slice's spare places count too). A statement '..UptoSaid' is the law's where the arguments, and the package variables that the reading takes, are together of bulk at most 1048576: NARROWER than '..Said'. Prove '..Said' where nothing that the law and all that it calls make is longer than what came in: it says more and counts as full. Else prove '..UptoSaid'. A law counts once. -/
mutual
def uptoBulk {H : Type} : DataW H → Nat
  | .lit (.string bytes) => bytes.length + 1
  | .lit _ => 1
  | .nil => 1
  | .ptr d => uptoBulk d + 1
  | .slice elems spare => uptoBulkAll elems + uptoBulkAll spare + 1
  | .agg parts => uptoBulkAll parts + 1
  | .iface _ d => uptoBulk d + 1
  | .map entries => uptoBulkEntries entries + 1
  | .held _ => 1
def uptoBulkAll {H : Type} : List (DataW H) → Nat
  | [] => 0
  | d :: r => uptoBulk d + uptoBulkAll r
def uptoBulkEntries {H : Type} : List (Lit × DataW H) → Nat
  | [] => 0
  | x :: r => uptoBulkEntry x + uptoBulkEntries r
def uptoBulkEntry {H : Type} : Lit × DataW H → Nat
  | (.string bytes, d) => bytes.length + uptoBulk d + 1
  | (_, d) => uptoBulk d + 1
 end
def uptoSmall : (H : Type) → List (DataW H) → Bool := fun _ ds => decide (uptoBulkAll ds ≤ 1048576)
def OpenSpec.upto (s : _root_.Go.ChangeSpec) : _root_.Go.OpenSpec := { _root_.Go.OpenSpec.ofChange s with cond := some uptoSmall }

/-- 'inquestlaw06.MerkleSums', WHERE WHAT IT READS IS OF BULK AT MOST 1048576: true; the input reads as it did. -/
def merkleSumsUptoRow : OpenClaim := { program := "ytaphbenkkicbhaadoor", sum := "182903f813977c8194bd7ff07bd7e9a925b2868e2bd6985b940b214d5b796795", func := "inquest/inquestlaw06.MerkleSums", spec := "merkleSums", recurses := true, named := ["inquest/sha.addends"], apart := false, laid := [("inquest/sha.addends", laid_inquest_sha_addends)], narrowed := true }
def MerkleSumsUptoSaid : Prop := merkleSumsUptoRow.holds Tryd.pinned (OpenSpec.upto merkleSumsSpec)

/-- 'inquestlaw06.MerkleRoots', WHERE WHAT IT READS IS OF BULK AT MOST 1048576: true; the input reads as it did. -/
def merkleRootsUptoRow : OpenClaim := { program := "ytaphbenkkicbhaadoor", sum := "182903f813977c8194bd7ff07bd7e9a925b2868e2bd6985b940b214d5b796795", func := "inquest/inquestlaw06.MerkleRoots", spec := "merkleRoots", recurses := true, named := ["inquest/sha.addends"], apart := false, laid := [("inquest/sha.addends", laid_inquest_sha_addends)], narrowed := true }
def MerkleRootsUptoSaid : Prop := merkleRootsUptoRow.holds Tryd.pinned (OpenSpec.upto merkleRootsSpec)

/-- 'inquestlaw06.MerklePaths', WHERE WHAT IT READS IS OF BULK AT MOST 1048576: true; the input reads as it did. -/
def merklePathsUptoRow : OpenClaim := { program := "ytaphbenkkicbhaadoor", sum := "182903f813977c8194bd7ff07bd7e9a925b2868e2bd6985b940b214d5b796795", func := "inquest/inquestlaw06.MerklePaths", spec := "merklePaths", recurses := true, named := ["inquest/sha.addends"], apart := false, laid := [("inquest/sha.addends", laid_inquest_sha_addends)], narrowed := true }
def MerklePathsUptoSaid : Prop := merklePathsUptoRow.holds Tryd.pinned (OpenSpec.upto merklePathsSpec)

/-- 'inquestlaw06.MerkleChecks', WHERE WHAT IT READS IS OF BULK AT MOST 1048576: true; the input reads as it did. -/
def merkleChecksUptoRow : OpenClaim := { program := "ytaphbenkkicbhaadoor", sum := "182903f813977c8194bd7ff07bd7e9a925b2868e2bd6985b940b214d5b796795", func := "inquest/inquestlaw06.MerkleChecks", spec := "merkleChecks", recurses := true, named := ["inquest/sha.addends"], apart := false, laid := [("inquest/sha.addends", laid_inquest_sha_addends)], narrowed := true }
def MerkleChecksUptoSaid : Prop := merkleChecksUptoRow.holds Tryd.pinned (OpenSpec.upto merkleChecksSpec)

/-- 'inquestlaw06.MerkleGrowths', WHERE WHAT IT READS IS OF BULK AT MOST 1048576: true; the input reads as it did. -/
def merkleGrowthsUptoRow : OpenClaim := { program := "ytaphbenkkicbhaadoor", sum := "182903f813977c8194bd7ff07bd7e9a925b2868e2bd6985b940b214d5b796795", func := "inquest/inquestlaw06.MerkleGrowths", spec := "merkleGrowths", recurses := true, named := ["inquest/sha.addends"], apart := false, laid := [("inquest/sha.addends", laid_inquest_sha_addends)], narrowed := true }
def MerkleGrowthsUptoSaid : Prop := merkleGrowthsUptoRow.holds Tryd.pinned (OpenSpec.upto merkleGrowthsSpec)

/-- 'inquestlaw06.MerkleGrows', WHERE WHAT IT READS IS OF BULK AT MOST 1048576: true; the input reads as it did. -/
def merkleGrowsUptoRow : OpenClaim := { program := "ytaphbenkkicbhaadoor", sum := "182903f813977c8194bd7ff07bd7e9a925b2868e2bd6985b940b214d5b796795", func := "inquest/inquestlaw06.MerkleGrows", spec := "merkleGrows", recurses := true, named := ["inquest/sha.addends"], apart := false, laid := [("inquest/sha.addends", laid_inquest_sha_addends)], narrowed := true }
def MerkleGrowsUptoSaid : Prop := merkleGrowsUptoRow.holds Tryd.pinned (OpenSpec.upto merkleGrowsSpec)

end Rows
end Go.Proofs.YtaphbenkkicbhaaDoor
