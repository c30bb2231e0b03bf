/-
  NARROWER THAN 'FOR EVERY INPUT', by the rows' own cells (each row's printed sentence says how): LedgerPlays: laid · LedgerHeads: laid · LedgerShown: laid · LedgerStays: laid · LedgerChain: laid · LedgerNobody: laid.
  DERIVED. THE GIVEN ROWS OF THIS SEAT. 6 by the template 'for every input the law returns true; each argument reads behind the call as it read before'; 0 by the template 'total and deterministic' (their statements: YtbednfacipphhaaDoorTotals.lean).
  GIVEN WITH THE SEED: the statements are not yours to turn. If you find one false, say at which input.
  Laid BY PROGRAM, IN A SANDBOX (cutbox-rows.mjs): the forced cells as the released guide's own fill.sh prints them over the translation 9293077a012ee4b6… (all of the seat's roots in one cut). By AI agents, Wed Nov 11 2026. No macro, syntax, notation, axiom, sorry.
-/
import Derived.Test.YtbednfacipphhaaDoorChecked
import GoSem.Claim
import GoSem.ClaimJoined
import GoSem.ClaimMapViews
import Derived.JoinedTies
import Derived.KernelRfl
namespace Go.Proofs.YtbednfacipphhaaDoor
/- THE CELL 'sum', in the pinned program and in every row, IS THE sha256 OF THE DUMP (.gsa) THAT YtbednfacipphhaaDoorProg.lean LOADS. Nothing in Lean hashes anything: it is a label: what it is worth is what the hold of that sum in a sandbox is worth. -/
noncomputable def Tryd.pinned : Pinned := { name := "ytbednfacipphhaadoor", sum := "9293077a012ee4b670f1f7c8e4418e0aecb1377215d6183503d1c01e7b2fce3f", checked := Tryd.checked }
namespace Rows
def none {H : Type} : Left H := { results := [], args := [] }

/- WHAT THE LISTED PACKAGE-LEVEL VARIABLES READ AS WHEN THE CALL BEGINS. Each datum BY PROGRAM (the guide's laid-datum.mjs) off the statement by which the dump's own 'gosem.cut.vars' lays the variable. In a bare row this is a premise. The card (YtbednfacipphhaaDoorCards.lean) ties it to the program's text. -/
def laid_inquest_sha_addends {H : Type} : DataW H := .agg [.lit (.int .u32 1116352408), .lit (.int .u32 1899447441), .lit (.int .u32 3049323471), .lit (.int .u32 3921009573), .lit (.int .u32 961987163), .lit (.int .u32 1508970993), .lit (.int .u32 2453635748), .lit (.int .u32 2870763221), .lit (.int .u32 3624381080), .lit (.int .u32 310598401), .lit (.int .u32 607225278), .lit (.int .u32 1426881987), .lit (.int .u32 1925078388), .lit (.int .u32 2162078206), .lit (.int .u32 2614888103), .lit (.int .u32 3248222580), .lit (.int .u32 3835390401), .lit (.int .u32 4022224774), .lit (.int .u32 264347078), .lit (.int .u32 604807628), .lit (.int .u32 770255983), .lit (.int .u32 1249150122), .lit (.int .u32 1555081692), .lit (.int .u32 1996064986), .lit (.int .u32 2554220882), .lit (.int .u32 2821834349), .lit (.int .u32 2952996808), .lit (.int .u32 3210313671), .lit (.int .u32 3336571891), .lit (.int .u32 3584528711), .lit (.int .u32 113926993), .lit (.int .u32 338241895), .lit (.int .u32 666307205), .lit (.int .u32 773529912), .lit (.int .u32 1294757372), .lit (.int .u32 1396182291), .lit (.int .u32 1695183700), .lit (.int .u32 1986661051), .lit (.int .u32 2177026350), .lit (.int .u32 2456956037), .lit (.int .u32 2730485921), .lit (.int .u32 2820302411), .lit (.int .u32 3259730800), .lit (.int .u32 3345764771), .lit (.int .u32 3516065817), .lit (.int .u32 3600352804), .lit (.int .u32 4094571909), .lit (.int .u32 275423344), .lit (.int .u32 430227734), .lit (.int .u32 506948616), .lit (.int .u32 659060556), .lit (.int .u32 883997877), .lit (.int .u32 958139571), .lit (.int .u32 1322822218), .lit (.int .u32 1537002063), .lit (.int .u32 1747873779), .lit (.int .u32 1955562222), .lit (.int .u32 2024104815), .lit (.int .u32 2227730452), .lit (.int .u32 2361852424), .lit (.int .u32 2428436474), .lit (.int .u32 2756734187), .lit (.int .u32 3204031479), .lit (.int .u32 3329325298)]

/-- 'inquestlaw21.LedgerPlays': WHATEVER THE INPUT: true; the input reads as it did. -/
def ledgerPlaysSpec : ChangeSpec := { name := "ledgerPlays", fn := fun _ => fun
  | [d1, d2, d3, d4] => { results := [.lit (.bool true)], args := [d1, d2, d3, d4] }
  | _ => none }
def ledgerPlaysRow : OpenClaim := { program := "ytbednfacipphhaadoor", sum := "9293077a012ee4b670f1f7c8e4418e0aecb1377215d6183503d1c01e7b2fce3f", func := "inquest/inquestlaw21.LedgerPlays", spec := "ledgerPlays", recurses := true, named := ["inquest/sha.addends"], apart := false, laid := [("inquest/sha.addends", laid_inquest_sha_addends)] }
def LedgerPlaysSaid : Prop := ledgerPlaysRow.holds Tryd.pinned (OpenSpec.ofChange ledgerPlaysSpec)

/-- ITS FALSE NEIGHBOUR: 'it returns false'. Refute it at one input. -/
def ledgerPlaysWrong : ChangeSpec := { name := "ledgerPlays", fn := fun _ => fun
  | [d1, d2, d3, d4] => { results := [.lit (.bool false)], args := [d1, d2, d3, d4] }
  | _ => none }
def LedgerPlaysWrongFalsely : Prop := ledgerPlaysRow.holds Tryd.pinned (OpenSpec.ofChange ledgerPlaysWrong)

/-- 'inquestlaw21.LedgerHeads': WHATEVER THE INPUT: true; the input reads as it did. -/
def ledgerHeadsSpec : ChangeSpec := { name := "ledgerHeads", fn := fun _ => fun
  | [d1, d2] => { results := [.lit (.bool true)], args := [d1, d2] }
  | _ => none }
def ledgerHeadsRow : OpenClaim := { program := "ytbednfacipphhaadoor", sum := "9293077a012ee4b670f1f7c8e4418e0aecb1377215d6183503d1c01e7b2fce3f", func := "inquest/inquestlaw21.LedgerHeads", spec := "ledgerHeads", named := ["inquest/sha.addends"], apart := false, laid := [("inquest/sha.addends", laid_inquest_sha_addends)] }
def LedgerHeadsSaid : Prop := ledgerHeadsRow.holds Tryd.pinned (OpenSpec.ofChange ledgerHeadsSpec)

/-- ITS FALSE NEIGHBOUR: 'it returns false'. Refute it at one input. -/
def ledgerHeadsWrong : ChangeSpec := { name := "ledgerHeads", fn := fun _ => fun
  | [d1, d2] => { results := [.lit (.bool false)], args := [d1, d2] }
  | _ => none }
def LedgerHeadsWrongFalsely : Prop := ledgerHeadsRow.holds Tryd.pinned (OpenSpec.ofChange ledgerHeadsWrong)

/-- 'inquestlaw21.LedgerShown': WHATEVER THE INPUT: true; the input reads as it did. -/
def ledgerShownSpec : ChangeSpec := { name := "ledgerShown", fn := fun _ => fun
  | [d1, d2] => { results := [.lit (.bool true)], args := [d1, d2] }
  | _ => none }
def ledgerShownRow : OpenClaim := { program := "ytbednfacipphhaadoor", sum := "9293077a012ee4b670f1f7c8e4418e0aecb1377215d6183503d1c01e7b2fce3f", func := "inquest/inquestlaw21.LedgerShown", spec := "ledgerShown", recurses := true, named := ["inquest/sha.addends"], apart := false, laid := [("inquest/sha.addends", laid_inquest_sha_addends)] }
def LedgerShownSaid : Prop := ledgerShownRow.holds Tryd.pinned (OpenSpec.ofChange ledgerShownSpec)

/-- ITS FALSE NEIGHBOUR: 'it returns false'. Refute it at one input. -/
def ledgerShownWrong : ChangeSpec := { name := "ledgerShown", fn := fun _ => fun
  | [d1, d2] => { results := [.lit (.bool false)], args := [d1, d2] }
  | _ => none }
def LedgerShownWrongFalsely : Prop := ledgerShownRow.holds Tryd.pinned (OpenSpec.ofChange ledgerShownWrong)

/-- 'inquestlaw21.LedgerStays': WHATEVER THE INPUT: true; the input reads as it did. -/
def ledgerStaysSpec : ChangeSpec := { name := "ledgerStays", fn := fun _ => fun
  | [d1, d2, d3] => { results := [.lit (.bool true)], args := [d1, d2, d3] }
  | _ => none }
def ledgerStaysRow : OpenClaim := { program := "ytbednfacipphhaadoor", sum := "9293077a012ee4b670f1f7c8e4418e0aecb1377215d6183503d1c01e7b2fce3f", func := "inquest/inquestlaw21.LedgerStays", spec := "ledgerStays", recurses := true, named := ["inquest/sha.addends"], apart := false, laid := [("inquest/sha.addends", laid_inquest_sha_addends)] }
def LedgerStaysSaid : Prop := ledgerStaysRow.holds Tryd.pinned (OpenSpec.ofChange ledgerStaysSpec)

/-- ITS FALSE NEIGHBOUR: 'it returns false'. Refute it at one input. -/
def ledgerStaysWrong : ChangeSpec := { name := "ledgerStays", fn := fun _ => fun
  | [d1, d2, d3] => { results := [.lit (.bool false)], args := [d1, d2, d3] }
  | _ => none }
def LedgerStaysWrongFalsely : Prop := ledgerStaysRow.holds Tryd.pinned (OpenSpec.ofChange ledgerStaysWrong)

/-- 'inquestlaw21.LedgerChain': WHATEVER THE INPUT: true; the input reads as it did. -/
def ledgerChainSpec : ChangeSpec := { name := "ledgerChain", fn := fun _ => fun
  | [d1, d2] => { results := [.lit (.bool true)], args := [d1, d2] }
  | _ => none }
def ledgerChainRow : OpenClaim := { program := "ytbednfacipphhaadoor", sum := "9293077a012ee4b670f1f7c8e4418e0aecb1377215d6183503d1c01e7b2fce3f", func := "inquest/inquestlaw21.LedgerChain", spec := "ledgerChain", recurses := true, named := ["inquest/sha.addends"], apart := false, laid := [("inquest/sha.addends", laid_inquest_sha_addends)] }
def LedgerChainSaid : Prop := ledgerChainRow.holds Tryd.pinned (OpenSpec.ofChange ledgerChainSpec)

/-- ITS FALSE NEIGHBOUR: 'it returns false'. Refute it at one input. -/
def ledgerChainWrong : ChangeSpec := { name := "ledgerChain", fn := fun _ => fun
  | [d1, d2] => { results := [.lit (.bool false)], args := [d1, d2] }
  | _ => none }
def LedgerChainWrongFalsely : Prop := ledgerChainRow.holds Tryd.pinned (OpenSpec.ofChange ledgerChainWrong)

/-- 'inquestlaw21.LedgerNobody': WHATEVER THE INPUT: true; the input reads as it did. -/
def ledgerNobodySpec : ChangeSpec := { name := "ledgerNobody", fn := fun _ => fun
  | [d1, d2, d3] => { results := [.lit (.bool true)], args := [d1, d2, d3] }
  | _ => none }
def ledgerNobodyRow : OpenClaim := { program := "ytbednfacipphhaadoor", sum := "9293077a012ee4b670f1f7c8e4418e0aecb1377215d6183503d1c01e7b2fce3f", func := "inquest/inquestlaw21.LedgerNobody", spec := "ledgerNobody", recurses := true, named := ["inquest/sha.addends"], apart := false, laid := [("inquest/sha.addends", laid_inquest_sha_addends)] }
def LedgerNobodySaid : Prop := ledgerNobodyRow.holds Tryd.pinned (OpenSpec.ofChange ledgerNobodySpec)

/-- ITS FALSE NEIGHBOUR: 'it returns false'. Refute it at one input. -/
def ledgerNobodyWrong : ChangeSpec := { name := "ledgerNobody", fn := fun _ => fun
  | [d1, d2, d3] => { results := [.lit (.bool false)], args := [d1, d2, d3] }
  | _ => none }
def LedgerNobodyWrongFalsely : Prop := ledgerNobodyRow.holds Tryd.pinned (OpenSpec.ofChange ledgerNobodyWrong)

/- THE SECOND FORM. 'bulk': how many values and letters a reading holds, each counted each time it is reached (what is shared counts as often as it is met; a slice's spare places count too). A statement '..UptoSaid' is the law's where the arguments, and the package variables that the reading takes, are together of bulk at most 1048576: NARROWER than '..Said'. Prove '..Said' where nothing that the law and all that it calls make is longer than what came in: it says more and counts as full. Else prove '..UptoSaid'. A law counts once. -/
mutual
def uptoBulk {H : Type} : DataW H → Nat
  | .lit (.string bytes) => bytes.length + 1
  | .lit _ => 1
  | .nil => 1
  | .ptr d => uptoBulk d + 1
  | .slice elems spare => uptoBulkAll elems + uptoBulkAll spare + 1
  | .agg parts => uptoBulkAll parts + 1
  | .iface _ d => uptoBulk d + 1
  | .map entries => uptoBulkEntries entries + 1
  | .held _ => 1
def uptoBulkAll {H : Type} : List (DataW H) → Nat
  | [] => 0
  | d :: r => uptoBulk d + uptoBulkAll r
def uptoBulkEntries {H : Type} : List (Lit × DataW H) → Nat
  | [] => 0
  | x :: r => uptoBulkEntry x + uptoBulkEntries r
def uptoBulkEntry {H : Type} : Lit × DataW H → Nat
  | (.string bytes, d) => bytes.length + uptoBulk d + 1
  | (_, d) => uptoBulk d + 1
 end
def uptoSmall : (H : Type) → List (DataW H) → Bool := fun _ ds => decide (uptoBulkAll ds ≤ 1048576)
def OpenSpec.upto (s : _root_.Go.ChangeSpec) : _root_.Go.OpenSpec := { _root_.Go.OpenSpec.ofChange s with cond := some uptoSmall }

/-- 'inquestlaw21.LedgerPlays', WHERE WHAT IT READS IS OF BULK AT MOST 1048576: true; the input reads as it did. -/
def ledgerPlaysUptoRow : OpenClaim := { program := "ytbednfacipphhaadoor", sum := "9293077a012ee4b670f1f7c8e4418e0aecb1377215d6183503d1c01e7b2fce3f", func := "inquest/inquestlaw21.LedgerPlays", spec := "ledgerPlays", recurses := true, named := ["inquest/sha.addends"], apart := false, laid := [("inquest/sha.addends", laid_inquest_sha_addends)], narrowed := true }
def LedgerPlaysUptoSaid : Prop := ledgerPlaysUptoRow.holds Tryd.pinned (OpenSpec.upto ledgerPlaysSpec)

/-- 'inquestlaw21.LedgerHeads', WHERE WHAT IT READS IS OF BULK AT MOST 1048576: true; the input reads as it did. -/
def ledgerHeadsUptoRow : OpenClaim := { program := "ytbednfacipphhaadoor", sum := "9293077a012ee4b670f1f7c8e4418e0aecb1377215d6183503d1c01e7b2fce3f", func := "inquest/inquestlaw21.LedgerHeads", spec := "ledgerHeads", named := ["inquest/sha.addends"], apart := false, laid := [("inquest/sha.addends", laid_inquest_sha_addends)], narrowed := true }
def LedgerHeadsUptoSaid : Prop := ledgerHeadsUptoRow.holds Tryd.pinned (OpenSpec.upto ledgerHeadsSpec)

/-- 'inquestlaw21.LedgerShown', WHERE WHAT IT READS IS OF BULK AT MOST 1048576: true; the input reads as it did. -/
def ledgerShownUptoRow : OpenClaim := { program := "ytbednfacipphhaadoor", sum := "9293077a012ee4b670f1f7c8e4418e0aecb1377215d6183503d1c01e7b2fce3f", func := "inquest/inquestlaw21.LedgerShown", spec := "ledgerShown", recurses := true, named := ["inquest/sha.addends"], apart := false, laid := [("inquest/sha.addends", laid_inquest_sha_addends)], narrowed := true }
def LedgerShownUptoSaid : Prop := ledgerShownUptoRow.holds Tryd.pinned (OpenSpec.upto ledgerShownSpec)

/-- 'inquestlaw21.LedgerStays', WHERE WHAT IT READS IS OF BULK AT MOST 1048576: true; the input reads as it did. -/
def ledgerStaysUptoRow : OpenClaim := { program := "ytbednfacipphhaadoor", sum := "9293077a012ee4b670f1f7c8e4418e0aecb1377215d6183503d1c01e7b2fce3f", func := "inquest/inquestlaw21.LedgerStays", spec := "ledgerStays", recurses := true, named := ["inquest/sha.addends"], apart := false, laid := [("inquest/sha.addends", laid_inquest_sha_addends)], narrowed := true }
def LedgerStaysUptoSaid : Prop := ledgerStaysUptoRow.holds Tryd.pinned (OpenSpec.upto ledgerStaysSpec)

/-- 'inquestlaw21.LedgerChain', WHERE WHAT IT READS IS OF BULK AT MOST 1048576: true; the input reads as it did. -/
def ledgerChainUptoRow : OpenClaim := { program := "ytbednfacipphhaadoor", sum := "9293077a012ee4b670f1f7c8e4418e0aecb1377215d6183503d1c01e7b2fce3f", func := "inquest/inquestlaw21.LedgerChain", spec := "ledgerChain", recurses := true, named := ["inquest/sha.addends"], apart := false, laid := [("inquest/sha.addends", laid_inquest_sha_addends)], narrowed := true }
def LedgerChainUptoSaid : Prop := ledgerChainUptoRow.holds Tryd.pinned (OpenSpec.upto ledgerChainSpec)

/-- 'inquestlaw21.LedgerNobody', WHERE WHAT IT READS IS OF BULK AT MOST 1048576: true; the input reads as it did. -/
def ledgerNobodyUptoRow : OpenClaim := { program := "ytbednfacipphhaadoor", sum := "9293077a012ee4b670f1f7c8e4418e0aecb1377215d6183503d1c01e7b2fce3f", func := "inquest/inquestlaw21.LedgerNobody", spec := "ledgerNobody", recurses := true, named := ["inquest/sha.addends"], apart := false, laid := [("inquest/sha.addends", laid_inquest_sha_addends)], narrowed := true }
def LedgerNobodyUptoSaid : Prop := ledgerNobodyUptoRow.holds Tryd.pinned (OpenSpec.upto ledgerNobodySpec)

end Rows
end Go.Proofs.YtbednfacipphhaaDoor
