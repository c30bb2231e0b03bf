/- From the row's list to what the walks ask: the table of tens, the two errors. -/
import Derived.Test.YtakploildkeofaaDoorCards
import Derived.Test.YtakploildkeofaaDoorTie
import Derived.Test.YtakploildkeofaaDoorTBase
import Derived.ProofKit
import Derived.OpenShut
import Derived.Deep.DeepHandedRow
import Derived.Lib.LaidTab
import Derived.Lib.ItoaNum
import Derived.MakeChecks
import Derived.Stop.LaidErr
namespace Go.Proofs.YtakploildkeofaaDoor
open Go.RowKit
set_option linter.unusedVariables false

theorem own : ownKnob Tryd.prog.godebug = none := by kernel_rfl
/-- the table of tens lies where it is looked for -/
structure Tens (w : World) : Prop where
  tab : Lib.TabIs Tryd.prog w "internal/strconv.uint64pow10" .u64 Lib.pow10Tab
theorem gPow : Tryd.prog.globalNamed "internal/strconv.uint64pow10" = some 3 := by kernel_rfl
theorem gPowType : (Tryd.prog.globals[3]?).map (·.type) = some 81 := by kernel_rfl
theorem cellsPow : Tryd.prog.cellsOf 81 = 20 := by kernel_rfl
theorem cellsE : Tryd.prog.cellsOf 62 = 1 := by kernel_rfl
theorem pow_eq : (Rows.laid_internal_strconv_uint64pow10 : DataW Unit) = Lib.tabData .u64 Lib.pow10Tab := by kernel_rfl
/-- the third of a row's list is the table of tens -/
theorem tens_of_third {W : World} {x y : String × DataW Unit} {r : List (String × DataW Unit)} (h : laidMet Tryd.prog (x :: y :: ("internal/strconv.uint64pow10", Rows.laid_internal_strconv_uint64pow10) :: r) W) : Tens W := by
  have h2 := h.tail.tail
  rw [pow_eq] at h2
  exact ⟨Lib.tabIs_of_head gPow gPowType Tryd.underlying81 Tryd.underlying62 cellsE cellsPow h2⟩
theorem plainH {W : World} {l : List (String × DataW Unit)} (h : laidMetH Tryd.prog l W) (hp : (l.all fun x => x.2.handleName?.isNone) = true) : laidMet Tryd.prog l W := by
  rw [MakeChecks.laidMetH_plain _ _ _ hp] at h; exact h
theorem var_below {w w' : World} {n : String} {cs : Array Value} (h : w.var? Tryd.prog n = some cs) (hb : Below w.heap.size w w') : w'.var? Tryd.prog n = some cs := by
  unfold World.var? at h ⊢
  obtain ⟨g, hg, h1⟩ := Option.bind_eq_some_iff.1 h
  rw [hg]
  have hlt : g < w.heap.size := by
    cases e : w.heap[g]? with
    | none => rw [e] at h1; cases h1
    | some o => exact (Array.getElem?_eq_some_iff.1 e).1
  show (match w'.heap[g]? with | some (.cells cs _ _) => some cs | _ => none) = some cs
  rw [hb.block g hlt]
  exact h1
theorem Tens.below {w w' : World} (h : Tens w) (hb : Below w.heap.size w w') : Tens w' := ⟨var_below h.tab hb⟩
theorem Tens.drewN {w : World} (h : Tens w) (q : Nat) : Tens (w.drewN q) := ⟨h.tab⟩
end Go.Proofs.YtakploildkeofaaDoor
