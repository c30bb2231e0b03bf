/- From the row's list to what the walks ask: the table of tens, the two errors. -/
import Derived.Test.YtpfijaojgeceeaaGreatDoorCards
import Derived.Test.YtpfijaojgeceeaaGreatDoorTie
import Derived.Test.YtpfijaojgeceeaaGreatDoorTBase
import Derived.ProofKit
import Derived.OpenShut
import Derived.Deep.DeepHandedRow
import Derived.Lib.LaidTab
import Derived.Lib.ItoaNum
import Derived.MakeChecks
import Derived.Stop.LaidErr
namespace Go.Proofs.YtpfijaojgeceeaaGreatDoor
open Go.RowKit
set_option linter.unusedVariables false

set_option maxRecDepth 100000 in
theorem own : ownKnob Tryz.prog.godebug = none := by kernel_rfl
/-- the table of tens lies where it is looked for -/
structure Tens (w : World) : Prop where
  tab : Lib.TabIs Tryz.prog w "internal/strconv.uint64pow10" .u64 Lib.pow10Tab
set_option maxRecDepth 100000 in
theorem gPow : Tryz.prog.globalNamed "internal/strconv.uint64pow10" = some 4 := by kernel_rfl
set_option maxRecDepth 100000 in
theorem gPowType : (Tryz.prog.globals[4]?).map (·.type) = some 153 := by kernel_rfl
set_option maxRecDepth 100000 in
theorem cellsPow : Tryz.prog.cellsOf 153 = 20 := by kernel_rfl
set_option maxRecDepth 100000 in
theorem cellsE : Tryz.prog.cellsOf 128 = 1 := by kernel_rfl
set_option maxRecDepth 100000 in
theorem pow_eq : (Rows.laid_internal_strconv_uint64pow10 : DataW Unit) = Lib.tabData .u64 Lib.pow10Tab := by kernel_rfl
set_option maxRecDepth 100000 in
/-- the third of a row's list is the table of tens -/
theorem tens_of_third {W : World} {x y : String × DataW Unit} {r : List (String × DataW Unit)} (h : laidMet Tryz.prog (x :: y :: ("internal/strconv.uint64pow10", Rows.laid_internal_strconv_uint64pow10) :: r) W) : Tens W := by
  have h2 := h.tail.tail
  rw [pow_eq] at h2
  exact ⟨Lib.tabIs_of_head gPow gPowType Tryz.underlying153 Tryz.underlying128 cellsE cellsPow h2⟩
set_option maxRecDepth 100000 in
/-- whatever stands in a row's list, the list from there on is met -/
theorem laid_at {W : World} {x : String × DataW Unit} : ∀ (l : List (String × DataW Unit)) (i : Nat), laidMet Tryz.prog l W → l[i]? = some x → ∃ r, laidMet Tryz.prog (x :: r) W
  | [], i, _, hx => by simp at hx
  | y :: l, 0, h, hx => by
    obtain rfl : y = x := by simpa using hx
    exact ⟨l, h⟩
  | y :: l, i + 1, h, hx => laid_at l i h.tail (by simpa using hx)
set_option maxRecDepth 100000 in
theorem tens_at {W : World} {l : List (String × DataW Unit)} (h : laidMet Tryz.prog l W) (i : Nat) (hi : l[i]? = some ("internal/strconv.uint64pow10", Rows.laid_internal_strconv_uint64pow10)) : Tens W := by
  obtain ⟨r, h2⟩ := laid_at l i h hi
  rw [pow_eq] at h2
  exact ⟨Lib.tabIs_of_head gPow gPowType Tryz.underlying153 Tryz.underlying128 cellsE cellsPow h2⟩
set_option maxRecDepth 100000 in
theorem plainH {W : World} {l : List (String × DataW Unit)} (h : laidMetH Tryz.prog l W) (hp : (l.all fun x => x.2.handleName?.isNone) = true) : laidMet Tryz.prog l W := by
  rw [MakeChecks.laidMetH_plain _ _ _ hp] at h; exact h
set_option maxRecDepth 100000 in
theorem var_below {w w' : World} {n : String} {cs : Array Value} (h : w.var? Tryz.prog n = some cs) (hb : Below w.heap.size w w') : w'.var? Tryz.prog n = some cs := by
  unfold World.var? at h ⊢
  obtain ⟨g, hg, h1⟩ := Option.bind_eq_some_iff.1 h
  rw [hg]
  have hlt : g < w.heap.size := by
    cases e : w.heap[g]? with
    | none => rw [e] at h1; cases h1
    | some o => exact (Array.getElem?_eq_some_iff.1 e).1
  show (match w'.heap[g]? with | some (.cells cs _ _) => some cs | _ => none) = some cs
  rw [hb.block g hlt]
  exact h1
set_option maxRecDepth 100000 in
theorem Tens.below {w w' : World} (h : Tens w) (hb : Below w.heap.size w w') : Tens w' := ⟨var_below h.tab hb⟩
set_option maxRecDepth 100000 in
theorem Tens.drewN {w : World} (h : Tens w) (q : Nat) : Tens (w.drewN q) := ⟨h.tab⟩
/-- the two errors that the library answers: they are errors -/
structure Errs (w : World) : Prop where
  syn : ∃ tp p, w.var? Tryz.prog "strconv.ErrSyntax" = some #[.iface tp p]
  rng : ∃ tp p, w.var? Tryz.prog "strconv.ErrRange" = some #[.iface tp p]
set_option maxRecDepth 100000 in
theorem Errs.below {w w' : World} (h : Errs w) (hb : Below w.heap.size w w') : Errs w' := by
  obtain ⟨a, b, h1⟩ := h.syn
  obtain ⟨c, d, h2⟩ := h.rng
  exact ⟨⟨a, b, var_below h1 hb⟩, ⟨c, d, var_below h2 hb⟩⟩
set_option maxRecDepth 100000 in
theorem gES : Tryz.prog.globalNamed "strconv.ErrSyntax" = some 2 := by kernel_rfl
set_option maxRecDepth 100000 in
theorem gER : Tryz.prog.globalNamed "strconv.ErrRange" = some 3 := by kernel_rfl
set_option maxRecDepth 100000 in
theorem gESType : (Tryz.prog.globals[2]?).map (·.type) = some 91 := by kernel_rfl
set_option maxRecDepth 100000 in
theorem gERType : (Tryz.prog.globals[3]?).map (·.type) = some 91 := by kernel_rfl
set_option maxRecDepth 100000 in
theorem cellsES : Tryz.prog.cellsOf 150 = 1 := by kernel_rfl
set_option maxRecDepth 100000 in
theorem cellsS : Tryz.prog.cellsOf 9 = 1 := by kernel_rfl
set_option maxRecDepth 100000 in
theorem starES : "*" ++ "errors.errorString" = "*errors.errorString" := by decide
set_option maxRecDepth 100000 in
theorem rowES (u : TypeId) (h : Tryz.prog.typeName? 3 u = some "*errors.errorString") : u = 148 :=
  typeName_ptr_named (nm := "errors.errorString") (by rw [starES]; kernel_rfl) (by kernel_rfl) (by decide) u (by rw [starES]; exact h)
set_option maxRecDepth 100000 in
theorem errs_of_last {W : World} {x y z : String × DataW Unit} {r : List (String × DataW Unit)}
    (h : laidMet Tryz.prog (x :: y :: z :: ("strconv.ErrRange", Rows.laid_strconv_ErrRange) :: ("strconv.ErrSyntax", Rows.laid_strconv_ErrSyntax) :: r) W) : Errs W := by
  obtain ⟨a0, s0, hv0, -, -, -⟩ := laid_sentinel h.tail.tail.tail gER gERType Tryz.underlying91 rowES Tryz.underlying148 Tryz.underlying150 rfl rfl Tryz.underlying9 cellsES cellsS
  obtain ⟨a1, s1, hv1, -, -, -⟩ := laid_sentinel h.tail.tail.tail.tail gES gESType Tryz.underlying91 rowES Tryz.underlying148 Tryz.underlying150 rfl rfl Tryz.underlying9 cellsES cellsS
  exact ⟨⟨_, _, hv1⟩, ⟨_, _, hv0⟩⟩
set_option maxRecDepth 100000 in
theorem errs_at {W : World} {l : List (String × DataW Unit)} (h : laidMet Tryz.prog l W) (i j : Nat) (hi : l[i]? = some ("strconv.ErrRange", Rows.laid_strconv_ErrRange)) (hj : l[j]? = some ("strconv.ErrSyntax", Rows.laid_strconv_ErrSyntax)) : Errs W := by
  obtain ⟨r, h1⟩ := laid_at l i h hi
  obtain ⟨r2, h2⟩ := laid_at l j h hj
  obtain ⟨a0, s0, hv0, -, -, -⟩ := laid_sentinel h1 gER gERType Tryz.underlying91 rowES Tryz.underlying148 Tryz.underlying150 rfl rfl Tryz.underlying9 cellsES cellsS
  obtain ⟨a1, s1, hv1, -, -, -⟩ := laid_sentinel h2 gES gESType Tryz.underlying91 rowES Tryz.underlying148 Tryz.underlying150 rfl rfl Tryz.underlying9 cellsES cellsS
  exact ⟨⟨_, _, hv1⟩, ⟨_, _, hv0⟩⟩
end Go.Proofs.YtpfijaojgeceeaaGreatDoor
