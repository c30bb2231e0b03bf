/- From the row's list to what the walks ask: the table of tens, the two errors. -/
import Derived.Test.YtdoedkgidcoibaaDoorCards
import Derived.Test.YtdoedkgidcoibaaDoorTie
import Derived.Test.YtdoedkgidcoibaaDoorTBase
import Derived.ProofKit
import Derived.OpenShut
import Derived.Deep.DeepHandedRow
import Derived.Lib.LaidTab
import Derived.Lib.ItoaNum
import Derived.MakeChecks
import Derived.Stop.LaidErr
namespace Go.Proofs.YtdoedkgidcoibaaDoor
open Go.RowKit
set_option linter.unusedVariables false

theorem own : ownKnob Tryd.prog.godebug = none := by kernel_rfl
/-- the table of tens lies where it is looked for -/
structure Tens (w : World) : Prop where
  tab : Lib.TabIs Tryd.prog w "internal/strconv.uint64pow10" .u64 Lib.pow10Tab
theorem gPow : Tryd.prog.globalNamed "internal/strconv.uint64pow10" = some 3 := by kernel_rfl
theorem gPowType : (Tryd.prog.globals[3]?).map (·.type) = some 121 := by kernel_rfl
theorem cellsPow : Tryd.prog.cellsOf 121 = 20 := by kernel_rfl
theorem cellsE : Tryd.prog.cellsOf 82 = 1 := by kernel_rfl
theorem pow_eq : (Rows.laid_internal_strconv_uint64pow10 : DataW Unit) = Lib.tabData .u64 Lib.pow10Tab := by kernel_rfl
/-- the third of a row's list is the table of tens -/
theorem tens_of_third {W : World} {x y : String × DataW Unit} {r : List (String × DataW Unit)} (h : laidMet Tryd.prog (x :: y :: ("internal/strconv.uint64pow10", Rows.laid_internal_strconv_uint64pow10) :: r) W) : Tens W := by
  have h2 := h.tail.tail
  rw [pow_eq] at h2
  exact ⟨Lib.tabIs_of_head gPow gPowType Tryd.underlying121 Tryd.underlying82 cellsE cellsPow h2⟩
/-- whatever stands in a row's list, the list from there on is met -/
theorem laid_at {W : World} {x : String × DataW Unit} : ∀ (l : List (String × DataW Unit)) (i : Nat), laidMet Tryd.prog l W → l[i]? = some x → ∃ r, laidMet Tryd.prog (x :: r) W
  | [], i, _, hx => by simp at hx
  | y :: l, 0, h, hx => by
    obtain rfl : y = x := by simpa using hx
    exact ⟨l, h⟩
  | y :: l, i + 1, h, hx => laid_at l i h.tail (by simpa using hx)
theorem tens_at {W : World} {l : List (String × DataW Unit)} (h : laidMet Tryd.prog l W) (i : Nat) (hi : l[i]? = some ("internal/strconv.uint64pow10", Rows.laid_internal_strconv_uint64pow10)) : Tens W := by
  obtain ⟨r, h2⟩ := laid_at l i h hi
  rw [pow_eq] at h2
  exact ⟨Lib.tabIs_of_head gPow gPowType Tryd.underlying121 Tryd.underlying82 cellsE cellsPow h2⟩
theorem plainH {W : World} {l : List (String × DataW Unit)} (h : laidMetH Tryd.prog l W) (hp : (l.all fun x => x.2.handleName?.isNone) = true) : laidMet Tryd.prog l W := by
  rw [MakeChecks.laidMetH_plain _ _ _ hp] at h; exact h
theorem var_below {w w' : World} {n : String} {cs : Array Value} (h : w.var? Tryd.prog n = some cs) (hb : Below w.heap.size w w') : w'.var? Tryd.prog n = some cs := by
  unfold World.var? at h ⊢
  obtain ⟨g, hg, h1⟩ := Option.bind_eq_some_iff.1 h
  rw [hg]
  have hlt : g < w.heap.size := by
    cases e : w.heap[g]? with
    | none => rw [e] at h1; cases h1
    | some o => exact (Array.getElem?_eq_some_iff.1 e).1
  show (match w'.heap[g]? with | some (.cells cs _ _) => some cs | _ => none) = some cs
  rw [hb.block g hlt]
  exact h1
theorem Tens.below {w w' : World} (h : Tens w) (hb : Below w.heap.size w w') : Tens w' := ⟨var_below h.tab hb⟩
theorem Tens.drewN {w : World} (h : Tens w) (q : Nat) : Tens (w.drewN q) := ⟨h.tab⟩
/-- the two errors that the library answers: they are errors -/
structure Errs (w : World) : Prop where
  syn : ∃ tp p, w.var? Tryd.prog "strconv.ErrSyntax" = some #[.iface tp p]
  rng : ∃ tp p, w.var? Tryd.prog "strconv.ErrRange" = some #[.iface tp p]
theorem Errs.below {w w' : World} (h : Errs w) (hb : Below w.heap.size w w') : Errs w' := by
  obtain ⟨a, b, h1⟩ := h.syn
  obtain ⟨c, d, h2⟩ := h.rng
  exact ⟨⟨a, b, var_below h1 hb⟩, ⟨c, d, var_below h2 hb⟩⟩
theorem gES : Tryd.prog.globalNamed "strconv.ErrSyntax" = some 1 := by kernel_rfl
theorem gER : Tryd.prog.globalNamed "strconv.ErrRange" = some 2 := by kernel_rfl
theorem gESType : (Tryd.prog.globals[1]?).map (·.type) = some 78 := by kernel_rfl
theorem gERType : (Tryd.prog.globals[2]?).map (·.type) = some 78 := by kernel_rfl
theorem cellsES : Tryd.prog.cellsOf 128 = 1 := by kernel_rfl
theorem cellsS : Tryd.prog.cellsOf 9 = 1 := by kernel_rfl
theorem starES : "*" ++ "errors.errorString" = "*errors.errorString" := by decide
theorem rowES (u : TypeId) (h : Tryd.prog.typeName? 3 u = some "*errors.errorString") : u = 126 :=
  typeName_ptr_named (nm := "errors.errorString") (by rw [starES]; kernel_rfl) (by kernel_rfl) (by decide) u (by rw [starES]; exact h)
theorem errs_of_last {W : World} {x y z : String × DataW Unit} {r : List (String × DataW Unit)}
    (h : laidMet Tryd.prog (x :: y :: z :: ("strconv.ErrRange", Rows.laid_strconv_ErrRange) :: ("strconv.ErrSyntax", Rows.laid_strconv_ErrSyntax) :: r) W) : Errs W := by
  obtain ⟨a0, s0, hv0, -, -, -⟩ := laid_sentinel h.tail.tail.tail gER gERType Tryd.underlying78 rowES Tryd.underlying126 Tryd.underlying128 rfl rfl Tryd.underlying9 cellsES cellsS
  obtain ⟨a1, s1, hv1, -, -, -⟩ := laid_sentinel h.tail.tail.tail.tail gES gESType Tryd.underlying78 rowES Tryd.underlying126 Tryd.underlying128 rfl rfl Tryd.underlying9 cellsES cellsS
  exact ⟨⟨_, _, hv1⟩, ⟨_, _, hv0⟩⟩
theorem errs_at {W : World} {l : List (String × DataW Unit)} (h : laidMet Tryd.prog l W) (i j : Nat) (hi : l[i]? = some ("strconv.ErrRange", Rows.laid_strconv_ErrRange)) (hj : l[j]? = some ("strconv.ErrSyntax", Rows.laid_strconv_ErrSyntax)) : Errs W := by
  obtain ⟨r, h1⟩ := laid_at l i h hi
  obtain ⟨r2, h2⟩ := laid_at l j h hj
  obtain ⟨a0, s0, hv0, -, -, -⟩ := laid_sentinel h1 gER gERType Tryd.underlying78 rowES Tryd.underlying126 Tryd.underlying128 rfl rfl Tryd.underlying9 cellsES cellsS
  obtain ⟨a1, s1, hv1, -, -, -⟩ := laid_sentinel h2 gES gESType Tryd.underlying78 rowES Tryd.underlying126 Tryd.underlying128 rfl rfl Tryd.underlying9 cellsES cellsS
  exact ⟨⟨_, _, hv1⟩, ⟨_, _, hv0⟩⟩
end Go.Proofs.YtdoedkgidcoibaaDoor
