/- Passes in variables; a pass is equal to itself. -/
import Derived.Test.YtdoedkgidcoibaaDoorTLives
import Derived.Laws.StructEq
import Derived.ChangeKeysEq
namespace Go.Proofs.YtdoedkgidcoibaaDoor
open Go.RowKit
set_option linter.unusedVariables false

/-- a variable that holds a pass -/
structure PB (B : Nat) (n : ByteArray) (v : Int) (w : World) : Prop where
  at0 : w.cell? ⟨B, 0, none⟩ = some (.string n)
  at1 : w.cell? ⟨B, 1, none⟩ = some (.int .i64 v)
  lt : B < w.heap.size
theorem PB.below {B : Nat} {n : ByteArray} {v : Int} {w w' : World} (h : PB B n v w) (hb : Below w.heap.size w w') : PB B n v w' := ⟨(hb.cell h.lt).trans h.at0, (hb.cell h.lt).trans h.at1, Nat.lt_of_lt_of_le h.lt hb.size⟩
theorem PB.drewN {B : Nat} {n : ByteArray} {v : Int} {w : World} (h : PB B n v w) (q : Nat) : PB B n v (w.drewN q) := ⟨h.at0, h.at1, h.lt⟩
theorem pb_new (w : World) (n : ByteArray) (v : Int) : PB w.heap.size n v (w.alloc (.cells #[.string n, .int .i64 v] 35)) ∧ Below w.heap.size w (w.alloc (.cells #[.string n, .int .i64 v] 35)) := by
  have hr := heap_alloc_new w (.cells #[.string n, .int .i64 v] 35)
  refine ⟨⟨?_, ?_, by simp⟩, (Below.refl _ _).alloc (Nat.le_refl _) _⟩
  · rw [cell_of_row _ _ 0 _ _ (0, 0) hr]; rfl
  · rw [cell_of_row _ _ 1 _ _ (0, 0) hr]; rfl
theorem pass_fields : Tryd.prog.underlying 35 = some (.struct (Tryd.prog.fieldsOf 35)) := by
  unfold Program.fieldsOf; rw [Tryd.underlying35]
theorem pass_eq (n : ByteArray) (v : Int) (w : World) : (Op.equalIn 10000 35 (.agg #[.string n, .int .i64 v]) (.agg #[.string n, .int .i64 v])).run Tryd.prog w = .ok true w := by
  rw [show (10000 : Nat) = 9998 + 1 + 1 from rfl, run_equalIn_struct w (9998 + 1) 35 _ _ pass_fields (by kernel_rfl)]
  have h1 := run_equalIn_string (P := Tryd.prog) w 9998 9 n n Tryd.underlying9
  have h2 := run_equalIn_int (P := Tryd.prog) w 9998 3 .i64 .i64 v v Tryd.underlying3
  have p1 := run_part_plain (P := Tryd.prog) (w := w) (e := 9) (by kernel_rfl) (xs := #[.string n, .int .i64 v]) (off := 0) (v := .string n) rfl
  have p2 := run_part_plain (P := Tryd.prog) (w := w) (e := 3) (by kernel_rfl) (xs := #[.string n, .int .i64 v]) (off := 1) (v := .int .i64 v) rfl
  unfold Program.fieldsOf
  rw [Tryd.underlying35]
  simp [Op.eqFields, h1, h2, p1, p2]
end Go.Proofs.YtdoedkgidcoibaaDoor
