/- A digest is equal to itself. -/
import Derived.Test.YtbednfacipphhaaDoorBase
import Derived.ChangeKeysEq
namespace Go.Proofs.YtbednfacipphhaaDoor
open Go.RowKit
set_option linter.unusedVariables false

set_option maxRecDepth 100000 in
theorem eq_self (e : TypeId) (k : IntKind) (he : Tryd.prog.underlying e = some (.int k)) (hp : Tryd.prog.plainKey e = true) (d : Nat) (xs : Array Value) (w : World) : ∀ is : List Nat, (∀ i ∈ is, ∃ n, xs[i]? = some (.int k n)) → (Op.eqItems (d + 1) e 1 xs xs is).run Tryd.prog w = .ok true w := by
  intro is
  induction is with
  | nil => intro _; simp [Op.eqItems]
  | cons i r ih =>
    intro h
    obtain ⟨n, hn⟩ := h i (by simp)
    have hpt := run_part_plain (P := Tryd.prog) (w := w) hp (xs := xs) (off := i * 1) (by rw [Nat.mul_one]; exact hn)
    have heq := run_equalIn_int (P := Tryd.prog) w d e k k n n he
    have hih := ih (fun j hj => h j (by simp [hj]))
    simp only [Op.eqItems, Sem.run_bind, hpt, heq, Result.andThen_ok]
    simp [hih]
set_option maxRecDepth 100000 in
theorem dig_eq (l : List Int) (hl : l.length = 32) (w : World) : (Op.equalIn 10000 30 (.agg (bv l).toArray) (.agg (bv l).toArray)).run Tryd.prog w = .ok true w := by
  obtain ⟨i0, hi, hz0, hz1, hz2⟩ := info_parts Tryd.info5
  rw [show (10000 : Nat) = 9998 + 1 + 1 from rfl, run_equalIn_array w (9998 + 1) _ _ Tryd.underlying30 hi, show Tryd.prog.cellsOf 5 = 1 by kernel_rfl]
  refine eq_self 5 .u8 Tryd.underlying5 (by kernel_rfl) 9998 _ w _ (fun i hi => ?_)
  rw [List.getElem?_toArray]
  have : i < 32 := by simpa using hi
  exact ⟨l.getD i 0, by unfold bv; rw [List.getElem?_map, List.getElem?_eq_getElem (by omega), List.getD_eq_getElem?_getD, List.getElem?_eq_getElem (by omega)]; rfl⟩
end Go.Proofs.YtbednfacipphhaaDoor
