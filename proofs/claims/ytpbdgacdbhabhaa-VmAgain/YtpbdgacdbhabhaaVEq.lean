/- States and steps that are the same; machines that no call made. -/
import Derived.Test.YtpbdgacdbhabhaaVStep
namespace Go.Proofs.Ytpbdgacdbhabhaa
open Go.RowKit
set_option linter.unusedVariables false

set_option maxRecDepth 100000 in
theorem Try.infoL : (Try.prog.info? 2).map (fun i => (i.zero, i.size, i.bytes)) = some (some (.int .i64 0), 1, 8) := by kernel_rfl
set_option maxRecDepth 100000 in
theorem eq_items (d : Nat) (xs : Array Value) (w : World) : ∀ is : List Nat, (∀ i ∈ is, ∃ x, xs[i]? = some (.int .i64 x)) → (Op.eqItems (d + 1) 2 1 xs xs is).run Try.prog w = .ok true w
  | [], _ => by simp [Op.eqItems]
  | i :: is, h => by
    obtain ⟨x, hx⟩ := h i (by simp)
    have ih := eq_items d xs w is (fun j hj => h j (by simp [hj]))
    have p1 := run_part_plain (P := Try.prog) (w := w) (e := 2) (by kernel_rfl) (xs := xs) (off := i * 1) (v := .int .i64 x) (by rw [Nat.mul_one]; exact hx)
    have h1 := run_equalIn_int (P := Try.prog) w d 2 .i64 .i64 x x Try.underlying2
    simp only [Op.eqItems, Sem.run_bind, p1, h1, Result.andThen_ok]
    simp [ih]
set_option maxRecDepth 100000 in
theorem state_eqN (d : Nat) (a b c e : Int) (w : World) : (Op.equalIn (d + 1 + 1) 24 (.agg #[.int .i64 a, .int .i64 b, .int .i64 c, .int .i64 e]) (.agg #[.int .i64 a, .int .i64 b, .int .i64 c, .int .i64 e])).run Try.prog w = .ok true w := by
  obtain ⟨i0, hi, hz0, hz1, hz2⟩ := info_parts Try.infoL
  rw [run_equalIn_array w (d + 1) _ _ Try.underlying24 hi, show Try.prog.cellsOf 2 = 1 by kernel_rfl]
  refine eq_items d _ w _ (fun i hi => ?_)
  have h4 : i < 4 := by simpa using hi
  match i, h4 with
  | 0, _ => exact ⟨a, rfl⟩
  | 1, _ => exact ⟨b, rfl⟩
  | 2, _ => exact ⟨c, rfl⟩
  | 3, _ => exact ⟨e, rfl⟩
set_option maxRecDepth 100000 in
theorem state_eq (a b c e : Int) (w : World) : (Op.equalIn 10000 24 (.agg #[.int .i64 a, .int .i64 b, .int .i64 c, .int .i64 e]) (.agg #[.int .i64 a, .int .i64 b, .int .i64 c, .int .i64 e])).run Try.prog w = .ok true w := state_eqN 9998 a b c e w
set_option maxRecDepth 100000 in
theorem step_fields : Try.prog.underlying 38 = some (.struct (Try.prog.fieldsOf 38)) := by
  unfold Program.fieldsOf; rw [Try.underlying38]
set_option maxRecDepth 100000 in
theorem step_part (k a b c e r u : Int) (w : World) : (part 24 #[.int .i64 k, .int .i64 a, .int .i64 b, .int .i64 c, .int .i64 e, .int .i64 r, .int .i64 u] 1).run Try.prog w = .ok (.agg #[.int .i64 a, .int .i64 b, .int .i64 c, .int .i64 e]) w := by kernel_rfl
set_option maxRecDepth 100000 in
theorem step_eq (k a b c e r u : Int) (w : World) : (Op.equalIn 10000 38 (.agg #[.int .i64 k, .int .i64 a, .int .i64 b, .int .i64 c, .int .i64 e, .int .i64 r, .int .i64 u]) (.agg #[.int .i64 k, .int .i64 a, .int .i64 b, .int .i64 c, .int .i64 e, .int .i64 r, .int .i64 u])).run Try.prog w = .ok true w := by
  rw [show (10000 : Nat) = 9997 + 1 + 1 + 1 from rfl, run_equalIn_struct w (9997 + 1 + 1) 38 _ _ step_fields (by kernel_rfl)]
  have h1 := fun x => run_equalIn_int (P := Try.prog) w (9997 + 1) 3 .i64 .i64 x x Try.underlying3
  have h2 := fun x => run_equalIn_int (P := Try.prog) w (9997 + 1) 2 .i64 .i64 x x Try.underlying2
  have h3 := state_eqN 9997 a b c e w
  have p0 := run_part_plain (P := Try.prog) (w := w) (e := 3) (by kernel_rfl) (xs := #[.int .i64 k, .int .i64 a, .int .i64 b, .int .i64 c, .int .i64 e, .int .i64 r, .int .i64 u]) (off := 0) (v := .int .i64 k) rfl
  have p1 := step_part k a b c e r u w
  have p2 := run_part_plain (P := Try.prog) (w := w) (e := 2) (by kernel_rfl) (xs := #[.int .i64 k, .int .i64 a, .int .i64 b, .int .i64 c, .int .i64 e, .int .i64 r, .int .i64 u]) (off := 5) (v := .int .i64 r) rfl
  have p3 := run_part_plain (P := Try.prog) (w := w) (e := 3) (by kernel_rfl) (xs := #[.int .i64 k, .int .i64 a, .int .i64 b, .int .i64 c, .int .i64 e, .int .i64 r, .int .i64 u]) (off := 6) (v := .int .i64 u) rfl
  unfold Program.fieldsOf
  rw [Try.underlying38]
  simp [Op.eqFields, h1, h2, h3, p0, p1, p2, p3]
set_option maxHeartbeats 1000000 in
theorem step_nil (s0 s1 s2 s3 k g f : Int) (w : World) :
    Calls Try.prog 13 #[.pointer none, .agg #[.int .i64 s0, .int .i64 s1, .int .i64 s2, .int .i64 s3], .int .i64 k, .int .i64 g, .int .i64 f] w fun e w' => e = .returned (.agg #[.int .i64 4, .int .i64 0, .int .i64 0, .int .i64 0, .int .i64 0, .int .i64 0, .int .i64 0]) ∧ Below w.heap.size w w' := by
  have HB : Bx (Below w.heap.size w ((w.alloc (.cells #[.int .i64 s0, .int .i64 s1, .int .i64 s2, .int .i64 s3] 24)).alloc (.cells #[.int .i64 0, .int .i64 0, .int .i64 0, .int .i64 0, .int .i64 0, .int .i64 0, .int .i64 0] 38))) := ⟨((Below.refl _ _).alloc (Nat.le_refl _) _).alloc (by simp) _⟩
  have hgz := heap_alloc_new (w.alloc (.cells #[.int .i64 s0, .int .i64 s1, .int .i64 s2, .int .i64 s3] 24)) (.cells #[.int .i64 0, .int .i64 0, .int .i64 0, .int .i64 0, .int .i64 0, .int .i64 0, .int .i64 0] 38)
  rw [show (w.alloc (.cells #[.int .i64 s0, .int .i64 s1, .int .i64 s2, .int .i64 s3] 24)).heap.size = w.heap.size + 1 from by simp] at hgz
  have HGE : Bx (w.heap.size ≤ w.heap.size + 1) := ⟨by omega⟩
  go_enter Try.func13, Try.ntmps13
  go_upto_region 1 with fail
  generalize (w.alloc (.cells #[.int .i64 s0, .int .i64 s1, .int .i64 s2, .int .i64 s3] 24)).alloc (.cells #[.int .i64 0, .int .i64 0, .int .i64 0, .int .i64 0, .int .i64 0, .int .i64 0, .int .i64 0] 38) = w0 at HB hgz ⊢
  generalize w.heap.size + 1 = gz at hgz HGE ⊢
  have z0 := cell_of_row _ gz 0 _ _ (0, 0) hgz
  have z1 := cell_of_row _ gz 1 _ _ (0, 0) hgz
  have z2 := cell_of_row _ gz 2 _ _ (0, 0) hgz
  have z3 := cell_of_row _ gz 3 _ _ (0, 0) hgz
  have z4 := cell_of_row _ gz 4 _ _ (0, 0) hgz
  have z5 := cell_of_row _ gz 5 _ _ (0, 0) hgz
  have z6 := cell_of_row _ gz 6 _ _ (0, 0) hgz
  have f0 := frozen_of_row _ gz 0 _ _ hgz
  have f1 := frozen_of_row _ gz 1 _ _ hgz
  have f2 := frozen_of_row _ gz 2 _ _ hgz
  have f3 := frozen_of_row _ gz 3 _ _ hgz
  have f4 := frozen_of_row _ gz 4 _ _ hgz
  have f5 := frozen_of_row _ gz 5 _ _ hgz
  have f6 := frozen_of_row _ gz 6 _ _ hgz
  have HZ := Bx.mk hgz
  clear hgz
  go_wp2_with fail
  exact bodyPost_ret (v := .agg #[.int .i64 4, .int .i64 0, .int .i64 0, .int .i64 0, .int .i64 0, .int .i64 0, .int .i64 0]) (by simp [results, Try.results13, go_sem, z0, z1, z2, z3, z4, z5, z6]) rfl ⟨rfl, ((((((HB.out.setCell (p := ⟨gz, 0, none⟩) HGE.out _).setCell (p := ⟨gz, 1, none⟩) HGE.out _).setCell (p := ⟨gz, 2, none⟩) HGE.out _).setCell (p := ⟨gz, 3, none⟩) HGE.out _).setCell (p := ⟨gz, 4, none⟩) HGE.out _).setCell (p := ⟨gz, 5, none⟩) HGE.out _).setCell (p := ⟨gz, 6, none⟩) HGE.out _⟩
end Go.Proofs.Ytpbdgacdbhabhaa
