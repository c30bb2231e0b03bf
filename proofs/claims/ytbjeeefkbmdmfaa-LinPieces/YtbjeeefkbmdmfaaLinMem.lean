/- Positions and the document's own search in memory; what there is no search of. -/
import Derived.Test.YtbjeeefkbmdmfaaLnc
import Derived.Test.YtbjeeefkbmdmfaaOrIn
import Derived.Test.YtbjeeefkbmdmfaaHBef
import Derived.Test.YtbjeeefkbmdmfaaLnd
namespace Go.Proofs.Ytbjeeefkbmdmfaa
open Go.RowKit
set_option linter.unusedVariables false

/-- why there is no search -/
def linE (l : List Ic) (f b : Int) (ops : List Opr) : Int :=
  if (thr l).2.2 ≠ 0 then (thr l).2.2 else if f < 0 ∨ 10000 < f ∨ b < 0 ∨ 1073741824 < b then 2 else if 64 < ops.length then 5 else
  if (List.range ops.length).any (fun i => befO (opN ops i) (opN ops i)) = true then 17 else 0
set_option maxRecDepth 100000 in
theorem lin_bad {ops : List Opr} {i : Nat} (hi : i < ops.length) (h : befO (opN ops i) (opN ops i) = true) : (List.range ops.length).any (fun i => befO (opN ops i) (opN ops i)) = true := by
  rw [List.any_eq_true]; exact ⟨i, List.mem_range.2 hi, h⟩
set_option maxRecDepth 100000 in
theorem lin_good {ops : List Opr} (h : ∀ i, i < ops.length → befO (opN ops i) (opN ops i) = false) : (List.range ops.length).any (fun i => befO (opN ops i) (opN ops i)) = false := by
  rw [List.any_eq_false]; exact fun i hi => by rw [h i (List.mem_range.1 hi)]; decide
structure LinK (l : List Ic) (f b : Int) (ops : List Opr) : Prop where
  code : (thr l).2.2 = 0
  fuel : 0 ≤ f ∧ f ≤ 10000
  bud : 0 ≤ b ∧ b ≤ 1073741824
  few : ops.length ≤ 64
  irr : ∀ i, i < ops.length → befO (opN ops i) (opN ops i) = false
set_option maxRecDepth 100000 in
theorem linE_ok {l : List Ic} {f b : Int} {ops : List Opr} (h : linE l f b ops = 0) : LinK l f b ops := by
  unfold linE at h
  by_cases h1 : (thr l).2.2 ≠ 0
  · rw [if_pos h1] at h; exact absurd h h1
  rw [if_neg h1] at h
  by_cases h2 : f < 0 ∨ 10000 < f ∨ b < 0 ∨ 1073741824 < b
  · rw [if_pos h2] at h; cases h
  rw [if_neg h2] at h
  by_cases h3 : 64 < ops.length
  · rw [if_pos h3] at h; cases h
  rw [if_neg h3] at h
  by_cases h4 : (List.range ops.length).any (fun i => befO (opN ops i) (opN ops i)) = true
  · rw [if_pos h4] at h; cases h
  refine ⟨Classical.byContradiction h1, by omega, by omega, by omega, fun i hi => ?_⟩
  cases e : befO (opN ops i) (opN ops i) with
  | false => rfl
  | true => exact absurd (lin_bad hi e) h4
set_option maxRecDepth 100000 in
/-- the cells of an operation of a list, at a given place -/
theorem or_spot {w : World} {b off n c : Nat} {L : List Opr} {X : Opr} (h : Ors w (some ⟨b, off, none⟩) n c L) (i : Nat) (hi : i < n) (hX : L.getD i op0 = X) :
    w.cell? ⟨b, off + i * 7, none⟩ = some (.int .i64 X.c) ∧ w.cell? ⟨b, off + i * 7 + 1, none⟩ = some (.int .i64 X.o) ∧ w.cell? ⟨b, off + i * 7 + 2, none⟩ = some (.int .i64 X.a) ∧ w.cell? ⟨b, off + i * 7 + 3, none⟩ = some (.bool X.d) ∧
    w.cell? ⟨b, off + i * 7 + 4, none⟩ = some (.int .i64 X.r) ∧ w.cell? ⟨b, off + i * 7 + 5, none⟩ = some (.int .i64 X.f) ∧ w.cell? ⟨b, off + i * 7 + 6, none⟩ = some (.int .i64 X.t) := by
  obtain ⟨b', off', e, _, hh⟩ := h.or i hi
  cases e
  rw [hX] at hh
  exact hh
set_option maxRecDepth 100000 in
theorem up_bvs {a : Option Addr} {n c : Nat} {L : List Bool} : Up (fun W => Bvs W a n c L) := fun W W' h hb => h.below hb
set_option maxRecDepth 100000 in
theorem up_ors' {a : Option Addr} {n c : Nat} {L : List Opr} : Up (fun W => Ors W a n c L) := fun W W' h hb => h.below hb
set_option maxRecDepth 100000 in
/-- states compared, whatever they are -/
theorem Try.infoL18 : (Try.prog.info? 2).map (fun i => (i.zero, i.size, i.bytes)) = some (some (.int .i64 0), 1, 8) := by kernel_rfl
set_option maxRecDepth 100000 in
theorem eq_long (d : Nat) (xs ys : Array Value) (f g : Nat → Int) (w : World) : ∀ is : List Nat, (∀ i ∈ is, xs[i]? = some (.int .i64 (f i))) → (∀ i ∈ is, ys[i]? = some (.int .i64 (g i))) →
    (Op.eqItems (d + 1) 2 1 xs ys is).run Try.prog w = .ok (is.all fun i => decide (f i = g i)) w := by
  intro is
  induction is with
  | nil => intro _ _; simp [Op.eqItems]
  | cons i r ih =>
    intro h1 h2
    have hpt1 := run_part_plain (P := Try.prog) (w := w) (e := 2) (by kernel_rfl) (xs := xs) (off := i * 1) (by rw [Nat.mul_one]; exact h1 i (by simp))
    have hpt2 := run_part_plain (P := Try.prog) (w := w) (e := 2) (by kernel_rfl) (xs := ys) (off := i * 1) (by rw [Nat.mul_one]; exact h2 i (by simp))
    have heq := run_equalIn_int (P := Try.prog) w d 2 .i64 .i64 (f i) (g i) Try.underlying2
    have hih := ih (fun j hj => h1 j (by simp [hj])) (fun j hj => h2 j (by simp [hj]))
    simp only [Op.eqItems, Sem.run_bind, hpt1, hpt2, heq, Result.andThen_ok]
    by_cases hfg : f i = g i
    · simp [hfg, hih]
    · simp [hfg]
set_option maxRecDepth 100000 in
theorem state_cmp (a b c e a' b' c' e' : Int) (w : World) : (Op.equalIn 10000 70 (.agg #[.int .i64 a, .int .i64 b, .int .i64 c, .int .i64 e]) (.agg #[.int .i64 a', .int .i64 b', .int .i64 c', .int .i64 e'])).run Try.prog w = .ok (decide ([a, b, c, e] = [a', b', c', e'])) w := by
  obtain ⟨i0, hi, hz0, hz1, hz2⟩ := info_parts Try.infoL18
  have hcell : ∀ (a b c e : Int), ∀ i ∈ List.range 4, (#[Value.int .i64 a, .int .i64 b, .int .i64 c, .int .i64 e])[i]? = some (.int .i64 ([a, b, c, e].getD i 0)) := by
    intro a b c e i hi
    have h4 : i < 4 := by simpa using hi
    match i, h4 with
    | 0, _ => rfl
    | 1, _ => rfl
    | 2, _ => rfl
    | 3, _ => rfl
  rw [show (10000 : Nat) = 9998 + 1 + 1 from rfl, run_equalIn_array w (9998 + 1) _ _ Try.underlying70 hi, show Try.prog.cellsOf 2 = 1 by kernel_rfl]
  rw [eq_long 9998 _ _ (fun i => [a, b, c, e].getD i 0) (fun i => [a', b', c', e'].getD i 0) w (List.range 4) (hcell a b c e) (hcell a' b' c' e')]
  congr 1
  by_cases h0 : a = a' <;> by_cases h1 : b = b' <;> by_cases h2 : c = c' <;> by_cases h3 : e = e' <;> simp [h0, h1, h2, h3, List.range, List.range.loop]
end Go.Proofs.Ytbjeeefkbmdmfaa
