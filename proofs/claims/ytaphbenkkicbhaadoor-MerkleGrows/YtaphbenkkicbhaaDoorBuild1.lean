/- A list of one digest, written out; and a digest's comparison with whatever digest. -/
import Derived.Test.YtaphbenkkicbhaaDoorDgsApp
namespace Go.Proofs.YtaphbenkkicbhaaDoor
open Go.RowKit
set_option linter.unusedVariables false

theorem fold_set : ∀ (l : List Value) (k : Nat) (cs : Array Value), k + l.length ≤ cs.size →
    ((l.zipIdx k).foldl (fun (cs : Array Value) (p : Value × Nat) => cs.setIfInBounds (0 + p.2) p.1) cs).size = cs.size ∧ ∀ j, ((l.zipIdx k).foldl (fun (cs : Array Value) (p : Value × Nat) => cs.setIfInBounds (0 + p.2) p.1) cs)[j]? = if k ≤ j ∧ j < k + l.length then l[j - k]? else cs[j]? := by
  intro l
  induction l with
  | nil => intro k cs _; exact ⟨rfl, fun j => by rw [if_neg (by rw [List.length_nil]; omega)]; rfl⟩
  | cons v r ih =>
    intro k cs hl
    rw [List.length_cons] at hl
    rw [List.zipIdx_cons, List.foldl_cons]
    obtain ⟨h1, h2⟩ := ih (k + 1) (cs.setIfInBounds (0 + k) v) (by simp; omega)
    refine ⟨by rw [h1]; simp, fun j => ?_⟩
    rw [h2 j, List.length_cons]
    by_cases hj : j = k
    · subst hj
      rw [if_neg (by omega), if_pos (by omega), Array.getElem?_setIfInBounds, Nat.zero_add, if_pos rfl, if_pos (by omega), Nat.sub_self]; rfl
    · by_cases hj2 : k + 1 ≤ j ∧ j < k + 1 + r.length
      · rw [if_pos hj2, if_pos (by omega), show j - k = j - (k + 1) + 1 from by omega]; simp
      · rw [if_neg hj2, if_neg (by omega)]
        simp [Ne.symm hj]
theorem build_one (R : List Int) (hR : R.length = 32) (w : World) : (Instr.buildSlice 34 1 #[(0, .agg (bv R).toArray)]).run Tryd.prog w = .ok (.slice (some ⟨w.heap.size, 0, none⟩) 1 1) (w.alloc (.cells (bv R).toArray 24)) := by
  obtain ⟨i0, hi, hz0, hz1, hz2⟩ := info_parts dgs_info
  have hs : (bv R).toArray.size = 32 := by rw [List.size_toArray, bv_length, hR]
  have hz : (zeroValue 24).run Tryd.prog w = .ok (.agg #[.int .u8 0, .int .u8 0, .int .u8 0, .int .u8 0, .int .u8 0, .int .u8 0, .int .u8 0, .int .u8 0, .int .u8 0, .int .u8 0, .int .u8 0, .int .u8 0, .int .u8 0, .int .u8 0, .int .u8 0, .int .u8 0, .int .u8 0, .int .u8 0, .int .u8 0, .int .u8 0, .int .u8 0, .int .u8 0, .int .u8 0, .int .u8 0, .int .u8 0, .int .u8 0, .int .u8 0, .int .u8 0, .int .u8 0, .int .u8 0, .int .u8 0, .int .u8 0]) w := by simp [zeroValue, typeInfo, hi, hz0]
  have hsz : (Go.sizeOf 24).run Tryd.prog w = .ok 32 w := by simp [Go.sizeOf, typeInfo, hi, hz1]
  have hu := run_underlying (P := Tryd.prog) (w := w) Tryd.underlying34
  have hfill : Instr.fill (fun i => some (i * 32, 32)) ((Array.range 32).map ((Value.agg #[.int .u8 0, .int .u8 0, .int .u8 0, .int .u8 0, .int .u8 0, .int .u8 0, .int .u8 0, .int .u8 0, .int .u8 0, .int .u8 0, .int .u8 0, .int .u8 0, .int .u8 0, .int .u8 0, .int .u8 0, .int .u8 0, .int .u8 0, .int .u8 0, .int .u8 0, .int .u8 0, .int .u8 0, .int .u8 0, .int .u8 0, .int .u8 0, .int .u8 0, .int .u8 0, .int .u8 0, .int .u8 0, .int .u8 0, .int .u8 0, .int .u8 0, .int .u8 0]).cells[· % (Value.agg #[.int .u8 0, .int .u8 0, .int .u8 0, .int .u8 0, .int .u8 0, .int .u8 0, .int .u8 0, .int .u8 0, .int .u8 0, .int .u8 0, .int .u8 0, .int .u8 0, .int .u8 0, .int .u8 0, .int .u8 0, .int .u8 0, .int .u8 0, .int .u8 0, .int .u8 0, .int .u8 0, .int .u8 0, .int .u8 0, .int .u8 0, .int .u8 0, .int .u8 0, .int .u8 0, .int .u8 0, .int .u8 0, .int .u8 0, .int .u8 0, .int .u8 0, .int .u8 0]).cells.size]!)) [(0, .agg (bv R).toArray)] = some (bv R).toArray := by
    have hc : (Value.agg (bv R).toArray).cells = (bv R).toArray := rfl
    have hm : ((Array.range 32).map ((Value.agg #[.int .u8 0, .int .u8 0, .int .u8 0, .int .u8 0, .int .u8 0, .int .u8 0, .int .u8 0, .int .u8 0, .int .u8 0, .int .u8 0, .int .u8 0, .int .u8 0, .int .u8 0, .int .u8 0, .int .u8 0, .int .u8 0, .int .u8 0, .int .u8 0, .int .u8 0, .int .u8 0, .int .u8 0, .int .u8 0, .int .u8 0, .int .u8 0, .int .u8 0, .int .u8 0, .int .u8 0, .int .u8 0, .int .u8 0, .int .u8 0, .int .u8 0, .int .u8 0]).cells[· % (Value.agg #[.int .u8 0, .int .u8 0, .int .u8 0, .int .u8 0, .int .u8 0, .int .u8 0, .int .u8 0, .int .u8 0, .int .u8 0, .int .u8 0, .int .u8 0, .int .u8 0, .int .u8 0, .int .u8 0, .int .u8 0, .int .u8 0, .int .u8 0, .int .u8 0, .int .u8 0, .int .u8 0, .int .u8 0, .int .u8 0, .int .u8 0, .int .u8 0, .int .u8 0, .int .u8 0, .int .u8 0, .int .u8 0, .int .u8 0, .int .u8 0, .int .u8 0, .int .u8 0]).cells.size]!)).size = 32 := by simp
    generalize (Array.range 32).map ((Value.agg #[.int .u8 0, .int .u8 0, .int .u8 0, .int .u8 0, .int .u8 0, .int .u8 0, .int .u8 0, .int .u8 0, .int .u8 0, .int .u8 0, .int .u8 0, .int .u8 0, .int .u8 0, .int .u8 0, .int .u8 0, .int .u8 0, .int .u8 0, .int .u8 0, .int .u8 0, .int .u8 0, .int .u8 0, .int .u8 0, .int .u8 0, .int .u8 0, .int .u8 0, .int .u8 0, .int .u8 0, .int .u8 0, .int .u8 0, .int .u8 0, .int .u8 0, .int .u8 0]).cells[· % (Value.agg #[.int .u8 0, .int .u8 0, .int .u8 0, .int .u8 0, .int .u8 0, .int .u8 0, .int .u8 0, .int .u8 0, .int .u8 0, .int .u8 0, .int .u8 0, .int .u8 0, .int .u8 0, .int .u8 0, .int .u8 0, .int .u8 0, .int .u8 0, .int .u8 0, .int .u8 0, .int .u8 0, .int .u8 0, .int .u8 0, .int .u8 0, .int .u8 0, .int .u8 0, .int .u8 0, .int .u8 0, .int .u8 0, .int .u8 0, .int .u8 0, .int .u8 0, .int .u8 0]).cells.size]!) = zs at hm
    simp only [Instr.fill, hc, hs, hm]
    rw [if_neg (by decide)]
    congr 1
    obtain ⟨h1, h2⟩ := fold_set (bv R) 0 zs (by rw [bv_length, hR, hm]; decide)
    apply Array.ext_getElem?
    intro j
    have h3 := h2 j
    rw [List.size_toArray] at hs
    have hzi : (bv R).toArray.zipIdx = ((bv R).zipIdx).toArray := by simp
    rw [hzi]
    simp only [Nat.zero_mul, List.foldl_toArray]
    rw [h3]
    by_cases hj : j < 32
    · rw [if_pos (by omega), Nat.sub_zero]; simp
    · rw [if_neg (by omega), Array.getElem?_eq_none (by omega), Array.getElem?_eq_none (by rw [List.size_toArray]; omega)]
  simp only [Instr.buildSlice, Sem.run_bind, hu, hsz, Result.andThen_ok]
  rw [if_neg (by decide), if_neg (by decide)]
  simp only [Sem.run_bind, hz, Result.andThen_ok, Nat.one_mul, Sem.run_pure]
  rw [hfill]
  simp [newRow, go_sem]
/-- a list of one digest, written out -/
theorem wp_build_one {o : Oper} {a : Act} {w : World} {K : Act → World → Prop} {Q : Exit → Act → World → Prop} (x : Operand) (ho : o.op = .buildSlice 34 1 #[(0, x)]) (R : List Int) (hR : R.length = 32) (hx : a.eval x = .agg (bv R).toArray)
    (h : K (a.put o.dst (.slice (some ⟨w.heap.size, 0, none⟩) 1 1)) (w.alloc (.cells (bv R).toArray 24))) : o.wp Tryd.prog a w K Q := by
  have hb := build_one R hR w
  unfold Oper.wp execOp
  simp [ho, hx, hb]
  exact h
theorem wpList_build_one {ops : Array Oper} {rest : List Oper} {o : Oper} {a : Act} {w : World} {Q : Exit → Act → World → Prop} (hgd : o.guard = none) (x : Operand) (ho : o.op = .buildSlice 34 1 #[(0, x)]) (R : List Int) (hR : R.length = 32) (hx : a.eval x = .agg (bv R).toArray)
    (h : wpList Tryd.prog ops Q rest (a.put o.dst (.slice (some ⟨w.heap.size, 0, none⟩) 1 1)) (w.alloc (.cells (bv R).toArray 24))) : wpList Tryd.prog ops Q (o :: rest) a w :=
  wpList_plain hgd fun _ hK => wp_build_one x ho R hR hx (hK _ _ h)
theorem one_new (w : World) (R : List Int) (hR : Dg R) : Dgs (w.alloc (.cells (bv R).toArray 24)) (some ⟨w.heap.size, 0, none⟩) 1 1 [R] := by
  refine ⟨rfl, Dgl.one hR, Nat.le_refl _, by unfold maxLen; omega, (fun hh => by cases hh), fun _ => ⟨w.heap.size, 0, rfl, by simp, fun i hi j v hj => ?_⟩⟩
  obtain rfl : i = 0 := by omega
  have h := range_row (heap_alloc_new w (.cells (bv R).toArray 24))
  exact h j v hj
/-- two digests are the same if their bytes are -/
theorem eq_any (e : TypeId) (k : IntKind) (he : Tryd.prog.underlying e = some (.int k)) (hp : Tryd.prog.plainKey e = true) (d : Nat) (xs ys : Array Value) (f g : Nat → Int) (w : World) : ∀ is : List Nat, (∀ i ∈ is, xs[i]? = some (.int k (f i))) → (∀ i ∈ is, ys[i]? = some (.int k (g i))) →
    (Op.eqItems (d + 1) e 1 xs ys is).run Tryd.prog w = .ok (is.all fun i => decide (f i = g i)) w := by
  intro is
  induction is with
  | nil => intro _ _; simp [Op.eqItems]
  | cons i r ih =>
    intro h1 h2
    have hpt1 := run_part_plain (P := Tryd.prog) (w := w) hp (xs := xs) (off := i * 1) (by rw [Nat.mul_one]; exact h1 i (by simp))
    have hpt2 := run_part_plain (P := Tryd.prog) (w := w) hp (xs := ys) (off := i * 1) (by rw [Nat.mul_one]; exact h2 i (by simp))
    have heq := run_equalIn_int (P := Tryd.prog) w d e k k (f i) (g i) he
    have hih := ih (fun j hj => h1 j (by simp [hj])) (fun j hj => h2 j (by simp [hj]))
    simp only [Op.eqItems, Sem.run_bind, hpt1, hpt2, heq, Result.andThen_ok]
    by_cases hfg : f i = g i
    · simp [hfg, hih]
    · simp [hfg]
theorem dig_cmp (l m : List Int) (hl : l.length = 32) (hm : m.length = 32) (w : World) : (Op.equalIn 10000 24 (.agg (bv l).toArray) (.agg (bv m).toArray)).run Tryd.prog w = .ok (decide (l = m)) w := by
  obtain ⟨i0, hi, hz0, hz1, hz2⟩ := info_parts Tryd.info5
  have hcell : ∀ (x : List Int), x.length = 32 → ∀ i ∈ List.range 32, (bv x).toArray[i]? = some (.int .u8 (x.getD i 0)) := by
    intro x hx i hi
    have : i < 32 := by simpa using hi
    rw [List.getElem?_toArray]
    unfold bv; rw [List.getElem?_map, List.getElem?_eq_getElem (by omega), List.getD_eq_getElem?_getD, List.getElem?_eq_getElem (by omega)]; rfl
  rw [show (10000 : Nat) = 9998 + 1 + 1 from rfl, run_equalIn_array w (9998 + 1) _ _ Tryd.underlying24 hi, show Tryd.prog.cellsOf 5 = 1 by kernel_rfl]
  rw [eq_any 5 .u8 Tryd.underlying5 (by kernel_rfl) 9998 _ _ (fun i => l.getD i 0) (fun i => m.getD i 0) w (List.range 32) (hcell l hl) (hcell m hm)]
  congr 1
  by_cases he : l = m
  · subst he; simp
  · rw [decide_eq_false he]
    rw [List.all_eq_false]
    obtain ⟨i, hne⟩ : ∃ i, l[i]? ≠ m[i]? := Classical.byContradiction fun h => he (List.ext_getElem? fun i => Classical.byContradiction fun hi => h ⟨i, hi⟩)
    have hi32 : i < 32 := by
      refine Classical.byContradiction fun h => hne ?_
      rw [List.getElem?_eq_none (by omega), List.getElem?_eq_none (by omega)]
    refine ⟨i, by simpa using hi32, ?_⟩
    rw [List.getElem?_eq_getElem (by omega), List.getElem?_eq_getElem (by omega)] at hne
    simp only [List.getD_eq_getElem?_getD, List.getElem?_eq_getElem (by omega : i < l.length), List.getElem?_eq_getElem (by omega : i < m.length), Option.getD_some, decide_eq_true_eq]
    exact fun h => hne (by rw [h])
end Go.Proofs.YtaphbenkkicbhaaDoor
