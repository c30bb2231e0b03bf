/- What the law DiskOff needs besides: a row of bools that is filled; all writes kept. -/
import Derived.Test.YtihmfnndnjhpbaaAll9
namespace Go.Proofs.Ytihmfnndnjhpbaa
open Go.RowKit
set_option linter.unusedVariables false

set_option maxRecDepth 100000 in
theorem kpt_all (O : List (Nat × List Int)) : ∀ m, O.length ≤ m → kpt O (List.replicate m true) = O := by
  induction O with
  | nil => intro m _; cases m <;> rfl
  | cons o r ih =>
    intro m hm
    rw [List.length_cons] at hm
    obtain ⟨q, rfl⟩ : ∃ q, m = q + 1 := ⟨m - 1, by omega⟩
    rw [List.replicate_succ]
    show (if true = true then o :: kpt r (List.replicate q true) else _) = _
    rw [if_pos rfl, ih q (by omega)]
/-- the first j are true -/
def flC (m j : Nat) : List Value := (List.range m).map fun i => .bool (decide (i < j))
set_option maxRecDepth 100000 in
theorem flC_len (m j : Nat) : (flC m j).length = m := by simp [flC]
set_option maxRecDepth 100000 in
theorem flC_get (m j i : Nat) (hi : i < m) : (flC m j)[i]? = some (.bool (decide (i < j))) := by
  unfold flC; rw [List.getElem?_map, List.getElem?_range hi]; rfl
set_option maxRecDepth 100000 in
theorem flC_set (m j : Nat) (hj : j < m) : (flC m j).toArray.setIfInBounds j (.bool true) = (flC m (j + 1)).toArray := by
  apply Array.ext_getElem?
  intro i
  rw [Array.getElem?_setIfInBounds, List.getElem?_toArray, List.getElem?_toArray, List.size_toArray, flC_len]
  by_cases h : j = i
  · subst h
    rw [if_pos rfl, if_pos hj, flC_get m (j + 1) j hj, decide_eq_true (by omega)]
  · rw [if_neg h]
    by_cases hi : i < m
    · rw [flC_get m j i hi, flC_get m (j + 1) i hi]
      congr 2
      by_cases h2 : i < j
      · rw [decide_eq_true h2, decide_eq_true (by omega)]
      · rw [decide_eq_false h2, decide_eq_false (by omega)]
    · rw [List.getElem?_eq_none (by rw [flC_len]; omega), List.getElem?_eq_none (by rw [flC_len]; omega)]
set_option maxRecDepth 100000 in
theorem flC_made (m : Nat) : (madeCells (Value.bool false).cells (m * 1)).toList = flC m 0 := by
  apply List.ext_getElem?
  intro i
  by_cases hi : i < m
  · rw [flC_get m 0 i hi]
    simp [madeCells, hi, Value.cells, Nat.mod_one]
  · rw [List.getElem?_eq_none (by simp [madeCells]; omega), List.getElem?_eq_none (by rw [flC_len]; omega)]
set_option maxRecDepth 100000 in
theorem flC_bls {w : World} {G m : Nat} (h : w.heap[G]? = some (.cells (flC m m).toArray 4 (0, 0))) (hm : m ≤ maxLen) : Bls w (some ⟨G, 0, none⟩) m m (List.replicate m true) := by
  refine ⟨by simp, Nat.le_refl _, hm, fun hp => ⟨G, 0, rfl, (Array.getElem?_eq_some_iff.1 h).1, fun i hi => ?_⟩⟩
  rw [cell_of_row _ _ (0 + i) _ _ (0, 0) h, List.getElem?_toArray, Nat.zero_add, flC_get m m i hi, decide_eq_true hi, List.getD_eq_getElem?_getD, List.getElem?_replicate, if_pos hi]; rfl
set_option maxRecDepth 100000 in
theorem bool_info : (Try.prog.info? 4).map (fun i => (i.zero, i.size, i.bytes)) = some (some (.bool false), 1, 1) := by kernel_rfl
set_option maxRecDepth 100000 in
theorem wpList_make_bools {ops : Array Oper} {rest : List Oper} {o : Oper} {a : Act} {w : World} {Q : Exit → Act → World → Prop} (hgd : o.guard = none) (l c : Operand) (ho : o.op = .makeSlice 34 l c) (m : Nat) (hl : a.eval l = .int .i64 m) (hc : a.eval c = .int .i64 m) (hm : m ≤ 1000000)
    (h : ∀ w' G, Bx (G = w.heap.size) → w'.heap[G]? = some (.cells (flC m 0).toArray 4 (0, 0)) → Bx (Below w.heap.size w w') → wpList Try.prog ops Q rest (a.put o.dst (.slice (some ⟨G, 0, none⟩) m m)) w') : wpList Try.prog ops Q (o :: rest) a w := by
  obtain ⟨i0, hi, hz0, hz1, hz2⟩ := info_parts bool_info
  refine wpList_make_full w hgd l c 34 ho w.heap.size 4 i0 (.bool false) 1 Try.underlying34 hi hz0 hz1 .i64 .i64 m m m hl hc rfl rfl (by rw [hz2]; omega) (by unfold maxLen; omega) (Nat.le_refl _) (fun w' h1 h2 => h w' _ ⟨rfl⟩ ?_ ⟨(Below.refl _ _).grown h2 (Nat.le_refl _) (by intro k hk; cases hk)⟩)
  rw [flC_made] at h1
  rcases h1.2 with ⟨h3, _⟩ | ⟨g', cap', cur, hv, hg, hh, hn, hm', hs, ht⟩
  · cases h3
  · cases hv
    rw [hh]
    congr 1
    have : cur.toList = flC m 0 := by rw [← ht, List.take_of_length_le (by rw [Array.length_toList, hs]; exact Nat.le_refl _)]
    rw [← this]
set_option maxRecDepth 100000 in
theorem least_q (n lo hi : Int) (w : World) (q : Nat) : Calls Try.prog 20 #[.int .i64 n, .int .i64 lo, .int .i64 hi] (w.drewN q) fun e w' => e = .returned (.int .i64 (leastV n lo hi)) ∧ w' = w.drewN q :=
  (least_any n lo hi _).mono fun e w' ⟨h1, h2⟩ => ⟨h1, h2.symm⟩
/-- the armed disk beside the other: so many steps are to come -/
structure Pair (sd sx : DS) (r : Nat) : Prop where
  eq : sd = ⟨sx.F, sx.O, true, (r : Int), false⟩
  e8 : Eight sx
set_option maxRecDepth 100000 in
theorem Pair.last {sd sx : DS} {r : Nat} (h : Pair sd sx r) : sd.last = decide (r = 0) := by
  rw [h.eq]
  show (true && decide ((r : Int) = 0)) = _
  by_cases h0 : r = 0
  · subst h0; rfl
  · rw [decide_eq_false h0, decide_eq_false (by omega)]; rfl
set_option maxRecDepth 100000 in
theorem Pair.wr0 {sd sx : DS} (h : Pair sd sx 0) (x : Int) (b : List Int) (h1 : 0 ≤ x) (h2 : x ≤ 7) (h3 : b.length ≤ 64) : sd.wrE x b = 14 ∧ sd.wr x b = ⟨sx.F, sx.O, true, 0, true⟩ := by
  have hf : sd.fits x b = true := DS.fits_iff.2 ⟨h1, by rw [h.eq]; show x < (sx.F.length : Int); rw [h.e8.n]; omega, h3⟩
  have hl := h.last
  have ho : sd.off = false := by rw [h.eq]
  simp only [decide_true] at hl
  unfold DS.wrE DS.wr
  rw [ho, hf, hl]
  refine ⟨rfl, ?_⟩
  show sd.dead = _
  rw [h.eq]; rfl
set_option maxRecDepth 100000 in
theorem Pair.wr1 {sd sx : DS} {r : Nat} (h : Pair sd sx (r + 1)) (x : Int) (b : List Int) (h1 : 0 ≤ x) (h2 : x ≤ 7) (h3 : b.length ≤ 64) : sd.wrE x b = 0 ∧ Pair (sd.wr x b) (sx.wr x b) r := by
  have hf : sd.fits x b = true := DS.fits_iff.2 ⟨h1, by rw [h.eq]; show x < (sx.F.length : Int); rw [h.e8.n]; omega, h3⟩
  have hl := h.last
  rw [decide_eq_false (by omega)] at hl
  have ho : sd.off = false := by rw [h.eq]
  have hx := (h.e8.wr x b h1 h2 h3).1
  refine ⟨by unfold DS.wrE; rw [ho, hf, hl]; rfl, ?_, ?_⟩
  · rw [hx]
    have hd : sd.wr x b = { sd.tick with O := sd.O ++ [(x.toNat, pad64 b)] } := by unfold DS.wr; rw [ho, hf, hl]; rfl
    rw [hd, h.eq]
    simp [DS.tick]
  · rw [hx]; exact ⟨h.e8.n, h.e8.armed, h.e8.off⟩
set_option maxRecDepth 100000 in
theorem Pair.sy0 {sd sx : DS} (h : Pair sd sx 0) : sd.syE = 14 ∧ sd.sy = ⟨sx.F, sx.O, true, 0, true⟩ := by
  have hl := h.last
  have ho : sd.off = false := by rw [h.eq]
  simp only [decide_true] at hl
  unfold DS.syE DS.sy
  rw [ho, hl]
  refine ⟨rfl, ?_⟩
  show sd.dead = _
  rw [h.eq]; rfl
set_option maxRecDepth 100000 in
theorem Pair.sy1 {sd sx : DS} {r : Nat} (h : Pair sd sx (r + 1)) : sd.syE = 0 ∧ Pair sd.sy sx.sy r := by
  have hl := h.last
  rw [decide_eq_false (by omega)] at hl
  have ho : sd.off = false := by rw [h.eq]
  have hx := h.e8.sy.1
  refine ⟨by unfold DS.syE; rw [ho, hl]; rfl, ?_, ?_⟩
  · rw [hx]
    have hd : sd.sy = { sd.tick with F := app sd.F sd.O, O := [] } := by unfold DS.sy; rw [ho, hl]; rfl
    rw [hd, h.eq]
    simp [DS.tick]
  · rw [hx]; exact ⟨by show (app sx.F sx.O).length = 8; rw [app_len]; exact h.e8.n, h.e8.armed, h.e8.off⟩
set_option maxRecDepth 100000 in
/-- behind a crash that keeps all both are the same -/
theorem pair_end {sd sx : DS} (hF : sd.F = sx.F) (hO : sd.O = sx.O) : (sd.cr (List.replicate sd.O.length true)).now = sx.now := by
  show app (app sd.F (kpt sd.O (List.replicate sd.O.length true))) [] = app sx.F sx.O
  rw [kpt_all _ _ (Nat.le_refl _), hF, hO]; rfl
set_option maxRecDepth 100000 in
theorem wr_open (s : DS) (x : Int) (b : List Int) : (s.wr x b).O.length ≤ s.O.length + 1 := by
  unfold DS.wr
  split
  · omega
  · split
    · split
      · simp [DS.dead]
      · simp
    · omega
set_option maxRecDepth 100000 in
theorem sy_open (s : DS) : s.sy.O.length ≤ s.O.length := by
  unfold DS.sy
  split
  · omega
  · split
    · simp [DS.dead]
    · simp
end Go.Proofs.Ytihmfnndnjhpbaa
