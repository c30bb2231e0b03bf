/- A list of one digest, written out; and a digest's comparison with whatever digest. What the document's sum by a key answers. -/
import Derived.Test.YtbednfacipphhaaDoorAuba
import Derived.Test.YtbednfacipphhaaDoorAuaf
import Derived.Test.YtbednfacipphhaaDoorAuav
namespace Go.Proofs.YtbednfacipphhaaDoor
open Go.RowKit
set_option linter.unusedVariables false

set_option maxRecDepth 100000 in
theorem fold_set : ∀ (l : List Value) (k : Nat) (cs : Array Value), k + l.length ≤ cs.size →
    ((l.zipIdx k).foldl (fun (cs : Array Value) (p : Value × Nat) => cs.setIfInBounds (0 + p.2) p.1) cs).size = cs.size ∧ ∀ j, ((l.zipIdx k).foldl (fun (cs : Array Value) (p : Value × Nat) => cs.setIfInBounds (0 + p.2) p.1) cs)[j]? = if k ≤ j ∧ j < k + l.length then l[j - k]? else cs[j]? := by
  intro l
  induction l with
  | nil => intro k cs _; exact ⟨rfl, fun j => by rw [if_neg (by rw [List.length_nil]; omega)]; rfl⟩
  | cons v r ih =>
    intro k cs hl
    rw [List.length_cons] at hl
    rw [List.zipIdx_cons, List.foldl_cons]
    obtain ⟨h1, h2⟩ := ih (k + 1) (cs.setIfInBounds (0 + k) v) (by simp; omega)
    refine ⟨by rw [h1]; simp, fun j => ?_⟩
    rw [h2 j, List.length_cons]
    by_cases hj : j = k
    · subst hj
      rw [if_neg (by omega), if_pos (by omega), Array.getElem?_setIfInBounds, Nat.zero_add, if_pos rfl, if_pos (by omega), Nat.sub_self]; rfl
    · by_cases hj2 : k + 1 ≤ j ∧ j < k + 1 + r.length
      · rw [if_pos hj2, if_pos (by omega), show j - k = j - (k + 1) + 1 from by omega]; simp
      · rw [if_neg hj2, if_neg (by omega)]
        simp [Ne.symm hj]
set_option maxRecDepth 100000 in
theorem build_one (R : List Int) (hR : R.length = 32) (w : World) : (Instr.buildSlice 60 1 #[(0, .agg (bv R).toArray)]).run Tryd.prog w = .ok (.slice (some ⟨w.heap.size, 0, none⟩) 1 1) (w.alloc (.cells (bv R).toArray 30)) := by
  obtain ⟨i0, hi, hz0, hz1, hz2⟩ := info_parts dgs_info
  have hs : (bv R).toArray.size = 32 := by rw [List.size_toArray, bv_length, hR]
  have hz : (zeroValue 30).run Tryd.prog w = .ok (.agg #[.int .u8 0, .int .u8 0, .int .u8 0, .int .u8 0, .int .u8 0, .int .u8 0, .int .u8 0, .int .u8 0, .int .u8 0, .int .u8 0, .int .u8 0, .int .u8 0, .int .u8 0, .int .u8 0, .int .u8 0, .int .u8 0, .int .u8 0, .int .u8 0, .int .u8 0, .int .u8 0, .int .u8 0, .int .u8 0, .int .u8 0, .int .u8 0, .int .u8 0, .int .u8 0, .int .u8 0, .int .u8 0, .int .u8 0, .int .u8 0, .int .u8 0, .int .u8 0]) w := by simp [zeroValue, typeInfo, hi, hz0]
  have hsz : (Go.sizeOf 30).run Tryd.prog w = .ok 32 w := by simp [Go.sizeOf, typeInfo, hi, hz1]
  have hu := run_underlying (P := Tryd.prog) (w := w) Tryd.underlying60
  have hfill : Instr.fill (fun i => some (i * 32, 32)) ((Array.range 32).map ((Value.agg #[.int .u8 0, .int .u8 0, .int .u8 0, .int .u8 0, .int .u8 0, .int .u8 0, .int .u8 0, .int .u8 0, .int .u8 0, .int .u8 0, .int .u8 0, .int .u8 0, .int .u8 0, .int .u8 0, .int .u8 0, .int .u8 0, .int .u8 0, .int .u8 0, .int .u8 0, .int .u8 0, .int .u8 0, .int .u8 0, .int .u8 0, .int .u8 0, .int .u8 0, .int .u8 0, .int .u8 0, .int .u8 0, .int .u8 0, .int .u8 0, .int .u8 0, .int .u8 0]).cells[· % (Value.agg #[.int .u8 0, .int .u8 0, .int .u8 0, .int .u8 0, .int .u8 0, .int .u8 0, .int .u8 0, .int .u8 0, .int .u8 0, .int .u8 0, .int .u8 0, .int .u8 0, .int .u8 0, .int .u8 0, .int .u8 0, .int .u8 0, .int .u8 0, .int .u8 0, .int .u8 0, .int .u8 0, .int .u8 0, .int .u8 0, .int .u8 0, .int .u8 0, .int .u8 0, .int .u8 0, .int .u8 0, .int .u8 0, .int .u8 0, .int .u8 0, .int .u8 0, .int .u8 0]).cells.size]!)) [(0, .agg (bv R).toArray)] = some (bv R).toArray := by
    have hc : (Value.agg (bv R).toArray).cells = (bv R).toArray := rfl
    have hm : ((Array.range 32).map ((Value.agg #[.int .u8 0, .int .u8 0, .int .u8 0, .int .u8 0, .int .u8 0, .int .u8 0, .int .u8 0, .int .u8 0, .int .u8 0, .int .u8 0, .int .u8 0, .int .u8 0, .int .u8 0, .int .u8 0, .int .u8 0, .int .u8 0, .int .u8 0, .int .u8 0, .int .u8 0, .int .u8 0, .int .u8 0, .int .u8 0, .int .u8 0, .int .u8 0, .int .u8 0, .int .u8 0, .int .u8 0, .int .u8 0, .int .u8 0, .int .u8 0, .int .u8 0, .int .u8 0]).cells[· % (Value.agg #[.int .u8 0, .int .u8 0, .int .u8 0, .int .u8 0, .int .u8 0, .int .u8 0, .int .u8 0, .int .u8 0, .int .u8 0, .int .u8 0, .int .u8 0, .int .u8 0, .int .u8 0, .int .u8 0, .int .u8 0, .int .u8 0, .int .u8 0, .int .u8 0, .int .u8 0, .int .u8 0, .int .u8 0, .int .u8 0, .int .u8 0, .int .u8 0, .int .u8 0, .int .u8 0, .int .u8 0, .int .u8 0, .int .u8 0, .int .u8 0, .int .u8 0, .int .u8 0]).cells.size]!)).size = 32 := by simp
    generalize (Array.range 32).map ((Value.agg #[.int .u8 0, .int .u8 0, .int .u8 0, .int .u8 0, .int .u8 0, .int .u8 0, .int .u8 0, .int .u8 0, .int .u8 0, .int .u8 0, .int .u8 0, .int .u8 0, .int .u8 0, .int .u8 0, .int .u8 0, .int .u8 0, .int .u8 0, .int .u8 0, .int .u8 0, .int .u8 0, .int .u8 0, .int .u8 0, .int .u8 0, .int .u8 0, .int .u8 0, .int .u8 0, .int .u8 0, .int .u8 0, .int .u8 0, .int .u8 0, .int .u8 0, .int .u8 0]).cells[· % (Value.agg #[.int .u8 0, .int .u8 0, .int .u8 0, .int .u8 0, .int .u8 0, .int .u8 0, .int .u8 0, .int .u8 0, .int .u8 0, .int .u8 0, .int .u8 0, .int .u8 0, .int .u8 0, .int .u8 0, .int .u8 0, .int .u8 0, .int .u8 0, .int .u8 0, .int .u8 0, .int .u8 0, .int .u8 0, .int .u8 0, .int .u8 0, .int .u8 0, .int .u8 0, .int .u8 0, .int .u8 0, .int .u8 0, .int .u8 0, .int .u8 0, .int .u8 0, .int .u8 0]).cells.size]!) = zs at hm
    simp only [Instr.fill, hc, hs, hm]
    rw [if_neg (by decide)]
    congr 1
    obtain ⟨h1, h2⟩ := fold_set (bv R) 0 zs (by rw [bv_length, hR, hm]; decide)
    apply Array.ext_getElem?
    intro j
    have h3 := h2 j
    rw [List.size_toArray] at hs
    have hzi : (bv R).toArray.zipIdx = ((bv R).zipIdx).toArray := by simp
    rw [hzi]
    simp only [Nat.zero_mul, List.foldl_toArray]
    rw [h3]
    by_cases hj : j < 32
    · rw [if_pos (by omega), Nat.sub_zero]; simp
    · rw [if_neg (by omega), Array.getElem?_eq_none (by omega), Array.getElem?_eq_none (by rw [List.size_toArray]; omega)]
  simp only [Instr.buildSlice, Sem.run_bind, hu, hsz, Result.andThen_ok]
  rw [if_neg (by decide), if_neg (by decide)]
  simp only [Sem.run_bind, hz, Result.andThen_ok, Nat.one_mul, Sem.run_pure]
  rw [hfill]
  simp [newRow, go_sem]
set_option maxRecDepth 100000 in
/-- a list of one digest, written out -/
theorem wp_build_one {o : Oper} {a : Act} {w : World} {K : Act → World → Prop} {Q : Exit → Act → World → Prop} (x : Operand) (ho : o.op = .buildSlice 60 1 #[(0, x)]) (R : List Int) (hR : R.length = 32) (hx : a.eval x = .agg (bv R).toArray)
    (h : K (a.put o.dst (.slice (some ⟨w.heap.size, 0, none⟩) 1 1)) (w.alloc (.cells (bv R).toArray 30))) : o.wp Tryd.prog a w K Q := by
  have hb := build_one R hR w
  unfold Oper.wp execOp
  simp [ho, hx, hb]
  exact h
set_option maxRecDepth 100000 in
theorem wpList_build_one {ops : Array Oper} {rest : List Oper} {o : Oper} {a : Act} {w : World} {Q : Exit → Act → World → Prop} (hgd : o.guard = none) (x : Operand) (ho : o.op = .buildSlice 60 1 #[(0, x)]) (R : List Int) (hR : R.length = 32) (hx : a.eval x = .agg (bv R).toArray)
    (h : wpList Tryd.prog ops Q rest (a.put o.dst (.slice (some ⟨w.heap.size, 0, none⟩) 1 1)) (w.alloc (.cells (bv R).toArray 30))) : wpList Tryd.prog ops Q (o :: rest) a w :=
  wpList_plain hgd fun _ hK => wp_build_one x ho R hR hx (hK _ _ h)
set_option maxRecDepth 100000 in
theorem one_new (w : World) (R : List Int) (hR : Dg R) : Dgs (w.alloc (.cells (bv R).toArray 30)) (some ⟨w.heap.size, 0, none⟩) 1 1 [R] := by
  refine ⟨rfl, Dgl.one hR, Nat.le_refl _, by unfold maxLen; omega, (fun hh => by cases hh), fun _ => ⟨w.heap.size, 0, rfl, by simp, fun i hi j v hj => ?_⟩⟩
  obtain rfl : i = 0 := by omega
  have h := range_row (heap_alloc_new w (.cells (bv R).toArray 30))
  exact h j v hj
set_option maxRecDepth 100000 in
/-- two digests are the same if their bytes are -/
theorem eq_any (e : TypeId) (k : IntKind) (he : Tryd.prog.underlying e = some (.int k)) (hp : Tryd.prog.plainKey e = true) (d : Nat) (xs ys : Array Value) (f g : Nat → Int) (w : World) : ∀ is : List Nat, (∀ i ∈ is, xs[i]? = some (.int k (f i))) → (∀ i ∈ is, ys[i]? = some (.int k (g i))) →
    (Op.eqItems (d + 1) e 1 xs ys is).run Tryd.prog w = .ok (is.all fun i => decide (f i = g i)) w := by
  intro is
  induction is with
  | nil => intro _ _; simp [Op.eqItems]
  | cons i r ih =>
    intro h1 h2
    have hpt1 := run_part_plain (P := Tryd.prog) (w := w) hp (xs := xs) (off := i * 1) (by rw [Nat.mul_one]; exact h1 i (by simp))
    have hpt2 := run_part_plain (P := Tryd.prog) (w := w) hp (xs := ys) (off := i * 1) (by rw [Nat.mul_one]; exact h2 i (by simp))
    have heq := run_equalIn_int (P := Tryd.prog) w d e k k (f i) (g i) he
    have hih := ih (fun j hj => h1 j (by simp [hj])) (fun j hj => h2 j (by simp [hj]))
    simp only [Op.eqItems, Sem.run_bind, hpt1, hpt2, heq, Result.andThen_ok]
    by_cases hfg : f i = g i
    · simp [hfg, hih]
    · simp [hfg]
set_option maxRecDepth 100000 in
theorem dig_cmp (l m : List Int) (hl : l.length = 32) (hm : m.length = 32) (w : World) : (Op.equalIn 10000 30 (.agg (bv l).toArray) (.agg (bv m).toArray)).run Tryd.prog w = .ok (decide (l = m)) w := by
  obtain ⟨i0, hi, hz0, hz1, hz2⟩ := info_parts Tryd.info5
  have hcell : ∀ (x : List Int), x.length = 32 → ∀ i ∈ List.range 32, (bv x).toArray[i]? = some (.int .u8 (x.getD i 0)) := by
    intro x hx i hi
    have : i < 32 := by simpa using hi
    rw [List.getElem?_toArray]
    unfold bv; rw [List.getElem?_map, List.getElem?_eq_getElem (by omega), List.getD_eq_getElem?_getD, List.getElem?_eq_getElem (by omega)]; rfl
  rw [show (10000 : Nat) = 9998 + 1 + 1 from rfl, run_equalIn_array w (9998 + 1) _ _ Tryd.underlying30 hi, show Tryd.prog.cellsOf 5 = 1 by kernel_rfl]
  rw [eq_any 5 .u8 Tryd.underlying5 (by kernel_rfl) 9998 _ _ (fun i => l.getD i 0) (fun i => m.getD i 0) w (List.range 32) (hcell l hl) (hcell m hm)]
  congr 1
  by_cases he : l = m
  · subst he; simp
  · rw [decide_eq_false he]
    rw [List.all_eq_false]
    obtain ⟨i, hne⟩ : ∃ i, l[i]? ≠ m[i]? := Classical.byContradiction fun h => he (List.ext_getElem? fun i => Classical.byContradiction fun hi => h ⟨i, hi⟩)
    have hi32 : i < 32 := by
      refine Classical.byContradiction fun h => hne ?_
      rw [List.getElem?_eq_none (by omega), List.getElem?_eq_none (by omega)]
    refine ⟨i, by simpa using hi32, ?_⟩
    rw [List.getElem?_eq_getElem (by omega), List.getElem?_eq_getElem (by omega)] at hne
    simp only [List.getD_eq_getElem?_getD, List.getElem?_eq_getElem (by omega : i < l.length), List.getElem?_eq_getElem (by omega : i < m.length), Option.getD_some, decide_eq_true_eq]
    exact fun h => hne (by rw [h])
end Go.Proofs.YtbednfacipphhaaDoor
namespace Go.Proofs.YtbednfacipphhaaDoor
open Go.RowKit
set_option linter.unusedVariables false

/-- what stays while the document's Sum goes on: the answer's place, the key's block, the inner sum -/
structure RM (R P C Q : Nat) (b d : List Int) (w wr : World) : Prop where
  low : Below R w wr
  res : ∃ cs : Array Value, cs.size = 32 ∧ wr.heap[R]? = some (.cells cs 30 (0, 0))
  blk : Bts wr (some ⟨P, 0, none⟩) 64 C b
  inn : wr.heap[Q]? = some (.cells (bv d).toArray 30 (0, 0))
  rp : R < P
  pq : P < Q
set_option maxRecDepth 100000 in
theorem RM.lt {R P C Q : Nat} {b d : List Int} {w wr : World} (h : RM R P C Q b d w wr) : Q < wr.heap.size := (Array.getElem?_eq_some_iff.1 h.inn).1
set_option maxRecDepth 100000 in
theorem RM.drewN {R P C Q : Nat} {b d : List Int} {w wr : World} (h : RM R P C Q b d w wr) (n : Nat) : RM R P C Q b d w (wr.drewN n) := ⟨below_drewN h.low n, h.res, h.blk.drewN n, h.inn, h.rp, h.pq⟩
set_option maxRecDepth 100000 in
theorem RM.step {R P C Q B : Nat} {b d : List Int} {w wr w1 : World} (h : RM R P C Q b d w wr) (hb : Below B wr w1) (hB : Q < B) : RM R P C Q b d w w1 := by
  have h1 := h.rp; have h2 := h.pq
  exact ⟨h.low.trans (hb.mono (by omega)), by obtain ⟨cs, e1, e2⟩ := h.res; exact ⟨cs, e1, by rw [hb.block _ (by omega)]; exact e2⟩, bts_lowB h.blk hb (by omega), by rw [hb.block _ (by omega)]; exact h.inn, h1, h2⟩
set_option maxRecDepth 100000 in
theorem RM.held {R P C Q : Nat} {b d : List Int} {w wr : World} (h : RM R P C Q b d w wr) : wr.there R 0 32 ∧ RM R P C Q b d w wr := by
  obtain ⟨cs, e1, e2⟩ := h.res
  have := there_row e2
  rw [e1] at this
  exact ⟨this, h⟩
set_option maxRecDepth 100000 in
theorem rm_step {R P C Q : Nat} {b d : List Int} {w wr w1 : World} {p : Prop} (h : p ∧ RM R P C Q b d w wr) (hb : Below wr.heap.size wr w1) : w1.there R 0 32 ∧ RM R P C Q b d w w1 := (h.2.step hb h.2.lt).held
set_option maxRecDepth 100000 in
theorem rm_bts {R P C Q : Nat} {b d : List Int} {w wr : World} {p : Prop} (h : p ∧ RM R P C Q b d w wr) : Bts wr (some ⟨P, 0, none⟩) 64 C b := h.2.blk
set_option maxRecDepth 100000 in
theorem rm_inn {R P C Q : Nat} {b d : List Int} {w wr : World} {p : Prop} (h : p ∧ RM R P C Q b d w wr) (hd : Byt d) (hl : d.length = 32) : Bts wr (some ⟨Q, 0, none⟩) 32 32 d := bts_cells h.2.inn hd hl (by unfold maxLen; omega)
set_option maxRecDepth 100000 in
theorem RM.store {R P C Q : Nat} {b d : List Int} {w wr : World} {D : List Value} (h : RM R P C Q b d w wr) (hD : D.length = 32) : RM R P C Q b d w (wr.setCells R 0 D) ∧ (wr.setCells R 0 D).heap[R]? = some (.cells D.toArray 30 (0, 0)) := by
  have h1 := h.rp; have h2 := h.pq; have h3 := h.lt
  obtain ⟨cs, e1, e2⟩ := h.res
  have hst : (wr.setCells R 0 D).heap[R]? = some (.cells D.toArray 30 (0, 0)) := heap_stored (vs := D.toArray) e2 (by rw [e1, List.size_toArray, hD])
  have hbut : But R wr (wr.setCells R 0 D) := (But.refl _ _).setCells _ _
  refine ⟨⟨below_setCells h.low R (Nat.le_refl _) _ _, ⟨D.toArray, by rw [List.size_toArray, hD], hst⟩, h.blk.but hbut (fun _ p hp => by cases hp; show P ≠ R; omega), ?_, h1, h2⟩, hst⟩
  rw [hbut.block _ (by omega) (by omega)]; exact h.inn
set_option maxRecDepth 100000 in
theorem rm_store {R P C Q : Nat} {b d : List Int} {w wr : World} {p : Prop} {D : List Value} (h : p ∧ RM R P C Q b d w wr) (hD : D.length = 32) : (wr.setCells R 0 D).there R 0 32 ∧ RM R P C Q b d w (wr.setCells R 0 D) := (h.2.store hD).1.held

set_option maxRecDepth 100000 in
set_option maxHeartbeats 1000000 in
theorem refmac_any (a0 a1 : Option Addr) (n0 n1 c0 c1 : Nat) (k t : List Int) (w : World) (hk : Bts w a0 n0 c0 k) (ht : Bts w a1 n1 c1 t) (hbk : n0 ≤ 1099511627776) (hbt : n1 ≤ 549755813888) :
    Calls Tryd.prog 20 #[.slice a0 n0 c0, .slice a1 n1 c1] w fun e w' => e = .returned (.agg (bv (macL k t)).toArray) ∧ Below w.heap.size w w' := by
  go_enter Tryd.func20, Tryd.ntmps20
  go_wp2_with fail
  have hb0 : Below w.heap.size w (w.alloc (.cells #[.int .u8 0, .int .u8 0, .int .u8 0, .int .u8 0, .int .u8 0, .int .u8 0, .int .u8 0, .int .u8 0, .int .u8 0, .int .u8 0, .int .u8 0, .int .u8 0, .int .u8 0, .int .u8 0, .int .u8 0, .int .u8 0, .int .u8 0, .int .u8 0, .int .u8 0, .int .u8 0, .int .u8 0, .int .u8 0, .int .u8 0, .int .u8 0, .int .u8 0, .int .u8 0, .int .u8 0, .int .u8 0, .int .u8 0, .int .u8 0, .int .u8 0, .int .u8 0] 30)) := (Below.refl _ _).alloc (Nat.le_refl _) _
  obtain ⟨cs, hcs, hres0⟩ : ∃ cs : Array Value, cs.size = 32 ∧ (w.alloc (.cells #[.int .u8 0, .int .u8 0, .int .u8 0, .int .u8 0, .int .u8 0, .int .u8 0, .int .u8 0, .int .u8 0, .int .u8 0, .int .u8 0, .int .u8 0, .int .u8 0, .int .u8 0, .int .u8 0, .int .u8 0, .int .u8 0, .int .u8 0, .int .u8 0, .int .u8 0, .int .u8 0, .int .u8 0, .int .u8 0, .int .u8 0, .int .u8 0, .int .u8 0, .int .u8 0, .int .u8 0, .int .u8 0, .int .u8 0, .int .u8 0, .int .u8 0, .int .u8 0] 30)).heap[w.heap.size]? = some (.cells cs 30 (0, 0)) := ⟨#[.int .u8 0, .int .u8 0, .int .u8 0, .int .u8 0, .int .u8 0, .int .u8 0, .int .u8 0, .int .u8 0, .int .u8 0, .int .u8 0, .int .u8 0, .int .u8 0, .int .u8 0, .int .u8 0, .int .u8 0, .int .u8 0, .int .u8 0, .int .u8 0, .int .u8 0, .int .u8 0, .int .u8 0, .int .u8 0, .int .u8 0, .int .u8 0, .int .u8 0, .int .u8 0, .int .u8 0, .int .u8 0, .int .u8 0, .int .u8 0, .int .u8 0, .int .u8 0], rfl, heap_alloc_new _ _⟩
  have hs0 : (w.alloc (.cells #[.int .u8 0, .int .u8 0, .int .u8 0, .int .u8 0, .int .u8 0, .int .u8 0, .int .u8 0, .int .u8 0, .int .u8 0, .int .u8 0, .int .u8 0, .int .u8 0, .int .u8 0, .int .u8 0, .int .u8 0, .int .u8 0, .int .u8 0, .int .u8 0, .int .u8 0, .int .u8 0, .int .u8 0, .int .u8 0, .int .u8 0, .int .u8 0, .int .u8 0, .int .u8 0, .int .u8 0, .int .u8 0, .int .u8 0, .int .u8 0, .int .u8 0, .int .u8 0] 30)).heap.size = w.heap.size + 1 := by simp
  generalize w.alloc (.cells #[.int .u8 0, .int .u8 0, .int .u8 0, .int .u8 0, .int .u8 0, .int .u8 0, .int .u8 0, .int .u8 0, .int .u8 0, .int .u8 0, .int .u8 0, .int .u8 0, .int .u8 0, .int .u8 0, .int .u8 0, .int .u8 0, .int .u8 0, .int .u8 0, .int .u8 0, .int .u8 0, .int .u8 0, .int .u8 0, .int .u8 0, .int .u8 0, .int .u8 0, .int .u8 0, .int .u8 0, .int .u8 0, .int .u8 0, .int .u8 0, .int .u8 0, .int .u8 0] 30) = w0 at hb0 hres0 hs0 ⊢
  have hk0 := hk.below hb0
  have ht0 := ht.below hb0
  refine (refpadded_any a0 n0 c0 k _ hk0 hbk).mono ?_
  rintro e w1 ⟨v1, rfl, hown1, hb1⟩
  have hBl := blkK_len k
  have hBb := blkK_byt hk.byt
  have HMAC : Bx (macL k t = sumL (xorB (blkK k) 92 ++ sumL (xorB (blkK k) 54 ++ t))) := ⟨rfl⟩
  generalize blkK k = B at hBl hBb HMAC hown1
  obtain ⟨P, C, rfl, hP0, hP1⟩ := owns_form hown1 (by decide)
  obtain ⟨aP, cP, eP, hm1⟩ := Bts.of_owns hown1 hBb
  cases eP
  have ht1 := ht0.below hb1
  have hlow1 := hb0.trans (hb1.mono (by omega))
  have hres1 := (hb1.block w.heap.size (by omega)).trans hres0
  have hsz1 := hb1.size
  clear hk0 ht0 hb0 hres0 hown1 hb1
  go_wp2_with fail
  refine (refwith_any _ 64 _ B 54 _ hm1 (by decide) (by decide)).mono ?_
  rintro e w2 ⟨v2, rfl, hown2, hb2⟩
  have hXl : (xorB B 54).length = 64 := by rw [xorB_length, hBl]
  have hXb : Byt (xorB B 54) := xorB_byt hBb (by decide)
  generalize xorB B 54 = X at hXl hXb HMAC hown2
  have ht2 := ht1.below hb2
  have hm2 := hm1.below hb2
  have hres2 := (hb2.block w.heap.size (by omega)).trans hres1
  have hlow2 := hlow1.trans (hb2.mono hlow1.size)
  have hsz2 := hb2.size
  clear ht1 hm1 hres1 hlow1
  go_wp2_with (at_builtin; refine wpList_append_bts rfl _ _ rfl w1.heap.size 64 v2 X rfl hown2 a1 n1 c1 t rfl ht2 (by omega) hb2.size ?_)
  intro v3 w3 hown3 hb3 _
  have hXt : Byt (X ++ t) := hXb.append ht.byt
  obtain ⟨a3, c3, rfl, hm3⟩ := Bts.of_owns hown3 hXt
  have hsz3 := hb3.size
  have hblk3 := bts_lowB hm2 hb3 hP1
  have hres3 := (hb3.block w.heap.size (by omega)).trans hres2
  have hlow3 := hlow2.trans (hb3.mono (by omega))
  clear hown2 hown3 hm2 hres2 hlow2 hb2 hb3 ht2
  go_wp2_with fail
  refine (refsum_any _ _ _ (X ++ t) _ hm3 (by omega)).mono ?_
  rintro e w4 ⟨rfl, hb4⟩
  have hSl := sumL_length (X ++ t)
  have hSb := sumL_byt (X ++ t)
  generalize sumL (X ++ t) = I at hSl hSb HMAC ⊢
  have hblk4 := hblk3.below hb4
  have hres4 := (hb4.block w.heap.size (by omega)).trans hres3
  have hlow4 := hlow3.trans (hb4.mono (by omega))
  have hsz4 := hb4.size
  clear hm3 hblk3 hres3 hlow3 hb4 hXt
  generalize hDD : (bv I).toArray = DI
  obtain ⟨hdv, hth, hinf, hone⟩ := dig_var w4 I hSl DI hDD.symm
  have hRM : Bx (RM w.heap.size P C w4.heap.size B I w ((w4.alloc (.cells #[.int .u8 0, .int .u8 0, .int .u8 0, .int .u8 0, .int .u8 0, .int .u8 0, .int .u8 0, .int .u8 0, .int .u8 0, .int .u8 0, .int .u8 0, .int .u8 0, .int .u8 0, .int .u8 0, .int .u8 0, .int .u8 0, .int .u8 0, .int .u8 0, .int .u8 0, .int .u8 0, .int .u8 0, .int .u8 0, .int .u8 0, .int .u8 0, .int .u8 0, .int .u8 0, .int .u8 0, .int .u8 0, .int .u8 0, .int .u8 0, .int .u8 0, .int .u8 0] 30)).setCells w4.heap.size 0 DI.toList)) :=
    ⟨⟨hlow4.trans (hdv.low.mono (by omega)), ⟨cs, hcs, by rw [hdv.low.block _ (by omega)]; exact hres4⟩, hblk4.below hdv.low, hdv.row, by omega, by omega⟩⟩
  have HTH0 : Bx ((w4.alloc (.cells #[.int .u8 0, .int .u8 0, .int .u8 0, .int .u8 0, .int .u8 0, .int .u8 0, .int .u8 0, .int .u8 0, .int .u8 0, .int .u8 0, .int .u8 0, .int .u8 0, .int .u8 0, .int .u8 0, .int .u8 0, .int .u8 0, .int .u8 0, .int .u8 0, .int .u8 0, .int .u8 0, .int .u8 0, .int .u8 0, .int .u8 0, .int .u8 0, .int .u8 0, .int .u8 0, .int .u8 0, .int .u8 0, .int .u8 0, .int .u8 0, .int .u8 0, .int .u8 0] 30)).there w4.heap.size 0 DI.size) := ⟨hth⟩
  have HINF : Bx ((Tryd.prog.info? 30).map (·.size) = some DI.size) := ⟨hinf⟩
  have HONE : Bx (DI.all (·.oneCell') = true) := ⟨hone⟩
  clear hdv hth hinf hone hDD hblk4 hres4 hlow4 hsz4 hsz3 hsz2 hsz1 hs0 hcs hP0 hP1
  go_wp2_with (refine wpList_store_mid rfl 30 (.tmp 6) (.tmp 13) rfl w4.heap.size 0 DI rfl rfl HTH0.out HINF.out HONE.out ?_; have hrm := hRM.out; generalize (w4.alloc (.cells #[.int .u8 0, .int .u8 0, .int .u8 0, .int .u8 0, .int .u8 0, .int .u8 0, .int .u8 0, .int .u8 0, .int .u8 0, .int .u8 0, .int .u8 0, .int .u8 0, .int .u8 0, .int .u8 0, .int .u8 0, .int .u8 0, .int .u8 0, .int .u8 0, .int .u8 0, .int .u8 0, .int .u8 0, .int .u8 0, .int .u8 0, .int .u8 0, .int .u8 0, .int .u8 0, .int .u8 0, .int .u8 0, .int .u8 0, .int .u8 0, .int .u8 0, .int .u8 0] 30)).setCells w4.heap.size 0 DI.toList = w5 at hrm ⊢; clear hRM HTH0)
  obtain ⟨R, hR⟩ : ∃ R, R = w.heap.size := ⟨_, rfl⟩
  obtain ⟨Q, hQ⟩ : ∃ Q, Q = w4.heap.size := ⟨_, rfl⟩
  rw [← hR, ← hQ] at hrm ⊢
  have HR : Hid (R = w.heap.size) := hR
  clear hR hQ HINF HONE
  have hYl : (xorB B 92).length = 64 := by rw [xorB_length, hBl]
  have hYb : Byt (xorB B 92) := xorB_byt hBb (by decide)
  obtain ⟨Y, hY⟩ : ∃ Y, Y = xorB B 92 := ⟨_, rfl⟩
  rw [← hY] at hYl hYb
  obtain ⟨Z, hZ⟩ : ∃ Z, Z = sumL (Y ++ I) := ⟨_, rfl⟩
  have HW : Bx (∀ w', Bts w' (some ⟨P, 0, none⟩) 64 C B → Calls Tryd.prog 48 #[.slice (some ⟨P, 0, none⟩) 64 C, .int .u8 92] w' fun e w'' => ∃ v, e = .returned v ∧ w''.ownsRow w'.heap.size 5 1 v 64 (bv Y) ∧ Below w'.heap.size w' w'') := ⟨fun w' h => by rw [hY]; exact refwith_any _ 64 _ B 92 _ h (by decide) (by decide)⟩
  have HC : Bx (∀ w' a' c', Bts w' a' 96 c' (Y ++ I) → Calls Tryd.prog 37 #[.slice a' 96 c'] w' fun e w'' => e = .returned (.agg (bv Z).toArray) ∧ Below w'.heap.size w' w'') := ⟨fun w' a' c' h1 => by rw [hZ]; exact refsum_any _ _ _ _ _ h1 (by decide)⟩
  have HMb : Bx (Ending.returned (.agg (bv Z).toArray) = .returned (.agg (bv (macL k t)).toArray)) := ⟨by rw [HMAC.out, hZ, hY]⟩
  have hZl : (bv Z).length = 32 := by rw [hZ, bv_length, sumL_length]
  have hZi : (Tryd.prog.info? 30).map (·.size) = some (bv Z).length := by rw [hZl]; exact dig_info
  have hZo := bv_one Z
  have HZi : Bx ((Tryd.prog.info? 30).map (·.size) = some (bv Z).toArray.size) := ⟨by rw [List.size_toArray]; exact hZi⟩
  have HZl : Bx ((bv Z).length = 32) := ⟨hZl⟩
  have HYI : Bx (Byt (Y ++ I)) := ⟨hYb.append hSb⟩
  have h0 := hrm.drewN 1
  have hda := dig_all Q
  clear HMAC hZ hY hXl hXb
  go_region_held3 (fun w' => w'.there R 0 32 ∧ RM R P C Q B I w w') (first | (exact h0.held) | (exact rm_step (by assumption) hb6) | (exact hrm7.held) | (exact rm_step (by assumption) hb8) | (exact rm_store (by assumption) HZl.out)) (first | (go_at_call 48; refine (HW.out _ (rm_bts (by assumption))).mono ?_; rintro e6 w6 ⟨v6, rfl, hown6, hb6⟩; have hrm6 := And.right (rm_step (by assumption) hb6); have hq6 := Nat.lt_of_lt_of_le h0.lt (Nat.le_refl _)) | (refine step_append_bts rfl (.tmp 15) (.tmp 16) rfl _ 64 v6 Y rfl hown6 _ 32 32 I rfl (rm_inn (by assumption) hSb hSl) (by decide) hb6.size ?_; intro v7 w7 hown7 hb7 _; obtain ⟨a7, c7, rfl, hm7⟩ := Bts.of_owns hown7 HYI.out; have hrm7 := hrm6.step hb7 h0.lt) | (go_at_call 37; refine (HC.out _ _ _ hm7).mono ?_; rintro e8 w8 ⟨rfl, hb8⟩; have hrm8 := And.right (rm_step (by assumption) hb8)))
  have HF := hrm8.store HZl.out
  have HST : Bx _ := ⟨HF.2⟩
  have HBS : Bx (Below w.heap.size w (w8.setCells R 0 (bv Z))) := ⟨by rw [← HR.out]; exact HF.1.low⟩
  clear HF hrm8
  go_wp2
  exact bodyPost_ret (v := .agg (bv Z).toArray) (results_cell_row rfl _ _ R 30 (bv Z).toArray (0, 0) _ rfl HST.out Tryd.underlying30 rfl HZi.out) rfl ⟨HMb.out, HBS.out⟩
end Go.Proofs.YtbednfacipphhaaDoor
