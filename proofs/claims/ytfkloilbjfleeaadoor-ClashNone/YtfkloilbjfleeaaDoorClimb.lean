/- Up on two ways at once: the first clash on them. -/
import Derived.Test.YtfkloilbjfleeaaDoorCIs
import Derived.Test.YtfkloilbjfleeaaDoorKids
import Derived.Test.YtfkloilbjfleeaaDoorSme
import Derived.Deep.CutRange
namespace Go.Proofs.YtfkloilbjfleeaaDoor
open Go.RowKit
set_option linter.unusedVariables false

set_option maxRecDepth 100000 in
/-- a new variable, by a law that does not write its cells out -/
theorem wp_alloc_of {o : Oper} {a : Act} {w : World} {K : Act → World → Prop} {Q : Exit → Act → World → Prop} (T : TypeId) (sz : Nat) (ho : o.op = .alloc T) (hz : (Tryd.prog.info? T).map (fun i => i.zero.map (·.cells.size)) = some (some sz))
    (h : ∀ cs : Array Value, cs.size = sz → K (a.put o.dst (.pointer (some ⟨w.heap.size, 0, none⟩))) (w.alloc (.cells cs T))) : o.wp Tryd.prog a w K Q := by
  obtain ⟨it, hit, hz0⟩ := Option.map_eq_some_iff.1 hz
  obtain ⟨z, hzz, hzs⟩ := Option.map_eq_some_iff.1 hz0
  unfold Oper.wp execOp
  simp [ho, Instr.alloc, zeroValue, typeInfo, hit, hzz, newVar, newRow, go_sem]
  exact h _ hzs
set_option maxRecDepth 100000 in
theorem two_zero : (Tryd.prog.info? 86).map (fun i => i.zero.map (·.cells.size)) = some (some 64) := by kernel_rfl
set_option maxRecDepth 100000 in
theorem dig_zero : (Tryd.prog.info? 42).map (fun i => i.zero.map (·.cells.size)) = some (some 32) := by kernel_rfl
set_option maxRecDepth 100000 in
theorem cls_zero : (Tryd.prog.info? 25).map (fun i => i.zero.map (·.cells.size)) = some (some 2) := by kernel_rfl
set_option maxRecDepth 100000 in
theorem cls_info : (Tryd.prog.info? 25).map (·.size) = some 2 := by kernel_rfl
set_option maxRecDepth 100000 in
theorem cls_one (a b : Option Addr) (n m c d : Nat) : (#[.slice a n c, .slice b m d] : Array Value).all (·.oneCell') = true := by simp [Value.oneCell']
/-- a variable that is new since N0 -/
structure TR (T : TypeId) (sz N0 g : Nat) (wr : World) : Prop where
  ge : N0 ≤ g
  row : ∃ cs : Array Value, cs.size = sz ∧ wr.heap[g]? = some (.cells cs T (0, 0))
set_option maxRecDepth 100000 in
theorem TR.lt {T : TypeId} {sz N0 g : Nat} {wr : World} (h : TR T sz N0 g wr) : g < wr.heap.size := by obtain ⟨cs, _, e⟩ := h.row; exact (Array.getElem?_eq_some_iff.1 e).1
set_option maxRecDepth 100000 in
theorem TR.step {T : TypeId} {sz N0 g : Nat} {wr w1 : World} (h : TR T sz N0 g wr) (hb : Below wr.heap.size wr w1) : TR T sz N0 g w1 := by
  have hl := h.lt
  obtain ⟨cs, e1, e2⟩ := h.row
  exact ⟨h.ge, cs, e1, (hb.block _ hl).trans e2⟩
set_option maxRecDepth 100000 in
theorem TR.new {T : TypeId} {sz N0 : Nat} {wr : World} {cs : Array Value} (hN : N0 ≤ wr.heap.size) (hs : cs.size = sz) : TR T sz N0 wr.heap.size (wr.alloc (.cells cs T)) := ⟨hN, cs, hs, heap_alloc_new _ _⟩
set_option maxRecDepth 100000 in
theorem TR.there {T : TypeId} {sz N0 g : Nat} {wr : World} (h : TR T sz N0 g wr) {D : Array Value} (hD : D.size = sz) : wr.there g 0 D.size := by
  obtain ⟨cs, e1, e2⟩ := h.row
  have := there_row e2
  rw [e1] at this
  rw [hD]; exact this
set_option maxRecDepth 100000 in
theorem TR.put {T : TypeId} {sz N0 g : Nat} {wr : World} (h : TR T sz N0 g wr) {D : Array Value} (hD : D.size = sz) : (wr.setCells g 0 D.toList).heap[g]? = some (.cells D T (0, 0)) := by
  obtain ⟨cs, e1, e2⟩ := h.row
  exact heap_stored (vs := D) e2 (by rw [hD, e1])
set_option maxRecDepth 100000 in
theorem TR.but {T : TypeId} {sz N0 g h : Nat} {wr : World} (k : TR T sz N0 g wr) (hne : g ≠ h) (vs : List Value) : TR T sz N0 g (wr.setCells h 0 vs) := by
  have hl := k.lt
  obtain ⟨cs, e1, e2⟩ := k.row
  exact ⟨k.ge, cs, e1, (((But.refl h wr).setCells vs 0).block _ hl hne).trans e2⟩
set_option maxRecDepth 100000 in
theorem row_but {wr : World} {g h : Nat} {T : TypeId} {D : Array Value} (k : wr.heap[g]? = some (.cells D T (0, 0))) (hne : g ≠ h) (vs : List Value) : (wr.setCells h 0 vs).heap[g]? = some (.cells D T (0, 0)) :=
  (((But.refl h wr).setCells vs 0).block _ (Array.getElem?_eq_some_iff.1 k).1 hne).trans k
set_option maxRecDepth 100000 in
theorem row_step {wr w1 : World} {g : Nat} {T : TypeId} {D : Array Value} (k : wr.heap[g]? = some (.cells D T (0, 0))) (hb : Below wr.heap.size wr w1) : w1.heap[g]? = some (.cells D T (0, 0)) :=
  (hb.block _ (Array.getElem?_eq_some_iff.1 k).1).trans k
set_option maxRecDepth 100000 in
theorem results_ct25 {fn : Func} {s p : Tmp} (h : fn.results = #[.cell p 25, .tmp s]) (tmps : Array Value) (w : World) (g : Nat) (cs : Array Value) (v : Value)
    (hs : tmps.getD s undef = v) (hp : tmps.getD p undef = .pointer (some ⟨g, 0, none⟩)) (hg : w.heap[g]? = some (.cells cs 25 (0, 0))) (hi : (Tryd.prog.info? 25).map (·.size) = some cs.size) :
    (results fn tmps).run Tryd.prog w = .ok (.tuple #[.agg cs, v]) w := by
  have hp' : tmps[p]?.getD undef = .pointer (some ⟨g, 0, none⟩) := by simpa using hp
  have hs' : tmps[s]?.getD undef = v := by simpa using hs
  simp [results, h, hp', hs', asAddr, run_loadVar_row w g 25 25 cs (0, 0) _ hg Tryd.underlying25 rfl hi]

/-- what stays from the beginning on: the answer's place -/
structure C0 (R : Nat) (w wr : World) : Prop where
  low : Below w.heap.size w wr
  ge : w.heap.size ≤ R
  size : R + 1 ≤ wr.heap.size
  res : ∃ cs : Array Value, cs.size = 2 ∧ wr.heap[R]? = some (.cells cs 25 (0, 0))
set_option maxRecDepth 100000 in
theorem C0.step {R : Nat} {w wr w1 : World} (h : C0 R w wr) (hb : Below wr.heap.size wr w1) : C0 R w w1 := by
  have hs := h.size
  obtain ⟨cs, e1, e2⟩ := h.res
  exact ⟨h.low.trans (hb.mono h.low.size), h.ge, Nat.le_trans hs hb.size, cs, e1, (hb.block _ (by omega)).trans e2⟩
set_option maxRecDepth 100000 in
theorem C0.but {R g : Nat} {w wr : World} (h : C0 R w wr) (hg : R + 1 ≤ g) (vs : List Value) : C0 R w (wr.setCells g 0 vs) := by
  have hs := h.size
  have hge := h.ge
  obtain ⟨cs, e1, e2⟩ := h.res
  have hb : But g wr (wr.setCells g 0 vs) := (But.refl g wr).setCells vs 0
  exact ⟨below_setCells h.low g (by omega) vs 0, hge, Nat.le_trans hs hb.size, cs, e1, (hb.block _ (by omega) (by omega)).trans e2⟩
/-- what stays from round to round: the answer's place, the two digests, the sides -/
structure CB (N0 R Vx Vy G k : Nat) (SL : List Bool) (X Y : List Int) (w wr : World) : Prop where
  low : Below w.heap.size w wr
  size : N0 ≤ wr.heap.size
  ord : w.heap.size ≤ R ∧ R < Vx ∧ R < Vy ∧ Vx ≠ Vy ∧ Vx < G ∧ Vy < G ∧ G < N0
  res : ∃ cs : Array Value, cs.size = 2 ∧ wr.heap[R]? = some (.cells cs 25 (0, 0))
  vx : wr.heap[Vx]? = some (.cells (bv X).toArray 42 (0, 0))
  vy : wr.heap[Vy]? = some (.cells (bv Y).toArray 42 (0, 0))
  sid : ∀ j, j < k → wr.cell? ⟨G, j, none⟩ = some (.bool (SL.getD j false))
section
variable {N0 R Vx Vy G k : Nat} {SL : List Bool} {X Y : List Int} {w wr w1 : World}
set_option maxRecDepth 100000 in
theorem CB.step (h : CB N0 R Vx Vy G k SL X Y w wr) (hb : Below wr.heap.size wr w1) : CB N0 R Vx Vy G k SL X Y w w1 := by
  have ho := h.ord
  have hs := h.size
  obtain ⟨cs, e1, e2⟩ := h.res
  exact ⟨h.low.trans (hb.mono h.low.size), Nat.le_trans hs hb.size, ho, ⟨cs, e1, (hb.block _ (by omega)).trans e2⟩, (hb.block _ (by omega)).trans h.vx, (hb.block _ (by omega)).trans h.vy, fun j hj => (hb.cell (p := ⟨G, j, none⟩) (show G < _ by omega)).trans (h.sid j hj)⟩
set_option maxRecDepth 100000 in
theorem CB.drewN (h : CB N0 R Vx Vy G k SL X Y w wr) (n : Nat) : CB N0 R Vx Vy G k SL X Y w (wr.drewN n) := ⟨below_drewN h.low n, h.size, h.ord, h.res, h.vx, h.vy, h.sid⟩
set_option maxRecDepth 100000 in
theorem CB.but {g : Nat} (h : CB N0 R Vx Vy G k SL X Y w wr) (hg : N0 ≤ g) (vs : List Value) : CB N0 R Vx Vy G k SL X Y w (wr.setCells g 0 vs) := by
  have ho := h.ord
  have hs := h.size
  obtain ⟨cs, e1, e2⟩ := h.res
  have hb : But g wr (wr.setCells g 0 vs) := (But.refl g wr).setCells vs 0
  exact ⟨below_setCells h.low g (by omega) vs 0, Nat.le_trans hs hb.size, ho, ⟨cs, e1, row_but e2 (by omega) vs⟩, row_but h.vx (by omega) vs, row_but h.vy (by omega) vs, fun j hj => (World.cell?_of_block (a := ⟨G, j, none⟩) (hb.block G (by omega) (by omega))).trans (h.sid j hj)⟩
set_option maxRecDepth 100000 in
theorem CB.putx {Z : List Int} (h : CB N0 R Vx Vy G k SL X Y w wr) (hX : X.length = 32) (hZ : Z.length = 32) : CB N0 R Vx Vy G k SL Z Y w (wr.setCells Vx 0 (bv Z).toArray.toList) := by
  have ho := h.ord
  have hs := h.size
  obtain ⟨cs, e1, e2⟩ := h.res
  have hb : But Vx wr (wr.setCells Vx 0 (bv Z).toArray.toList) := (But.refl Vx wr).setCells _ 0
  exact ⟨below_setCells h.low Vx (by omega) _ 0, Nat.le_trans hs hb.size, ho, ⟨cs, e1, row_but e2 (by omega) _⟩, heap_stored (vs := (bv Z).toArray) h.vx (by rw [List.size_toArray, List.size_toArray, bv_length, bv_length, hX, hZ]), row_but h.vy (by omega) _, fun j hj => (World.cell?_of_block (a := ⟨G, j, none⟩) (hb.block G (by omega) (by omega))).trans (h.sid j hj)⟩
set_option maxRecDepth 100000 in
theorem CB.puty {Z : List Int} (h : CB N0 R Vx Vy G k SL X Y w wr) (hY : Y.length = 32) (hZ : Z.length = 32) : CB N0 R Vx Vy G k SL X Z w (wr.setCells Vy 0 (bv Z).toArray.toList) := by
  have ho := h.ord
  have hs := h.size
  obtain ⟨cs, e1, e2⟩ := h.res
  have hb : But Vy wr (wr.setCells Vy 0 (bv Z).toArray.toList) := (But.refl Vy wr).setCells _ 0
  exact ⟨below_setCells h.low Vy (by omega) _ 0, Nat.le_trans hs hb.size, ho, ⟨cs, e1, row_but e2 (by omega) _⟩, row_but h.vx (by omega) _, heap_stored (vs := (bv Z).toArray) h.vy (by rw [List.size_toArray, List.size_toArray, bv_length, bv_length, hY, hZ]), fun j hj => (World.cell?_of_block (a := ⟨G, j, none⟩) (hb.block G (by omega) (by omega))).trans (h.sid j hj)⟩
end
set_option maxRecDepth 100000 in
/-- half of a variable of two digests -/
theorem range_half {wr : World} {g o : Nat} {l : List Int} (h : wr.heap[g]? = some (.cells (bv l).toArray 86 (0, 0))) : wr.rangeAt g o (bv ((l.drop o).take 32)) := by
  intro j v hj
  rw [cell_of_row _ _ (o + j) _ _ (0, 0) h, List.getElem?_toArray]
  unfold bv at hj ⊢
  rw [List.getElem?_map] at hj ⊢
  rw [List.getElem?_take] at hj
  by_cases h32 : j < 32
  · rw [if_pos h32, List.getElem?_drop] at hj; exact hj
  · rw [if_neg h32] at hj; cases hj
set_option maxRecDepth 100000 in
theorem halves (l : List Int) (h : l.length = 64) (x : Int) : nodeL ((l.drop 0).take 32) ((l.drop 32).take 32) x = cutL (sumL (1 :: l)) x := by
  unfold nodeL
  rw [List.drop_zero, show (l.drop 32).take 32 = l.drop 32 from List.take_of_length_le (by rw [List.length_drop]; omega), List.take_append_drop]
set_option maxRecDepth 100000 in
theorem half_dg (l : List Int) (hb : Byt l) (o : Nat) (h : o + 32 ≤ l.length) : Dg ((l.drop o).take 32) :=
  ⟨by rw [List.length_take, List.length_drop]; omega, fun c hc => hb c (List.mem_of_mem_drop (List.mem_of_mem_take hc))⟩
set_option maxRecDepth 100000 in
/-- bytes that are longer than a variable do not lie in it -/
theorem bts_far {wr : World} {a : Option Addr} {n c : Nat} {l : List Int} {T : TypeId} {sz N0 f : Nat} (h : Bts wr a n c l) (hf : TR T sz N0 f wr) (hn : sz < n) (vs : List Value) : Bts (wr.setCells f 0 vs) a n c l :=
  ⟨h.len_eq, h.byt, h.le_cap, h.cap_le, h.nil, fun hp => by
    obtain ⟨b, off, e, hlt, hc⟩ := h.spot hp
    have hb : But f wr (wr.setCells f 0 vs) := (But.refl f wr).setCells vs 0
    have hne : b ≠ f := by
      rintro rfl
      obtain ⟨cs, e1, e2⟩ := hf.row
      have h1 := hc (n - 1) (by omega)
      rw [cell_of_row _ _ (off + (n - 1)) cs _ (0, 0) e2, Array.getElem?_eq_none (by omega)] at h1
      cases h1
    exact ⟨b, off, e, Nat.lt_of_lt_of_le hlt hb.size, fun i hi => (World.cell?_of_block (a := ⟨b, off + i, none⟩) (hb.block b hlt hne)).trans (hc i hi)⟩⟩
/-- .. and the two nodes, each in its variable -/
structure CD (N0 R Vx Vy G k : Nat) (SL : List Bool) (X Y : List Int) (g h : Nat) (KX KY : List Int) (w wr : World) : Prop where
  cb : CB N0 R Vx Vy G k SL X Y w wr
  rg : wr.heap[g]? = some (.cells (bv KX).toArray 86 (0, 0))
  rh : wr.heap[h]? = some (.cells (bv KY).toArray 86 (0, 0))
/-- .. while the two digests are written over -/
structure CE (N0 R Vx Vy G k : Nat) (SL : List Bool) (g h : Nat) (KX KY : List Int) (w wr : World) : Prop where
  low : Below w.heap.size w wr
  size : N0 ≤ wr.heap.size
  ord : w.heap.size ≤ R ∧ R < Vx ∧ R < Vy ∧ Vx ≠ Vy ∧ Vx < G ∧ Vy < G ∧ G < N0 ∧ N0 ≤ g ∧ N0 ≤ h
  res : ∃ cs : Array Value, cs.size = 2 ∧ wr.heap[R]? = some (.cells cs 25 (0, 0))
  ex : ∃ cs : Array Value, cs.size = 32 ∧ wr.heap[Vx]? = some (.cells cs 42 (0, 0))
  ey : ∃ cs : Array Value, cs.size = 32 ∧ wr.heap[Vy]? = some (.cells cs 42 (0, 0))
  sid : ∀ j, j < k → wr.cell? ⟨G, j, none⟩ = some (.bool (SL.getD j false))
  rg : wr.heap[g]? = some (.cells (bv KX).toArray 86 (0, 0))
  rh : wr.heap[h]? = some (.cells (bv KY).toArray 86 (0, 0))
section
variable {N0 R Vx Vy G k g h : Nat} {SL : List Bool} {X Y KX KY : List Int} {w wr w1 : World}
set_option maxRecDepth 100000 in
theorem CD.step (c : CD N0 R Vx Vy G k SL X Y g h KX KY w wr) (hb : Below wr.heap.size wr w1) : CD N0 R Vx Vy G k SL X Y g h KX KY w w1 := ⟨c.cb.step hb, row_step c.rg hb, row_step c.rh hb⟩
set_option maxRecDepth 100000 in
theorem CD.drewN (c : CD N0 R Vx Vy G k SL X Y g h KX KY w wr) (n : Nat) : CD N0 R Vx Vy G k SL X Y g h KX KY w (wr.drewN n) := ⟨c.cb.drewN n, c.rg, c.rh⟩
set_option maxRecDepth 100000 in
theorem CD.but {f : Nat} (c : CD N0 R Vx Vy G k SL X Y g h KX KY w wr) (hf : N0 ≤ f) (h1 : g ≠ f) (h2 : h ≠ f) (vs : List Value) : CD N0 R Vx Vy G k SL X Y g h KX KY w (wr.setCells f 0 vs) := ⟨c.cb.but hf vs, row_but c.rg h1 vs, row_but c.rh h2 vs⟩
set_option maxRecDepth 100000 in
theorem CE.of (c : CD N0 R Vx Vy G k SL X Y g h KX KY w wr) (hX : X.length = 32) (hY : Y.length = 32) (hg : N0 ≤ g) (hh : N0 ≤ h) : CE N0 R Vx Vy G k SL g h KX KY w wr := by
  have ho := c.cb.ord
  exact ⟨c.cb.low, c.cb.size, by omega, c.cb.res, ⟨_, by rw [List.size_toArray, bv_length, hX], c.cb.vx⟩, ⟨_, by rw [List.size_toArray, bv_length, hY], c.cb.vy⟩, c.cb.sid, c.rg, c.rh⟩
set_option maxRecDepth 100000 in
theorem CE.step (c : CE N0 R Vx Vy G k SL g h KX KY w wr) (hb : Below wr.heap.size wr w1) : CE N0 R Vx Vy G k SL g h KX KY w w1 := by
  have ho := c.ord
  have hs := c.size
  obtain ⟨c1, a1, a2⟩ := c.res
  obtain ⟨c2, b1, b2⟩ := c.ex
  obtain ⟨c3, d1, d2⟩ := c.ey
  exact ⟨c.low.trans (hb.mono c.low.size), Nat.le_trans hs hb.size, ho, ⟨c1, a1, row_step a2 hb⟩, ⟨c2, b1, row_step b2 hb⟩, ⟨c3, d1, row_step d2 hb⟩, fun j hj => (hb.cell (p := ⟨G, j, none⟩) (show G < _ by omega)).trans (c.sid j hj), row_step c.rg hb, row_step c.rh hb⟩
set_option maxRecDepth 100000 in
theorem CE.putx (c : CE N0 R Vx Vy G k SL g h KX KY w wr) {D : Array Value} (hD : D.size = 32) : wr.there Vx 0 D.size ∧ CE N0 R Vx Vy G k SL g h KX KY w (wr.setCells Vx 0 D.toList) ∧ (wr.setCells Vx 0 D.toList).heap[Vx]? = some (.cells D 42 (0, 0)) := by
  have ho := c.ord
  have hs := c.size
  obtain ⟨c1, a1, a2⟩ := c.res
  obtain ⟨c2, b1, b2⟩ := c.ex
  obtain ⟨c3, d1, d2⟩ := c.ey
  have hb : But Vx wr (wr.setCells Vx 0 D.toList) := (But.refl Vx wr).setCells _ 0
  have ht := there_row b2
  rw [b1] at ht
  have hst : (wr.setCells Vx 0 D.toList).heap[Vx]? = some (.cells D 42 (0, 0)) := heap_stored (vs := D) b2 (by rw [hD, b1])
  exact ⟨by rw [hD]; exact ht, ⟨below_setCells c.low Vx (by omega) _ 0, Nat.le_trans hs hb.size, ho, ⟨c1, a1, row_but a2 (by omega) _⟩, ⟨D, hD, hst⟩, ⟨c3, d1, row_but d2 (by omega) _⟩, fun j hj => (World.cell?_of_block (a := ⟨G, j, none⟩) (hb.block G (by omega) (by omega))).trans (c.sid j hj), row_but c.rg (by omega) _, row_but c.rh (by omega) _⟩, hst⟩
set_option maxRecDepth 100000 in
theorem CE.puty (c : CE N0 R Vx Vy G k SL g h KX KY w wr) {D : Array Value} (hD : D.size = 32) : wr.there Vy 0 D.size ∧ CE N0 R Vx Vy G k SL g h KX KY w (wr.setCells Vy 0 D.toList) ∧ (wr.setCells Vy 0 D.toList).heap[Vy]? = some (.cells D 42 (0, 0)) := by
  have ho := c.ord
  have hs := c.size
  obtain ⟨c1, a1, a2⟩ := c.res
  obtain ⟨c2, b1, b2⟩ := c.ex
  obtain ⟨c3, d1, d2⟩ := c.ey
  have hb : But Vy wr (wr.setCells Vy 0 D.toList) := (But.refl Vy wr).setCells _ 0
  have ht := there_row d2
  rw [d1] at ht
  have hst : (wr.setCells Vy 0 D.toList).heap[Vy]? = some (.cells D 42 (0, 0)) := heap_stored (vs := D) d2 (by rw [hD, d1])
  exact ⟨by rw [hD]; exact ht, ⟨below_setCells c.low Vy (by omega) _ 0, Nat.le_trans hs hb.size, ho, ⟨c1, a1, row_but a2 (by omega) _⟩, ⟨c2, b1, row_but b2 (by omega) _⟩, ⟨D, hD, hst⟩, fun j hj => (World.cell?_of_block (a := ⟨G, j, none⟩) (hb.block G (by omega) (by omega))).trans (c.sid j hj), row_but c.rg (by omega) _, row_but c.rh (by omega) _⟩, hst⟩
set_option maxRecDepth 100000 in
theorem CE.back (c : CE N0 R Vx Vy G k SL g h KX KY w wr) (hx : wr.heap[Vx]? = some (.cells (bv X).toArray 42 (0, 0))) (hy : wr.heap[Vy]? = some (.cells (bv Y).toArray 42 (0, 0))) : CB N0 R Vx Vy G k SL X Y w wr := by
  have ho := c.ord
  exact ⟨c.low, c.size, by omega, c.res, hx, hy, c.sid⟩
end
end Go.Proofs.YtfkloilbjfleeaaDoor
