/- The sum of a leaf and of two sums: merkle's, and the document's own. -/
import Derived.Test.YtfkloilbjfleeaaDoorDig
import Derived.Test.YtfkloilbjfleeaaDoorMCut
import Derived.Test.YtfkloilbjfleeaaDoorConcat
namespace Go.Proofs.YtfkloilbjfleeaaDoor
open Go.RowKit
set_option linter.unusedVariables false

theorem concat2 (b : Nat) (a0 a1 : Option Addr) (n0 n1 c0 c1 : Nat) (l0 l1 : List Int) (w : World) (h0 : w.cell? ⟨b, 0, none⟩ = some (.slice a0 n0 c0)) (h1 : w.cell? ⟨b, 1, none⟩ = some (.slice a1 n1 c1)) (hblt : b < w.heap.size)
    (B0 : Bts w a0 n0 c0 l0) (B1 : Bts w a1 n1 c1 l1) (hbd : n0 + n1 ≤ 1099511627776) :
    Calls Tryd.prog 58 #[.slice (some ⟨b, 0, none⟩) 2 2] w fun e w' => ∃ a c, e = .returned (.slice a (n0 + n1) c) ∧ Bts w' a (n0 + n1) c (l0 ++ l1) ∧ Below w.heap.size w w' := by
  have hc : catL (fun i => if i = 0 then l0 else l1) 2 = l0 ++ l1 := by simp [catL]
  have hl : (catL (fun i => if i = 0 then l0 else l1) 2).length = n0 + n1 := by rw [hc, List.length_append, B0.len_eq, B1.len_eq]
  refine (concat_any 2 b (fun i => if i = 0 then a0 else a1) (fun i => if i = 0 then n0 else n1) (fun i => if i = 0 then c0 else c1) (fun i => if i = 0 then l0 else l1) w (fun i hi => ?_) hblt (fun i hi => ?_) (by rw [hl]; exact hbd) (by decide)).mono ?_
  · match i, hi with
    | 0, _ => exact h0
    | 1, _ => exact h1
  · match i, hi with
    | 0, _ => exact B0
    | 1, _ => exact B1
  · rintro e w' ⟨v, rfl, ho, hb⟩
    rw [hl, hc] at ho
    obtain ⟨ao, cap, rfl, hB⟩ := Bts.of_owns ho (B0.byt.append B1.byt)
    exact ⟨ao, cap, rfl, hB, hb⟩
theorem concat3 (b : Nat) (a0 a1 a2 : Option Addr) (n0 n1 n2 c0 c1 c2 : Nat) (l0 l1 l2 : List Int) (w : World) (h0 : w.cell? ⟨b, 0, none⟩ = some (.slice a0 n0 c0)) (h1 : w.cell? ⟨b, 1, none⟩ = some (.slice a1 n1 c1)) (h2 : w.cell? ⟨b, 2, none⟩ = some (.slice a2 n2 c2)) (hblt : b < w.heap.size)
    (B0 : Bts w a0 n0 c0 l0) (B1 : Bts w a1 n1 c1 l1) (B2 : Bts w a2 n2 c2 l2) (hbd : n0 + n1 + n2 ≤ 1099511627776) :
    Calls Tryd.prog 58 #[.slice (some ⟨b, 0, none⟩) 3 3] w fun e w' => ∃ a c, e = .returned (.slice a (n0 + n1 + n2) c) ∧ Bts w' a (n0 + n1 + n2) c (l0 ++ (l1 ++ l2)) ∧ Below w.heap.size w w' := by
  have hc : catL (fun i => if i = 0 then l0 else if i = 1 then l1 else l2) 3 = l0 ++ (l1 ++ l2) := by simp [catL]
  have hl : (catL (fun i => if i = 0 then l0 else if i = 1 then l1 else l2) 3).length = n0 + n1 + n2 := by rw [hc, List.length_append, List.length_append, B0.len_eq, B1.len_eq, B2.len_eq]; omega
  refine (concat_any 3 b (fun i => if i = 0 then a0 else if i = 1 then a1 else a2) (fun i => if i = 0 then n0 else if i = 1 then n1 else n2) (fun i => if i = 0 then c0 else if i = 1 then c1 else c2) (fun i => if i = 0 then l0 else if i = 1 then l1 else l2) w (fun i hi => ?_) hblt (fun i hi => ?_) (by rw [hl]; exact hbd) (by decide)).mono ?_
  · match i, hi with
    | 0, _ => exact h0
    | 1, _ => exact h1
    | 2, _ => exact h2
  · match i, hi with
    | 0, _ => exact B0
    | 1, _ => exact B1
    | 2, _ => exact B2
  · rintro e w' ⟨v, rfl, ho, hb⟩
    rw [hl, hc] at ho
    obtain ⟨ao, cap, rfl, hB⟩ := Bts.of_owns ho (B0.byt.append (B1.byt.append B2.byt))
    exact ⟨ao, cap, rfl, hB, hb⟩
/-- a list of one byte, new -/
theorem bts_one (w : World) (c : Int) (hc : 0 ≤ c ∧ c ≤ 255) : Bts (w.alloc (.cells #[.int .u8 c] 5)) (some ⟨w.heap.size, 0, none⟩) 1 1 [c] :=
  bts_cells (heap_alloc_new _ _) (Byt.cons hc Byt.nil) rfl (by unfold maxLen; omega)

set_option maxRecDepth 100000 in
set_option maxHeartbeats 1000000 in
theorem leaf_any (a : Option Addr) (len cap : Nat) (b : List Int) (x : Int) (w : World) (hb : Bts w a len cap b) (htab : Tab w) (hbd : len ≤ 1000000) :
    Calls Tryd.prog 35 #[.slice a len cap, .int .i64 x] w fun e w' => e = .returned (.agg (bv (leafL b x)).toArray) ∧ Below w.heap.size w w' := by
  go_enter Tryd.func35, Tryd.ntmps35
  go_wp2_with fail
  have hb0 : Below w.heap.size w (w.alloc (.cells #[.int .u8 0, .int .u8 0, .int .u8 0, .int .u8 0, .int .u8 0, .int .u8 0, .int .u8 0, .int .u8 0, .int .u8 0, .int .u8 0, .int .u8 0, .int .u8 0, .int .u8 0, .int .u8 0, .int .u8 0, .int .u8 0, .int .u8 0, .int .u8 0, .int .u8 0, .int .u8 0, .int .u8 0, .int .u8 0, .int .u8 0, .int .u8 0, .int .u8 0, .int .u8 0, .int .u8 0, .int .u8 0, .int .u8 0, .int .u8 0, .int .u8 0, .int .u8 0] 42)) := (Below.refl _ _).alloc (Nat.le_refl _) _
  obtain ⟨cs, hcs, hres0⟩ : ∃ cs : Array Value, cs.size = 32 ∧ (w.alloc (.cells #[.int .u8 0, .int .u8 0, .int .u8 0, .int .u8 0, .int .u8 0, .int .u8 0, .int .u8 0, .int .u8 0, .int .u8 0, .int .u8 0, .int .u8 0, .int .u8 0, .int .u8 0, .int .u8 0, .int .u8 0, .int .u8 0, .int .u8 0, .int .u8 0, .int .u8 0, .int .u8 0, .int .u8 0, .int .u8 0, .int .u8 0, .int .u8 0, .int .u8 0, .int .u8 0, .int .u8 0, .int .u8 0, .int .u8 0, .int .u8 0, .int .u8 0, .int .u8 0] 42)).heap[w.heap.size]? = some (.cells cs 42 (0, 0)) := ⟨#[.int .u8 0, .int .u8 0, .int .u8 0, .int .u8 0, .int .u8 0, .int .u8 0, .int .u8 0, .int .u8 0, .int .u8 0, .int .u8 0, .int .u8 0, .int .u8 0, .int .u8 0, .int .u8 0, .int .u8 0, .int .u8 0, .int .u8 0, .int .u8 0, .int .u8 0, .int .u8 0, .int .u8 0, .int .u8 0, .int .u8 0, .int .u8 0, .int .u8 0, .int .u8 0, .int .u8 0, .int .u8 0, .int .u8 0, .int .u8 0, .int .u8 0, .int .u8 0], rfl, heap_alloc_new _ _⟩
  have hs0 : (w.alloc (.cells #[.int .u8 0, .int .u8 0, .int .u8 0, .int .u8 0, .int .u8 0, .int .u8 0, .int .u8 0, .int .u8 0, .int .u8 0, .int .u8 0, .int .u8 0, .int .u8 0, .int .u8 0, .int .u8 0, .int .u8 0, .int .u8 0, .int .u8 0, .int .u8 0, .int .u8 0, .int .u8 0, .int .u8 0, .int .u8 0, .int .u8 0, .int .u8 0, .int .u8 0, .int .u8 0, .int .u8 0, .int .u8 0, .int .u8 0, .int .u8 0, .int .u8 0, .int .u8 0] 42)).heap.size = w.heap.size + 1 := by simp
  generalize w.alloc (.cells #[.int .u8 0, .int .u8 0, .int .u8 0, .int .u8 0, .int .u8 0, .int .u8 0, .int .u8 0, .int .u8 0, .int .u8 0, .int .u8 0, .int .u8 0, .int .u8 0, .int .u8 0, .int .u8 0, .int .u8 0, .int .u8 0, .int .u8 0, .int .u8 0, .int .u8 0, .int .u8 0, .int .u8 0, .int .u8 0, .int .u8 0, .int .u8 0, .int .u8 0, .int .u8 0, .int .u8 0, .int .u8 0, .int .u8 0, .int .u8 0, .int .u8 0, .int .u8 0] 42) = w0 at hb0 hres0 hs0 ⊢
  have hone := bts_one w0 0 (by decide)
  have hb1 : Below w0.heap.size w0 (w0.alloc (.cells #[.int .u8 0] 5)) := (Below.refl _ _).alloc (Nat.le_refl _) _
  have hs1 : (w0.alloc (.cells #[.int .u8 0] 5)).heap.size = w0.heap.size + 1 := by simp
  generalize w0.alloc (.cells #[.int .u8 0] 5) = w1 at hone hb1 hs1 ⊢
  rw [hs0] at hone
  have hrow2 : (w1.alloc (.cells #[.slice (some ⟨w.heap.size + 1, 0, none⟩) 1 1, .slice a len cap] 22)).heap[w.heap.size + 1 + 1]? = some (.cells #[.slice (some ⟨w.heap.size + 1, 0, none⟩) 1 1, .slice a len cap] 22 (0, 0)) := by
    rw [show w.heap.size + 1 + 1 = w1.heap.size from by omega]; exact heap_alloc_new _ _
  have hb2 : Below w1.heap.size w1 (w1.alloc (.cells #[.slice (some ⟨w.heap.size + 1, 0, none⟩) 1 1, .slice a len cap] 22)) := (Below.refl _ _).alloc (Nat.le_refl _) _
  generalize w1.alloc (.cells #[.slice (some ⟨w.heap.size + 1, 0, none⟩) 1 1, .slice a len cap] 22) = w2 at hrow2 hb2 ⊢
  have hlow2 := bstep hb0 (bstep hb1 hb2)
  have hB1 := hb.below hlow2
  have hB0 := hone.below hb2
  have hT2 := htab.below hlow2
  have hres2 := ((bstep hb1 hb2).block w.heap.size (by omega)).trans hres0
  refine (concat2 (w.heap.size + 1 + 1) _ _ 1 len 1 cap [0] b _ (cell_of_row _ _ 0 _ _ (0, 0) hrow2) (cell_of_row _ _ 1 _ _ (0, 0) hrow2) (Array.getElem?_eq_some_iff.1 hrow2).1 hB0 hB1 (by omega)).mono ?_
  rintro e w3 ⟨a3, c3, rfl, hB3, hb3⟩
  have hlow3 := bstep hlow2 hb3
  have hT3 := hT2.below hb3
  have hres3 := (hb3.block w.heap.size (Array.getElem?_eq_some_iff.1 hres2).1).trans hres2
  clear hB1 hB0 hT2 hres2 hlow2 hrow2 hb2 hone hb1 hs1 hs0 hres0 hb0 hb3
  go_wp2_with fail
  refine (sum_any a3 (1 + len) c3 ([0] ++ b) _ hB3 hT3 (by omega)).mono ?_
  rintro e w4 ⟨rfl, hb4⟩
  have hlow4 := bstep hlow3 hb4
  have hres4 := (hb4.block w.heap.size (Array.getElem?_eq_some_iff.1 hres3).1).trans hres3
  have HE : Bx (leafL b x = cutL (sumL ([0] ++ b)) x) := ⟨rfl⟩
  have hdg : Dg (sumL ([0] ++ b)) := ⟨sumL_length _, sum_byt _⟩
  generalize sumL ([0] ++ b) = d at HE hdg ⊢
  clear hlow3 hB3 hT3 hres3 hb4
  go_wp2_with fail
  refine (mcut_any d x _ hdg).mono ?_
  rintro e w5 ⟨rfl, hb5⟩
  have hlow5 := bstep hlow4 hb5
  have hres5 := (hb5.block w.heap.size (Array.getElem?_eq_some_iff.1 hres4).1).trans hres4
  have hZ := cutL_dg hdg.2 x
  clear hlow4 hres4 hb5
  have hth := there_row hres5
  rw [hcs] at hth
  have HZ2 : Bx ((bv (cutL d x)).toArray.size = 32) := ⟨by rw [List.size_toArray, bv_length, hZ.1]⟩
  have HO2 : Bx ((bv (cutL d x)).toArray.all (·.oneCell') = true) := ⟨all_oneCell_toArray (bv_one _)⟩
  generalize hD : (bv (cutL d x)).toArray = D at HZ2 HO2 ⊢
  have HD : Bx (Ending.returned (.agg D) = .returned (.agg (bv (leafL b x)).toArray)) := ⟨by rw [HE.out, hD]⟩
  clear hD
  have HI2 : Bx ((Tryd.prog.info? 42).map (·.size) = some D.size) := ⟨by rw [HZ2.out]; exact dig_info⟩
  have HST : Bx ((w5.setCells w.heap.size 0 D.toList).heap[w.heap.size]? = some (.cells D 42 (0, 0))) := ⟨heap_stored (vs := D) hres5 (by rw [hcs, HZ2.out])⟩
  have HBS : Bx (Below w.heap.size w (w5.setCells w.heap.size 0 D.toList)) := ⟨below_setCells hlow5 w.heap.size (Nat.le_refl _) D.toList 0⟩
  have HTH : Bx (w5.there w.heap.size 0 D.size) := ⟨by rw [HZ2.out]; exact hth⟩
  clear hres5 hth hlow5 hcs
  go_wp2_with (refine wpList_store_mid rfl 42 (.tmp 4) (.tmp 11) rfl w.heap.size 0 D rfl rfl HTH.out HI2.out HO2.out ?_)
  exact bodyPost_ret (v := .agg D) (results_cell_row rfl _ _ w.heap.size 42 D (0, 0) _ rfl HST.out Tryd.underlying42 rfl HI2.out) rfl ⟨HD.out, HBS.out⟩
/-- what stays while Node goes on: the two sums, the answer's place -/
structure ND (N : Nat) (y z : List Int) (w wr : World) : Prop where
  low : Below N w wr
  fst : wr.heap[N]? = some (.cells (bv y).toArray 42 (0, 0))
  snd : wr.heap[N + 1]? = some (.cells (bv z).toArray 42 (0, 0))
  res : ∃ cs : Array Value, cs.size = 32 ∧ wr.heap[N + 1 + 1]? = some (.cells cs 42 (0, 0))
  tab : Tab wr
theorem ND.lt {N : Nat} {y z : List Int} {w wr : World} (h : ND N y z w wr) : N + 1 + 1 < wr.heap.size := by
  obtain ⟨cs, _, e⟩ := h.res; exact (Array.getElem?_eq_some_iff.1 e).1
theorem ND.drewN {N : Nat} {y z : List Int} {w wr : World} (h : ND N y z w wr) (q : Nat) : ND N y z w (wr.drewN q) := ⟨below_drewN h.low q, h.fst, h.snd, h.res, h.tab.drewN q⟩
theorem ND.step {N : Nat} {y z : List Int} {w wr w1 : World} (h : ND N y z w wr) (hb : Below wr.heap.size wr w1) : ND N y z w w1 := by
  have hl := h.lt
  obtain ⟨cs, e1, e2⟩ := h.res
  exact ⟨h.low.trans (hb.mono (by omega)), (hb.block _ (by omega)).trans h.fst, (hb.block _ (by omega)).trans h.snd, ⟨cs, e1, (hb.block _ hl).trans e2⟩, h.tab.below hb⟩
theorem ND.store {N : Nat} {y z : List Int} {w wr : World} {D : List Value} (h : ND N y z w wr) (hN : 0 < N) (hD : D.length = 32) : ND N y z w (wr.setCells (N + 1 + 1) 0 D) ∧ (wr.setCells (N + 1 + 1) 0 D).heap[N + 1 + 1]? = some (.cells D.toArray 42 (0, 0)) := by
  have hl := h.lt
  obtain ⟨cs, e1, e2⟩ := h.res
  have hst : (wr.setCells (N + 1 + 1) 0 D).heap[N + 1 + 1]? = some (.cells D.toArray 42 (0, 0)) := heap_stored (vs := D.toArray) e2 (by rw [e1, List.size_toArray, hD])
  have hbut : But (N + 1 + 1) wr (wr.setCells (N + 1 + 1) 0 D) := (But.refl _ _).setCells _ _
  refine ⟨⟨below_setCells h.low _ (by omega) _ _, ?_, ?_, ⟨D.toArray, by rw [List.size_toArray, hD], hst⟩, h.tab.but hbut (by omega)⟩, hst⟩
  · rw [hbut.block _ (by omega) (by omega)]; exact h.fst
  · rw [hbut.block _ (by omega) (by omega)]; exact h.snd
theorem ND.held {N : Nat} {y z : List Int} {w wr : World} (h : ND N y z w wr) : wr.there (N + 1 + 1) 0 32 ∧ ND N y z w wr := by
  obtain ⟨cs, e1, e2⟩ := h.res
  have := there_row e2
  rw [e1] at this
  exact ⟨this, h⟩
theorem nd_step {N : Nat} {y z : List Int} {w wr w1 : World} {p : Prop} (h : p ∧ ND N y z w wr) (hb : Below wr.heap.size wr w1) : w1.there (N + 1 + 1) 0 32 ∧ ND N y z w w1 := (h.2.step hb).held
theorem nd_new {N : Nat} {y z : List Int} {w wr : World} {p : Prop} (h : p ∧ ND N y z w wr) (o : Obj) : (wr.alloc o).there (N + 1 + 1) 0 32 ∧ ND N y z w (wr.alloc o) := (h.2.step ((Below.refl _ _).alloc (Nat.le_refl _) _)).held
theorem nd_store {N : Nat} {y z : List Int} {w wr : World} {p : Prop} {D : List Value} (h : p ∧ ND N y z w wr) (hN : 0 < N) (hD : D.length = 32) : (wr.setCells (N + 1 + 1) 0 D).there (N + 1 + 1) 0 32 ∧ ND N y z w (wr.setCells (N + 1 + 1) 0 D) := (h.2.store hN hD).1.held
theorem nd_tab {N : Nat} {y z : List Int} {w wr : World} {p : Prop} (h : p ∧ ND N y z w wr) : Tab wr := h.2.tab
/-- a byte's row and the list of the three parts, new -/
theorem three_new {N M : Nat} {y z : List Int} {w wr : World} (h : ND N y z w wr) (hy : Dg y) (hz : Dg z) (hM : M = wr.heap.size) :
    Calls Tryd.prog 58 #[.slice (some ⟨M + 1, 0, none⟩) 3 3] ((wr.alloc (.cells #[.int .u8 1] 5)).alloc (.cells #[.slice (some ⟨M, 0, none⟩) 1 1, .slice (some ⟨N, 0, none⟩) 32 32, .slice (some ⟨N + 1, 0, none⟩) 32 32] 22))
      fun e w' => ∃ a c, e = .returned (.slice a 65 c) ∧ Bts w' a 65 c ([1] ++ (y ++ z)) ∧ Below ((wr.alloc (.cells #[.int .u8 1] 5)).alloc (.cells #[.slice (some ⟨M, 0, none⟩) 1 1, .slice (some ⟨N, 0, none⟩) 32 32, .slice (some ⟨N + 1, 0, none⟩) 32 32] 22)).heap.size ((wr.alloc (.cells #[.int .u8 1] 5)).alloc (.cells #[.slice (some ⟨M, 0, none⟩) 1 1, .slice (some ⟨N, 0, none⟩) 32 32, .slice (some ⟨N + 1, 0, none⟩) 32 32] 22)) w' := by
  have hone := bts_one wr 1 (by decide)
  have hb1 : Below wr.heap.size wr (wr.alloc (.cells #[.int .u8 1] 5)) := (Below.refl _ _).alloc (Nat.le_refl _) _
  have hs1 : (wr.alloc (.cells #[.int .u8 1] 5)).heap.size = wr.heap.size + 1 := by simp
  rw [← hM] at hone
  generalize wr.alloc (.cells #[.int .u8 1] 5) = w1 at hone hb1 hs1 ⊢
  have hb2 : Below w1.heap.size w1 (w1.alloc (.cells #[.slice (some ⟨M, 0, none⟩) 1 1, .slice (some ⟨N, 0, none⟩) 32 32, .slice (some ⟨N + 1, 0, none⟩) 32 32] 22)) := (Below.refl _ _).alloc (Nat.le_refl _) _
  have hrow2 : (w1.alloc (.cells #[.slice (some ⟨M, 0, none⟩) 1 1, .slice (some ⟨N, 0, none⟩) 32 32, .slice (some ⟨N + 1, 0, none⟩) 32 32] 22)).heap[M + 1]? = some (.cells #[.slice (some ⟨M, 0, none⟩) 1 1, .slice (some ⟨N, 0, none⟩) 32 32, .slice (some ⟨N + 1, 0, none⟩) 32 32] 22 (0, 0)) := by
    rw [show M + 1 = w1.heap.size from by omega]; exact heap_alloc_new _ _
  generalize w1.alloc (.cells #[.slice (some ⟨M, 0, none⟩) 1 1, .slice (some ⟨N, 0, none⟩) 32 32, .slice (some ⟨N + 1, 0, none⟩) 32 32] 22) = w2 at hrow2 hb2 ⊢
  have hnd := (h.step hb1).step hb2
  exact concat3 (M + 1) _ _ _ 1 32 32 1 32 32 [1] y z w2 (cell_of_row _ _ 0 _ _ (0, 0) hrow2) (cell_of_row _ _ 1 _ _ (0, 0) hrow2) (cell_of_row _ _ 2 _ _ (0, 0) hrow2) (Array.getElem?_eq_some_iff.1 hrow2).1 (hone.below hb2) (bts_cells hnd.fst hy.2 hy.1 (by unfold maxLen; omega)) (bts_cells hnd.snd hz.2 hz.1 (by unfold maxLen; omega)) (by decide)

set_option maxRecDepth 100000 in
set_option maxHeartbeats 1000000 in
theorem node_any (y z : List Int) (x : Int) (w : World) (hy : Dg y) (hz : Dg z) (htab : Tab w) :
    Calls Tryd.prog 61 #[.agg (bv y).toArray, .agg (bv z).toArray, .int .i64 x] w fun e w' => e = .returned (.agg (bv (nodeL y z x)).toArray) ∧ Below w.heap.size w w' := by
  have hpos := htab.pos
  go_enter Tryd.func61, Tryd.ntmps61
  go_wp2_with fail
  have hnd : ND w.heap.size y z w (((w.alloc (.cells (bv y).toArray 42)).alloc (.cells (bv z).toArray 42)).alloc (.cells #[.int .u8 0, .int .u8 0, .int .u8 0, .int .u8 0, .int .u8 0, .int .u8 0, .int .u8 0, .int .u8 0, .int .u8 0, .int .u8 0, .int .u8 0, .int .u8 0, .int .u8 0, .int .u8 0, .int .u8 0, .int .u8 0, .int .u8 0, .int .u8 0, .int .u8 0, .int .u8 0, .int .u8 0, .int .u8 0, .int .u8 0, .int .u8 0, .int .u8 0, .int .u8 0, .int .u8 0, .int .u8 0, .int .u8 0, .int .u8 0, .int .u8 0, .int .u8 0] 42)) := by
    have hb1 : Below w.heap.size w (((w.alloc (.cells (bv y).toArray 42)).alloc (.cells (bv z).toArray 42)).alloc (.cells #[.int .u8 0, .int .u8 0, .int .u8 0, .int .u8 0, .int .u8 0, .int .u8 0, .int .u8 0, .int .u8 0, .int .u8 0, .int .u8 0, .int .u8 0, .int .u8 0, .int .u8 0, .int .u8 0, .int .u8 0, .int .u8 0, .int .u8 0, .int .u8 0, .int .u8 0, .int .u8 0, .int .u8 0, .int .u8 0, .int .u8 0, .int .u8 0, .int .u8 0, .int .u8 0, .int .u8 0, .int .u8 0, .int .u8 0, .int .u8 0, .int .u8 0, .int .u8 0] 42)) := (((Below.refl _ _).alloc (Nat.le_refl _) _).alloc (by simp) _).alloc (by simp; omega) _
    refine ⟨hb1, ?_, ?_, ⟨#[.int .u8 0, .int .u8 0, .int .u8 0, .int .u8 0, .int .u8 0, .int .u8 0, .int .u8 0, .int .u8 0, .int .u8 0, .int .u8 0, .int .u8 0, .int .u8 0, .int .u8 0, .int .u8 0, .int .u8 0, .int .u8 0, .int .u8 0, .int .u8 0, .int .u8 0, .int .u8 0, .int .u8 0, .int .u8 0, .int .u8 0, .int .u8 0, .int .u8 0, .int .u8 0, .int .u8 0, .int .u8 0, .int .u8 0, .int .u8 0, .int .u8 0, .int .u8 0], rfl, ?_⟩, htab.below hb1⟩
    · rw [heap_alloc_old _ _ (by simp; omega), heap_alloc_old _ _ (by simp), heap_alloc_new]
    · rw [heap_alloc_old _ _ (by simp), show w.heap.size + 1 = (w.alloc (.cells (bv y).toArray 42)).heap.size from by simp, heap_alloc_new]
    · rw [show w.heap.size + 1 + 1 = ((w.alloc (.cells (bv y).toArray 42)).alloc (.cells (bv z).toArray 42)).heap.size from by simp, heap_alloc_new]
  have hsz : (((w.alloc (.cells (bv y).toArray 42)).alloc (.cells (bv z).toArray 42)).alloc (.cells #[.int .u8 0, .int .u8 0, .int .u8 0, .int .u8 0, .int .u8 0, .int .u8 0, .int .u8 0, .int .u8 0, .int .u8 0, .int .u8 0, .int .u8 0, .int .u8 0, .int .u8 0, .int .u8 0, .int .u8 0, .int .u8 0, .int .u8 0, .int .u8 0, .int .u8 0, .int .u8 0, .int .u8 0, .int .u8 0, .int .u8 0, .int .u8 0, .int .u8 0, .int .u8 0, .int .u8 0, .int .u8 0, .int .u8 0, .int .u8 0, .int .u8 0, .int .u8 0] 42)).heap.size = w.heap.size + 1 + 1 + 1 := by simp
  generalize ((w.alloc (.cells (bv y).toArray 42)).alloc (.cells (bv z).toArray 42)).alloc (.cells #[.int .u8 0, .int .u8 0, .int .u8 0, .int .u8 0, .int .u8 0, .int .u8 0, .int .u8 0, .int .u8 0, .int .u8 0, .int .u8 0, .int .u8 0, .int .u8 0, .int .u8 0, .int .u8 0, .int .u8 0, .int .u8 0, .int .u8 0, .int .u8 0, .int .u8 0, .int .u8 0, .int .u8 0, .int .u8 0, .int .u8 0, .int .u8 0, .int .u8 0, .int .u8 0, .int .u8 0, .int .u8 0, .int .u8 0, .int .u8 0, .int .u8 0, .int .u8 0] 42) = w0 at hnd hsz ⊢
  obtain ⟨N, hN⟩ : ∃ N, N = w.heap.size := ⟨_, rfl⟩
  rw [← hN] at hnd ⊢
  have HN : Hid (N = w.heap.size) := hN
  have hNp : 0 < N := by omega
  clear hN hsz
  have hda0 := dig_all N
  have hda1 := dig_all (N + 1)
  have hdg : Dg (sumL ([1] ++ (y ++ z))) := ⟨sumL_length _, sum_byt _⟩
  have HSUM : Bx (∀ (a : Option Addr) (c : Nat) (W : World), Bts W a 65 c ([1] ++ (y ++ z)) → Tab W → Calls Tryd.prog 31 #[.slice a 65 c] W fun e w' => e = .returned (.agg (bv (sumL ([1] ++ (y ++ z)))).toArray) ∧ Below W.heap.size W w') := ⟨fun a c W h1 h2 => sum_any a 65 c _ W h1 h2 (by decide)⟩
  have HE : Bx (nodeL y z x = cutL (sumL ([1] ++ (y ++ z))) x) := ⟨rfl⟩
  have HTN : Bx (∀ (M : Nat) (wr : World), M = wr.heap.size → ND N y z w wr → Calls Tryd.prog 58 #[.slice (some ⟨M + 1, 0, none⟩) 3 3] ((wr.alloc (.cells #[.int .u8 1] 5)).alloc (.cells #[.slice (some ⟨M, 0, none⟩) 1 1, .slice (some ⟨N, 0, none⟩) 32 32, .slice (some ⟨N + 1, 0, none⟩) 32 32] 22))
      fun e w' => ∃ a c, e = .returned (.slice a 65 c) ∧ Bts w' a 65 c ([1] ++ (y ++ z)) ∧ Below ((wr.alloc (.cells #[.int .u8 1] 5)).alloc (.cells #[.slice (some ⟨M, 0, none⟩) 1 1, .slice (some ⟨N, 0, none⟩) 32 32, .slice (some ⟨N + 1, 0, none⟩) 32 32] 22)).heap.size ((wr.alloc (.cells #[.int .u8 1] 5)).alloc (.cells #[.slice (some ⟨M, 0, none⟩) 1 1, .slice (some ⟨N, 0, none⟩) 32 32, .slice (some ⟨N + 1, 0, none⟩) 32 32] 22)) w') := ⟨fun M wr hM h => three_new h hy hz hM⟩
  generalize sumL ([1] ++ (y ++ z)) = d at HSUM HE hdg
  generalize [1] ++ (y ++ z) = ll at HSUM HTN
  obtain ⟨Z, hZ⟩ : ∃ Z, Z = cutL d x := ⟨_, rfl⟩
  have HC : Bx (∀ W, Calls Tryd.prog 30 #[.agg (bv d).toArray, .int .i64 x] W fun e w' => e = .returned (.agg (bv Z).toArray) ∧ Below W.heap.size W w') := ⟨fun W => by rw [hZ]; exact mcut_any d x W hdg⟩
  have hZd : Dg Z := by rw [hZ]; exact cutL_dg hdg.2 x
  have HZE : Bx (Ending.returned (.agg (bv Z).toArray) = .returned (.agg (bv (nodeL y z x)).toArray)) := ⟨by rw [HE.out, hZ]⟩
  have hZl : (bv Z).length = 32 := by rw [bv_length, hZd.1]
  have hZi : (Tryd.prog.info? 42).map (·.size) = some (bv Z).length := by rw [hZl]; exact dig_info
  have hZo := bv_one Z
  have HZi : Bx ((Tryd.prog.info? 42).map (·.size) = some (bv Z).toArray.size) := ⟨by rw [List.size_toArray]; exact hZi⟩
  have HZl : Bx ((bv Z).length = 32) := ⟨hZl⟩
  clear hZ hdg HE hZd hy hz
  have h0 := (hnd.drewN 1).held
  have hnd1 := hnd.drewN 1
  go_region_held3 (fun W => W.there (N + 1 + 1) 0 32 ∧ ND N y z w W) (first | (exact h0) | (exact nd_new (by assumption) _) | (exact nd_step (by assumption) hb5) | (exact nd_step (by assumption) hb6) | (exact nd_step (by assumption) hb7) | (exact nd_store (by assumption) hNp HZl.out)) (first
    | (go_at_call 58; refine (HTN.out _ _ (by simp) hnd1).mono ?_; rintro e5 w5 ⟨a5, c5, rfl, hB5, hb5⟩)
    | (go_at_call 31; refine (HSUM.out a5 c5 _ hB5 (nd_tab (by assumption))).mono ?_; rintro e6 w6 ⟨rfl, hb6⟩)
    | (go_at_call 30; refine (HC.out _).mono ?_; rintro e7 w7 ⟨rfl, hb7⟩; have hms7 := And.right (nd_step (by assumption) hb7)))
  have HF := hms7.store hNp HZl.out
  have HST : Bx _ := ⟨HF.2⟩
  have HBS : Bx (Below w.heap.size w (w7.setCells (N + 1 + 1) 0 (bv Z))) := ⟨by rw [← HN.out]; exact HF.1.low⟩
  clear HF hms7
  go_wp2
  exact bodyPost_ret (v := .agg (bv Z).toArray) (results_cell_row rfl _ _ (N + 1 + 1) 42 (bv Z).toArray (0, 0) _ rfl HST.out Tryd.underlying42 rfl HZi.out) rfl ⟨HZE.out, HBS.out⟩
end Go.Proofs.YtfkloilbjfleeaaDoor
