/- The sum of a leaf and of two sums: the document's own. -/
import Derived.Test.YtfkloilbjfleeaaDoorDig
import Derived.Test.YtfkloilbjfleeaaDoorRefMCut
import Derived.Test.YtfkloilbjfleeaaDoorRefSum
import Derived.Test.YtfkloilbjfleeaaDoorAppBts
namespace Go.Proofs.YtfkloilbjfleeaaDoor
open Go.RowKit
set_option linter.unusedVariables false

set_option maxRecDepth 100000 in
set_option maxHeartbeats 1000000 in
theorem refleaf_any (a : Option Addr) (len cap : Nat) (b : List Int) (x : Int) (w : World) (hb : Bts w a len cap b) (hbd : len ≤ 1000000) :
    Calls Tryd.prog 43 #[.slice a len cap, .int .i64 x] w fun e w' => e = .returned (.agg (bv (leafL b x)).toArray) ∧ Below w.heap.size w w' := by
  have hb0 : Below w.heap.size w (w.alloc (.cells #[.int .u8 0, .int .u8 0, .int .u8 0, .int .u8 0, .int .u8 0, .int .u8 0, .int .u8 0, .int .u8 0, .int .u8 0, .int .u8 0, .int .u8 0, .int .u8 0, .int .u8 0, .int .u8 0, .int .u8 0, .int .u8 0, .int .u8 0, .int .u8 0, .int .u8 0, .int .u8 0, .int .u8 0, .int .u8 0, .int .u8 0, .int .u8 0, .int .u8 0, .int .u8 0, .int .u8 0, .int .u8 0, .int .u8 0, .int .u8 0, .int .u8 0, .int .u8 0] 42)) := (Below.refl _ _).alloc (Nat.le_refl _) _
  obtain ⟨cs, hcs, hres0⟩ : ∃ cs : Array Value, cs.size = 32 ∧ (w.alloc (.cells #[.int .u8 0, .int .u8 0, .int .u8 0, .int .u8 0, .int .u8 0, .int .u8 0, .int .u8 0, .int .u8 0, .int .u8 0, .int .u8 0, .int .u8 0, .int .u8 0, .int .u8 0, .int .u8 0, .int .u8 0, .int .u8 0, .int .u8 0, .int .u8 0, .int .u8 0, .int .u8 0, .int .u8 0, .int .u8 0, .int .u8 0, .int .u8 0, .int .u8 0, .int .u8 0, .int .u8 0, .int .u8 0, .int .u8 0, .int .u8 0, .int .u8 0, .int .u8 0] 42)).heap[w.heap.size]? = some (.cells cs 42 (0, 0)) := ⟨#[.int .u8 0, .int .u8 0, .int .u8 0, .int .u8 0, .int .u8 0, .int .u8 0, .int .u8 0, .int .u8 0, .int .u8 0, .int .u8 0, .int .u8 0, .int .u8 0, .int .u8 0, .int .u8 0, .int .u8 0, .int .u8 0, .int .u8 0, .int .u8 0, .int .u8 0, .int .u8 0, .int .u8 0, .int .u8 0, .int .u8 0, .int .u8 0, .int .u8 0, .int .u8 0, .int .u8 0, .int .u8 0, .int .u8 0, .int .u8 0, .int .u8 0, .int .u8 0], rfl, heap_alloc_new _ _⟩
  have hs0 : (w.alloc (.cells #[.int .u8 0, .int .u8 0, .int .u8 0, .int .u8 0, .int .u8 0, .int .u8 0, .int .u8 0, .int .u8 0, .int .u8 0, .int .u8 0, .int .u8 0, .int .u8 0, .int .u8 0, .int .u8 0, .int .u8 0, .int .u8 0, .int .u8 0, .int .u8 0, .int .u8 0, .int .u8 0, .int .u8 0, .int .u8 0, .int .u8 0, .int .u8 0, .int .u8 0, .int .u8 0, .int .u8 0, .int .u8 0, .int .u8 0, .int .u8 0, .int .u8 0, .int .u8 0] 42)).heap.size = w.heap.size + 1 := by simp
  have hown : ((w.alloc (.cells #[.int .u8 0, .int .u8 0, .int .u8 0, .int .u8 0, .int .u8 0, .int .u8 0, .int .u8 0, .int .u8 0, .int .u8 0, .int .u8 0, .int .u8 0, .int .u8 0, .int .u8 0, .int .u8 0, .int .u8 0, .int .u8 0, .int .u8 0, .int .u8 0, .int .u8 0, .int .u8 0, .int .u8 0, .int .u8 0, .int .u8 0, .int .u8 0, .int .u8 0, .int .u8 0, .int .u8 0, .int .u8 0, .int .u8 0, .int .u8 0, .int .u8 0, .int .u8 0] 42)).alloc (.cells #[.int .u8 0] 5)).ownsRow (w.heap.size + 1) 5 1 (.slice (some ⟨w.heap.size + 1, 0, none⟩) 1 1) 1 (bv [0]) := by
    have h := World.ownsRow_lit (base := w.heap.size + 1) (e := 5) (size := 1) (w.alloc (.cells #[.int .u8 0, .int .u8 0, .int .u8 0, .int .u8 0, .int .u8 0, .int .u8 0, .int .u8 0, .int .u8 0, .int .u8 0, .int .u8 0, .int .u8 0, .int .u8 0, .int .u8 0, .int .u8 0, .int .u8 0, .int .u8 0, .int .u8 0, .int .u8 0, .int .u8 0, .int .u8 0, .int .u8 0, .int .u8 0, .int .u8 0, .int .u8 0, .int .u8 0, .int .u8 0, .int .u8 0, .int .u8 0, .int .u8 0, .int .u8 0, .int .u8 0, .int .u8 0] 42)) #[.int .u8 0] 1 (by rw [hs0]; exact Nat.le_refl _) (by unfold maxLen; omega) rfl
    rw [hs0] at h; exact h
  have hb1 : Below (w.heap.size + 1) (w.alloc (.cells #[.int .u8 0, .int .u8 0, .int .u8 0, .int .u8 0, .int .u8 0, .int .u8 0, .int .u8 0, .int .u8 0, .int .u8 0, .int .u8 0, .int .u8 0, .int .u8 0, .int .u8 0, .int .u8 0, .int .u8 0, .int .u8 0, .int .u8 0, .int .u8 0, .int .u8 0, .int .u8 0, .int .u8 0, .int .u8 0, .int .u8 0, .int .u8 0, .int .u8 0, .int .u8 0, .int .u8 0, .int .u8 0, .int .u8 0, .int .u8 0, .int .u8 0, .int .u8 0] 42)) ((w.alloc (.cells #[.int .u8 0, .int .u8 0, .int .u8 0, .int .u8 0, .int .u8 0, .int .u8 0, .int .u8 0, .int .u8 0, .int .u8 0, .int .u8 0, .int .u8 0, .int .u8 0, .int .u8 0, .int .u8 0, .int .u8 0, .int .u8 0, .int .u8 0, .int .u8 0, .int .u8 0, .int .u8 0, .int .u8 0, .int .u8 0, .int .u8 0, .int .u8 0, .int .u8 0, .int .u8 0, .int .u8 0, .int .u8 0, .int .u8 0, .int .u8 0, .int .u8 0, .int .u8 0] 42)).alloc (.cells #[.int .u8 0] 5)) := (Below.refl _ _).alloc (by rw [hs0]; exact Nat.le_refl _) _
  have hB := hb.below (hb0.trans (hb1.mono (by omega)))
  have hs1 : w.heap.size + 1 ≤ ((w.alloc (.cells #[.int .u8 0, .int .u8 0, .int .u8 0, .int .u8 0, .int .u8 0, .int .u8 0, .int .u8 0, .int .u8 0, .int .u8 0, .int .u8 0, .int .u8 0, .int .u8 0, .int .u8 0, .int .u8 0, .int .u8 0, .int .u8 0, .int .u8 0, .int .u8 0, .int .u8 0, .int .u8 0, .int .u8 0, .int .u8 0, .int .u8 0, .int .u8 0, .int .u8 0, .int .u8 0, .int .u8 0, .int .u8 0, .int .u8 0, .int .u8 0, .int .u8 0, .int .u8 0] 42)).alloc (.cells #[.int .u8 0] 5)).heap.size := by simp
  have HA : Bx _ := ⟨hown⟩
  have HB : Bx _ := ⟨hB⟩
  have HL0 : Bx _ := ⟨hb0⟩
  have HL1 : Bx _ := ⟨hb1⟩
  have HS1 : Bx _ := ⟨hs1⟩
  have HR0 : Bx _ := ⟨hres0⟩
  clear hown hB hb0 hb1 hs1 hs0 hres0
  go_enter Tryd.func43, Tryd.ntmps43
  go_wp2_with (at_builtin; refine wpList_append_bts rfl (.tmp 5) (.tmp 6) rfl (w.heap.size + 1) 1 _ [0] rfl HA.out a len cap b rfl HB.out (by omega) HS1.out ?_; intro v2 w2 hown2 hb2 _; have hb02 := HL1.out.trans hb2; have hlow2 := HL0.out.trans (hb02.mono (by omega)); have hres2 := (hb02.block w.heap.size (by omega)).trans HR0.out; clear hb02 hb2 HA HB HL0 HL1 HS1 HR0; obtain ⟨a3, c3, rfl, hB3⟩ := Bts.of_owns hown2 (Byt.append (Byt.cons (by decide) Byt.nil) hb.byt); clear hown2)
  refine (refsum_any a3 (1 + len) c3 ([0] ++ b) _ hB3 (by omega)).mono ?_
  rintro e w4 ⟨rfl, hb4⟩
  have hlow4 := bstep hlow2 hb4
  have hres4 := (hb4.block w.heap.size (Array.getElem?_eq_some_iff.1 hres2).1).trans hres2
  have HE : Bx (leafL b x = cutL (sumL ([0] ++ b)) x) := ⟨rfl⟩
  have hdg : Dg (sumL ([0] ++ b)) := ⟨sumL_length _, sum_byt _⟩
  generalize sumL ([0] ++ b) = d at HE hdg ⊢
  clear hlow2 hB3 hres2 hb4
  go_wp2_with fail
  refine (refmcut_any d x _ hdg).mono ?_
  rintro e w5 ⟨rfl, hb5⟩
  have hlow5 := bstep hlow4 hb5
  have hres5 := (hb5.block w.heap.size (Array.getElem?_eq_some_iff.1 hres4).1).trans hres4
  have hZ := cutL_dg hdg.2 x
  clear hlow4 hres4 hb5
  have hth := there_row hres5
  rw [hcs] at hth
  have HZ2 : Bx ((bv (cutL d x)).toArray.size = 32) := ⟨by rw [List.size_toArray, bv_length, hZ.1]⟩
  have HO2 : Bx ((bv (cutL d x)).toArray.all (·.oneCell') = true) := ⟨all_oneCell_toArray (bv_one _)⟩
  generalize hD : (bv (cutL d x)).toArray = D at HZ2 HO2 ⊢
  have HD : Bx (Ending.returned (.agg D) = .returned (.agg (bv (leafL b x)).toArray)) := ⟨by rw [HE.out, hD]⟩
  clear hD
  have HI2 : Bx ((Tryd.prog.info? 42).map (·.size) = some D.size) := ⟨by rw [HZ2.out]; exact dig_info⟩
  have HST : Bx ((w5.setCells w.heap.size 0 D.toList).heap[w.heap.size]? = some (.cells D 42 (0, 0))) := ⟨heap_stored (vs := D) hres5 (by rw [hcs, HZ2.out])⟩
  have HBS : Bx (Below w.heap.size w (w5.setCells w.heap.size 0 D.toList)) := ⟨below_setCells hlow5 w.heap.size (Nat.le_refl _) D.toList 0⟩
  have HTH : Bx (w5.there w.heap.size 0 D.size) := ⟨by rw [HZ2.out]; exact hth⟩
  clear hres5 hth hlow5 hcs
  go_wp2_with (refine wpList_store_mid rfl 42 (.tmp 4) (.tmp 10) rfl w.heap.size 0 D rfl rfl HTH.out HI2.out HO2.out ?_)
  exact bodyPost_ret (v := .agg D) (results_cell_row rfl _ _ w.heap.size 42 D (0, 0) _ rfl HST.out Tryd.underlying42 rfl HI2.out) rfl ⟨HD.out, HBS.out⟩
/-- what stays while the document's Node goes on -/
structure RN (N : Nat) (y z : List Int) (w wr : World) : Prop where
  low : Below N w wr
  fst : wr.heap[N]? = some (.cells (bv y).toArray 42 (0, 0))
  snd : wr.heap[N + 1]? = some (.cells (bv z).toArray 42 (0, 0))
  res : ∃ cs : Array Value, cs.size = 32 ∧ wr.heap[N + 1 + 1]? = some (.cells cs 42 (0, 0))
theorem RN.lt {N : Nat} {y z : List Int} {w wr : World} (h : RN N y z w wr) : N + 1 + 1 < wr.heap.size := by
  obtain ⟨cs, _, e⟩ := h.res; exact (Array.getElem?_eq_some_iff.1 e).1
theorem RN.step {N B : Nat} {y z : List Int} {w wr w1 : World} (h : RN N y z w wr) (hb : Below B wr w1) (hB : N + 1 + 1 + 1 ≤ B) : RN N y z w w1 := by
  have hl := h.lt
  obtain ⟨cs, e1, e2⟩ := h.res
  exact ⟨h.low.trans (hb.mono (by omega)), (hb.block _ (by omega)).trans h.fst, (hb.block _ (by omega)).trans h.snd, ⟨cs, e1, (hb.block _ (by omega)).trans e2⟩⟩

set_option maxRecDepth 100000 in
set_option maxHeartbeats 1000000 in
theorem refnode_any (y z : List Int) (x : Int) (w : World) (hy : Dg y) (hz : Dg z) :
    Calls Tryd.prog 50 #[.agg (bv y).toArray, .agg (bv z).toArray, .int .i64 x] w fun e w' => e = .returned (.agg (bv (nodeL y z x)).toArray) ∧ Below w.heap.size w w' := by
  have hrn : RN w.heap.size y z w (((w.alloc (.cells (bv y).toArray 42)).alloc (.cells (bv z).toArray 42)).alloc (.cells #[.int .u8 0, .int .u8 0, .int .u8 0, .int .u8 0, .int .u8 0, .int .u8 0, .int .u8 0, .int .u8 0, .int .u8 0, .int .u8 0, .int .u8 0, .int .u8 0, .int .u8 0, .int .u8 0, .int .u8 0, .int .u8 0, .int .u8 0, .int .u8 0, .int .u8 0, .int .u8 0, .int .u8 0, .int .u8 0, .int .u8 0, .int .u8 0, .int .u8 0, .int .u8 0, .int .u8 0, .int .u8 0, .int .u8 0, .int .u8 0, .int .u8 0, .int .u8 0] 42)) := by
    have hb1 : Below w.heap.size w (((w.alloc (.cells (bv y).toArray 42)).alloc (.cells (bv z).toArray 42)).alloc (.cells #[.int .u8 0, .int .u8 0, .int .u8 0, .int .u8 0, .int .u8 0, .int .u8 0, .int .u8 0, .int .u8 0, .int .u8 0, .int .u8 0, .int .u8 0, .int .u8 0, .int .u8 0, .int .u8 0, .int .u8 0, .int .u8 0, .int .u8 0, .int .u8 0, .int .u8 0, .int .u8 0, .int .u8 0, .int .u8 0, .int .u8 0, .int .u8 0, .int .u8 0, .int .u8 0, .int .u8 0, .int .u8 0, .int .u8 0, .int .u8 0, .int .u8 0, .int .u8 0] 42)) := (((Below.refl _ _).alloc (Nat.le_refl _) _).alloc (by simp) _).alloc (by simp; omega) _
    refine ⟨hb1, ?_, ?_, ⟨#[.int .u8 0, .int .u8 0, .int .u8 0, .int .u8 0, .int .u8 0, .int .u8 0, .int .u8 0, .int .u8 0, .int .u8 0, .int .u8 0, .int .u8 0, .int .u8 0, .int .u8 0, .int .u8 0, .int .u8 0, .int .u8 0, .int .u8 0, .int .u8 0, .int .u8 0, .int .u8 0, .int .u8 0, .int .u8 0, .int .u8 0, .int .u8 0, .int .u8 0, .int .u8 0, .int .u8 0, .int .u8 0, .int .u8 0, .int .u8 0, .int .u8 0, .int .u8 0], rfl, ?_⟩⟩
    · rw [heap_alloc_old _ _ (by simp; omega), heap_alloc_old _ _ (by simp), heap_alloc_new]
    · rw [heap_alloc_old _ _ (by simp), show w.heap.size + 1 = (w.alloc (.cells (bv y).toArray 42)).heap.size from by simp, heap_alloc_new]
    · rw [show w.heap.size + 1 + 1 = ((w.alloc (.cells (bv y).toArray 42)).alloc (.cells (bv z).toArray 42)).heap.size from by simp, heap_alloc_new]
  have hs0 : (((w.alloc (.cells (bv y).toArray 42)).alloc (.cells (bv z).toArray 42)).alloc (.cells #[.int .u8 0, .int .u8 0, .int .u8 0, .int .u8 0, .int .u8 0, .int .u8 0, .int .u8 0, .int .u8 0, .int .u8 0, .int .u8 0, .int .u8 0, .int .u8 0, .int .u8 0, .int .u8 0, .int .u8 0, .int .u8 0, .int .u8 0, .int .u8 0, .int .u8 0, .int .u8 0, .int .u8 0, .int .u8 0, .int .u8 0, .int .u8 0, .int .u8 0, .int .u8 0, .int .u8 0, .int .u8 0, .int .u8 0, .int .u8 0, .int .u8 0, .int .u8 0] 42)).heap.size = w.heap.size + 1 + 1 + 1 := by simp
  have hown : ((((w.alloc (.cells (bv y).toArray 42)).alloc (.cells (bv z).toArray 42)).alloc (.cells #[.int .u8 0, .int .u8 0, .int .u8 0, .int .u8 0, .int .u8 0, .int .u8 0, .int .u8 0, .int .u8 0, .int .u8 0, .int .u8 0, .int .u8 0, .int .u8 0, .int .u8 0, .int .u8 0, .int .u8 0, .int .u8 0, .int .u8 0, .int .u8 0, .int .u8 0, .int .u8 0, .int .u8 0, .int .u8 0, .int .u8 0, .int .u8 0, .int .u8 0, .int .u8 0, .int .u8 0, .int .u8 0, .int .u8 0, .int .u8 0, .int .u8 0, .int .u8 0] 42)).alloc (.cells #[.int .u8 1] 5)).ownsRow (w.heap.size + 1 + 1 + 1) 5 1 (.slice (some ⟨w.heap.size + 1 + 1 + 1, 0, none⟩) 1 1) 1 (bv [1]) := by
    have h := World.ownsRow_lit (base := w.heap.size + 1 + 1 + 1) (e := 5) (size := 1) (((w.alloc (.cells (bv y).toArray 42)).alloc (.cells (bv z).toArray 42)).alloc (.cells #[.int .u8 0, .int .u8 0, .int .u8 0, .int .u8 0, .int .u8 0, .int .u8 0, .int .u8 0, .int .u8 0, .int .u8 0, .int .u8 0, .int .u8 0, .int .u8 0, .int .u8 0, .int .u8 0, .int .u8 0, .int .u8 0, .int .u8 0, .int .u8 0, .int .u8 0, .int .u8 0, .int .u8 0, .int .u8 0, .int .u8 0, .int .u8 0, .int .u8 0, .int .u8 0, .int .u8 0, .int .u8 0, .int .u8 0, .int .u8 0, .int .u8 0, .int .u8 0] 42)) #[.int .u8 1] 1 (by rw [hs0]; exact Nat.le_refl _) (by unfold maxLen; omega) rfl
    rw [hs0] at h; exact h
  have hr1 := hrn.step ((Below.refl _ _).alloc (Nat.le_refl _) (.cells #[.int .u8 1] 5)) (by rw [hs0]; exact Nat.le_refl _)
  have hB := bts_cells hr1.fst hy.2 hy.1 (by unfold maxLen; omega)
  have hs1 : w.heap.size + 1 + 1 + 1 ≤ ((((w.alloc (.cells (bv y).toArray 42)).alloc (.cells (bv z).toArray 42)).alloc (.cells #[.int .u8 0, .int .u8 0, .int .u8 0, .int .u8 0, .int .u8 0, .int .u8 0, .int .u8 0, .int .u8 0, .int .u8 0, .int .u8 0, .int .u8 0, .int .u8 0, .int .u8 0, .int .u8 0, .int .u8 0, .int .u8 0, .int .u8 0, .int .u8 0, .int .u8 0, .int .u8 0, .int .u8 0, .int .u8 0, .int .u8 0, .int .u8 0, .int .u8 0, .int .u8 0, .int .u8 0, .int .u8 0, .int .u8 0, .int .u8 0, .int .u8 0, .int .u8 0] 42)).alloc (.cells #[.int .u8 1] 5)).heap.size := by simp
  have HA : Bx _ := ⟨hown⟩
  have HB : Bx _ := ⟨hB⟩
  have HR1 : Bx _ := ⟨hr1⟩
  have HS1 : Bx _ := ⟨hs1⟩
  have hda0 := dig_all w.heap.size
  have hda1 := dig_all (w.heap.size + 1)
  clear hown hB hr1 hs1 hs0 hrn
  go_enter Tryd.func50, Tryd.ntmps50
  go_wp2_with (first
    | (at_builtin; refine wpList_append_bts rfl (.tmp 8) (.tmp 9) rfl (w.heap.size + 1 + 1 + 1) 1 _ [1] rfl HA.out _ 32 32 y rfl HB.out (by decide) HS1.out ?_; intro v2 w2 hown2 hb2 _; have hr2 := HR1.out.step hb2 (Nat.le_refl _); have hs2 := Nat.le_trans HS1.out hb2.size; have hB2 := bts_cells hr2.snd hz.2 hz.1 (by unfold maxLen; omega); clear hb2 HA HB HS1 HR1)
    | (at_builtin; refine wpList_append_bts rfl (.tmp 11) (.tmp 12) rfl (w.heap.size + 1 + 1 + 1) (1 + 32) _ ([1] ++ y) rfl hown2 _ 32 32 z rfl hB2 (by decide) hs2 ?_; intro v3 w3 hown3 hb3 _; have hr3 := hr2.step hb3 (Nat.le_refl _); clear hb3 hown2 hB2 hs2 hr2; obtain ⟨a3, c3, rfl, hB3⟩ := Bts.of_owns hown3 (Byt.append (Byt.append (Byt.cons (by decide) Byt.nil) hy.2) hz.2); clear hown3))
  refine (refsum_any a3 (1 + 32 + 32) c3 ([1] ++ y ++ z) _ hB3 (by decide)).mono ?_
  rintro e w4 ⟨rfl, hb4⟩
  have hr4 := hr3.step hb4 hr3.lt
  have HE : Bx (nodeL y z x = cutL (sumL ([1] ++ y ++ z)) x) := ⟨by rw [List.append_assoc]; rfl⟩
  have hdg : Dg (sumL ([1] ++ y ++ z)) := ⟨sumL_length _, sum_byt _⟩
  generalize sumL ([1] ++ y ++ z) = d at HE hdg ⊢
  clear hB3 hr3 hb4 hda0 hda1
  go_wp2_with fail
  refine (refmcut_any d x _ hdg).mono ?_
  rintro e w5 ⟨rfl, hb5⟩
  have hr5 := hr4.step hb5 hr4.lt
  have hlow5 := hr5.low
  obtain ⟨cs, hcs, hres5⟩ := hr5.res
  have hZ := cutL_dg hdg.2 x
  clear hr4 hr5 hb5
  have hth := there_row hres5
  rw [hcs] at hth
  have HZ2 : Bx ((bv (cutL d x)).toArray.size = 32) := ⟨by rw [List.size_toArray, bv_length, hZ.1]⟩
  have HO2 : Bx ((bv (cutL d x)).toArray.all (·.oneCell') = true) := ⟨all_oneCell_toArray (bv_one _)⟩
  generalize hD : (bv (cutL d x)).toArray = D at HZ2 HO2 ⊢
  have HD : Bx (Ending.returned (.agg D) = .returned (.agg (bv (nodeL y z x)).toArray)) := ⟨by rw [HE.out, hD]⟩
  clear hD
  have HI2 : Bx ((Tryd.prog.info? 42).map (·.size) = some D.size) := ⟨by rw [HZ2.out]; exact dig_info⟩
  have HST : Bx ((w5.setCells (w.heap.size + 1 + 1) 0 D.toList).heap[w.heap.size + 1 + 1]? = some (.cells D 42 (0, 0))) := ⟨heap_stored (vs := D) hres5 (by rw [hcs, HZ2.out])⟩
  have HBS : Bx (Below w.heap.size w (w5.setCells (w.heap.size + 1 + 1) 0 D.toList)) := ⟨below_setCells hlow5 (w.heap.size + 1 + 1) (by omega) D.toList 0⟩
  have HTH : Bx (w5.there (w.heap.size + 1 + 1) 0 D.size) := ⟨by rw [HZ2.out]; exact hth⟩
  clear hres5 hth hlow5 hcs
  go_wp2_with (refine wpList_store_mid rfl 42 (.tmp 6) (.tmp 16) rfl (w.heap.size + 1 + 1) 0 D rfl rfl HTH.out HI2.out HO2.out ?_)
  exact bodyPost_ret (v := .agg D) (results_cell_row rfl _ _ (w.heap.size + 1 + 1) 42 D (0, 0) _ rfl HST.out Tryd.underlying42 rfl HI2.out) rfl ⟨HD.out, HBS.out⟩
end Go.Proofs.YtfkloilbjfleeaaDoor
