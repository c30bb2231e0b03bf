/- The document's own search: Verdict, and whether two verdicts are the same. -/
import Derived.Test.YtbjeeefkbmdmfaaRLin5
import Derived.Test.YtbjeeefkbmdmfaaLnh
import Derived.Test.YtbjeeefkbmdmfaaLnc
namespace Go.Proofs.Ytbjeeefkbmdmfaa
open Go.RowKit
set_option linter.unusedVariables false

set_option maxRecDepth 100000 in
theorem rank_le (l : List Ic) (fu : Int) (ops : List Opr) (p : Po) : (srO l fu ops).rank p ≤ ops.length := by
  show (List.filter _ (List.range ops.length)).length ≤ _
  exact Nat.le_trans (List.length_filter_le _ _) (by rw [List.length_range]; exact Nat.le_refl _)
set_option maxRecDepth 100000 in
theorem mk_false (n : Nat) : (madeCells (Value.bool false).cells (n * 1)).toList = (List.replicate n false).flatMap bvC := by
  rw [bv_map, List.map_replicate]
  apply List.ext_getElem?
  intro i
  by_cases hi : i < n
  · rw [List.getElem?_replicate, if_pos hi]; simp [madeCells, Value.cells, hi, Nat.mod_one]
  · rw [List.getElem?_eq_none (by rw [Array.length_toList, size_madeCells]; omega), List.getElem?_replicate, if_neg hi]
/-- what Verdict answers -/
def VdP (R : Rs Po) (w : World) (e : Ending) (w' : World) : Prop := ∃ vO, e = .returned (.agg #[.int .i64 (vdK R : Nat), vO, .int .i64 (R.t : Nat)]) ∧ OrP w.heap.size w' R vO ∧ Below w.heap.size w w'
set_option maxRecDepth 100000 in
theorem blk_low {α : Type} {en : α → List Value} {k : Nat} {w : World} {ao : Option Addr} {len cap : Nat} {L : List α} (h : Ls en k w ao len cap L) : ∀ p, ao = some p → 0 < len → p.block < w.heap.size := by
  intro p e hp
  obtain ⟨b, off, e2, hlt, _⟩ := h.spot hp
  rw [e] at e2; cases e2; exact hlt
set_option maxHeartbeats 4000000 in
set_option maxRecDepth 100000 in
theorem refverdict_any (aL a : Option Addr) (nL cL n c : Nat) (l : List Ic) (fu bu : Int) (ops : List Opr) (w : World) (hI : Ics w aL nL cL l) (hl : IcsK l) (h : Ors w a n c ops) (hO : OrsK ops) (hk : LinK l fu bu ops) :
    Calls Try.prog 20 #[.slice aL nL cL, .int .i64 fu, .int .i64 bu, .slice a n c] w (VdP (vdR l fu bu ops) w) := by
  have HLEN : Bx (ops.length = n) := ⟨h.len_eq⟩
  have hn64 : n ≤ 64 := by rw [← HLEN.out]; exact hk.few
  have HGK : Bx (GK l fu bu ops n) := ⟨hk.code, hl, hO, by have := hk.fuel; unfold V64; omega, hk.bud, hn64, HLEN.out⟩
  have HLB : Bx (LoB w.heap.size aL nL a n) := ⟨⟨blk_low hI, blk_low h⟩⟩
  obtain ⟨R, HR⟩ : ∃ R, Bx (vdR l fu bu ops = R) := ⟨_, ⟨rfl⟩⟩
  rw [HR.out]
  obtain ⟨gr, HGR⟩ : ∃ gr, Bx (gr = w.heap.size) := ⟨_, ⟨rfl⟩⟩
  have HGE : Bx (w.heap.size ≤ gr ∧ w.heap.size ≤ gr + 1) := ⟨by rw [HGR.out]; omega⟩
  obtain ⟨r1, r2, hb0⟩ := two_new w (.cells #[.int .i64 0, .slice none 0 0, .int .i64 0] 39) (.cells #[.slice aL nL cL, .int .i64 fu, .int .i64 bu, .slice a n c, .slice none 0 0, .int .i64 0, .slice none 0 0, .int .i64 0] 84)
  rw [← HGR.out] at r1 r2
  have HR1 := Bx.mk r1
  have HS0 : Bx (Se w.heap.size ((w.alloc (.cells #[.int .i64 0, .slice none 0 0, .int .i64 0] 39)).alloc (.cells #[.slice aL nL cL, .int .i64 fu, .int .i64 bu, .slice a n c, .slice none 0 0, .int .i64 0, .slice none 0 0, .int .i64 0] 84)) (gr + 1) aL nL cL fu bu a n c (.slice none 0 0) (.slice none 0 0) [] 0) := ⟨⟨r2⟩, HGE.out.2, World.ownsRow_nil _ _ _ _, fun x hx => by cases hx⟩
  have HB0 := Bx.mk hb0
  have HI0 := Bx.mk (hI.below hb0)
  have HO0 := Bx.mk (h.below hb0)
  obtain ⟨i0, hi0, hz0, hz1, hz2⟩ := info_parts Try.infoB18
  have HINF := Bx.mk (And.intro hi0 (And.intro hz0 (And.intro hz1 hz2)))
  clear hI hl h hO hk r1 r2 hb0 hi0 hz0 hz1 hz2
  go_enter Try.func20, Try.ntmps20
  go_upto_region 2 with fail
  rw [← HGR.out]
  generalize (w.alloc (.cells #[.int .i64 0, .slice none 0 0, .int .i64 0] 39)).alloc (.cells #[.slice aL nL cL, .int .i64 fu, .int .i64 bu, .slice a n c, .slice none 0 0, .int .i64 0, .slice none 0 0, .int .i64 0] 84) = w0 at HR1 HS0 HB0 HI0 HO0 ⊢
  have hi0 := HINF.out.1
  have hz0 := HINF.out.2.1
  have hz1 := HINF.out.2.2.1
  have hz2 := HINF.out.2.2.2
  go_wp2_with (refine wpList_make_full _ rfl _ _ 86 rfl w0.heap.size 4 i0 (.bool false) 1 Try.underlying86 hi0 hz0 hz1 .i64 .i64 n n n rfl rfl rfl rfl (by rw [hz2]; omega) (by unfold maxLen; omega) (Nat.le_refl _) (fun w' h1 h2 => ?_))
  rw [mk_false] at h1
  have hb1 : Below w0.heap.size w0 w' := (Below.refl _ _).grown h2 (Nat.le_refl _) (by intro k hk; cases hk)
  have HIN := Bx.mk (owns_base h1 HB0.out.size)
  have HS1 := Bx.mk (HS0.out.below hb1)
  have HI1 := Bx.mk (HI0.out.below hb1)
  have HO1 := Bx.mk (HO0.out.below hb1)
  have HR1' := Bx.mk (up_row _ _ HR1.out hb1)
  have HB1 := Bx.mk (bstep HB0.out hb1)
  have HZ : Bx (V64 0 ∧ V64 0 ∧ V64 0 ∧ V64 0) := ⟨by unfold V64; decide⟩
  have HRL : Bx (([] : List Nat).length + (srO l fu ops).rank ⟨List.replicate n false, [0, 0, 0, 0]⟩ ≤ n) := ⟨by have := rank_le l fu ops ⟨List.replicate n false, [0, 0, 0, 0]⟩; rw [HLEN.out] at this; simpa using this⟩
  clear h1 h2 hb1 hi0 hz0 hz1 hz2 HS0 HI0 HO0 HR1 HB0 HINF
  generalize w0.heap.size = gS at HIN ⊢
  go_wp2_with fail
  refine (goes18_any w.heap.size (gr + 1) aL nL cL fu bu a n c l ops HGK.out HLB.out _ (some ⟨gS, 0, none⟩) n (List.replicate n false) 0 0 0 0 none 0 [] (.slice none 0 0) [] 0 w' (Nat.le_refl _) HRL.out HS1.out HI1.out HO1.out HIN.out (by simp) HZ.out (World.ownsRow_nil _ _ _ _) (Nat.le_refl _) (Nat.zero_le _)).mono ?_
  rintro e w3 ⟨V, vW, vO, rfl, hs3, _, _, _, hk3, ho3⟩
  have HRR : Bx (gs (srO l fu ops) bu.toNat ⟨List.replicate n false, [0, 0, 0, 0]⟩ [] (([] : List Pl).map Pl.p) 0 = R) := ⟨by rw [← HR.out]; unfold vdR po0; rw [HLEN.out]; rfl⟩
  rw [HRR.out] at hs3 ho3 ⊢
  have HS3 := Bx.mk hs3
  have HO3 := Bx.mk ho3
  have HG3 : Bx (w3.heap[gr]? = some (.cells #[.int .i64 0, .slice none 0 0, .int .i64 0] 39 (0, 0))) := ⟨(hk3.block gr (Array.getElem?_eq_some_iff.1 HR1'.out).1 (fun e => by rcases e with e | e; omega; cases e)).trans HR1'.out⟩
  have HB3 : Bx (Below w.heap.size w w3) := ⟨HB1.out.trans (hk3.low (B := w.heap.size) (fun j e => by rcases e with e | e; rw [e]; exact HGE.out.2; cases e) HB1.out.size)⟩
  have HVS : Bx (∃ aV nV cV, vO = .slice aV nV cV) := ⟨by
    by_cases hk1 : R.k = 1
    · obtain ⟨aV, cV, e⟩ := own_sl (ho3.1 hk1); exact ⟨aV, _, cV, e⟩
    · exact ⟨none, 0, 0, ho3.2 hk1⟩⟩
  clear hs3 hk3 ho3 HS1 HI1 HO1 HIN HR1' HB1 HRL HZ HRR HR
  by_cases hk0 : R.k = 0
  · have HVK : Bx (vdK R = 2) := ⟨by unfold vdK; rw [if_pos hk0]⟩
    rw [hk0]
    clear hk0
    go_upto_region 5 with fail
    have z5 := cell_of_row _ (gr + 1) 5 _ _ (0, 0) HS3.out.sx.row
    have f5 := HS3.out.froz 5
    have HR4 := Bx.mk (heap_setCell_same w3 (gr + 1) 5 _ _ (.int .i64 2) HS3.out.sx.row)
    have HG4 := Bx.mk ((heap_setCell_other w3 ⟨gr + 1, 5, none⟩ gr (.int .i64 2) (show gr ≠ gr + 1 by omega)).trans HG3.out)
    have HB4 := Bx.mk (HB3.out.setCell (p := ⟨gr + 1, 5, none⟩) HGE.out.2 (.int .i64 2))
    have HO4 : Bx (OrP w.heap.size (w3.setCell ⟨gr + 1, 5, none⟩ (.int .i64 2)) R vO) := ⟨fun e => ownsRow_setCell_other (HO3.out.1 e) (a := ⟨gr + 1, 5, none⟩) (own_off (HO3.out.1 e) HS3.out.sx.row (by decide)) _, HO3.out.2⟩
    go_upto_region 6 with fail
    generalize w3.setCell ⟨gr + 1, 5, none⟩ (.int .i64 2) = w4 at HR4 HG4 HB4 HO4 ⊢
    clear z5 f5
    have y5 := cell_of_row _ (gr + 1) 5 _ _ (0, 0) HR4.out
    have y6 := cell_of_row _ (gr + 1) 6 _ _ (0, 0) HR4.out
    have y7 := cell_of_row _ (gr + 1) 7 _ _ (0, 0) HR4.out
    have x0 := cell_of_row _ gr 0 _ _ (0, 0) HG4.out
    have x1 := cell_of_row _ gr 1 _ _ (0, 0) HG4.out
    have x2 := cell_of_row _ gr 2 _ _ (0, 0) HG4.out
    have f0 := frozen_of_row _ gr 0 _ _ HG4.out
    have f1 := frozen_of_row _ gr 1 _ _ HG4.out
    have f2 := frozen_of_row _ gr 2 _ _ HG4.out
    have HO5 : Bx (OrP w.heap.size (((w4.setCell ⟨gr, 0, none⟩ (.int .i64 2)).setCell ⟨gr, 1, none⟩ vO).setCell ⟨gr, 2, none⟩ (.int .i64 (R.t : Nat))) R vO) := ⟨fun e => by
      have h1 := HO4.out.1 e
      have hne := own_off h1 HG4.out (by decide)
      exact ownsRow_setCell_other (ownsRow_setCell_other (ownsRow_setCell_other h1 (a := ⟨gr, 0, none⟩) hne _) (a := ⟨gr, 1, none⟩) hne _) (a := ⟨gr, 2, none⟩) hne _, HO4.out.2⟩
    have HB5 := Bx.mk (((HB4.out.setCell (p := ⟨gr, 0, none⟩) HGE.out.1 (.int .i64 2)).setCell (p := ⟨gr, 1, none⟩) HGE.out.1 vO).setCell (p := ⟨gr, 2, none⟩) HGE.out.1 (.int .i64 (R.t : Nat)))
    obtain ⟨aV, nV, cV, rfl⟩ := HVS.out
    go_wp2_with fail
    exact bodyPost_ret (v := .agg #[.int .i64 2, .slice aV nV cV, .int .i64 (R.t : Nat)]) (by simp [results, Try.results20, go_sem, x0, x1, x2]) rfl ⟨_, by first | (rw [HVK.out]; done) | (rw [HVK.out]; rfl), HO5.out, HB5.out⟩
  · have HVK : Bx (vdK R = R.k) := ⟨by unfold vdK; rw [if_neg hk0]⟩
    obtain ⟨kq, HKQ⟩ : ∃ kq : Nat, Bx (R.k = kq) := ⟨_, ⟨rfl⟩⟩
    rw [HKQ.out] at HVK hk0 ⊢
    have hq : ((kq : Int) == 0) = false := beq_false_of_ne (by omega)
    clear hk0
    go_upto_region 5 with fail
    have z5 := cell_of_row _ (gr + 1) 5 _ _ (0, 0) HS3.out.sx.row
    have f5 := HS3.out.froz 5
    have HR4 := Bx.mk (heap_setCell_same w3 (gr + 1) 5 _ _ (.int .i64 (kq : Int)) HS3.out.sx.row)
    have HG4 := Bx.mk ((heap_setCell_other w3 ⟨gr + 1, 5, none⟩ gr (.int .i64 (kq : Int)) (show gr ≠ gr + 1 by omega)).trans HG3.out)
    have HB4 := Bx.mk (HB3.out.setCell (p := ⟨gr + 1, 5, none⟩) HGE.out.2 (.int .i64 (kq : Int)))
    have HO4 : Bx (OrP w.heap.size (w3.setCell ⟨gr + 1, 5, none⟩ (.int .i64 (kq : Int))) R vO) := ⟨fun e => ownsRow_setCell_other (HO3.out.1 e) (a := ⟨gr + 1, 5, none⟩) (own_off (HO3.out.1 e) HS3.out.sx.row (by decide)) _, HO3.out.2⟩
    go_upto_region 6 with fail
    generalize w3.setCell ⟨gr + 1, 5, none⟩ (.int .i64 (kq : Int)) = w4 at HR4 HG4 HB4 HO4 ⊢
    clear z5 f5
    have y5 := cell_of_row _ (gr + 1) 5 _ _ (0, 0) HR4.out
    have y6 := cell_of_row _ (gr + 1) 6 _ _ (0, 0) HR4.out
    have y7 := cell_of_row _ (gr + 1) 7 _ _ (0, 0) HR4.out
    have x0 := cell_of_row _ gr 0 _ _ (0, 0) HG4.out
    have x1 := cell_of_row _ gr 1 _ _ (0, 0) HG4.out
    have x2 := cell_of_row _ gr 2 _ _ (0, 0) HG4.out
    have f0 := frozen_of_row _ gr 0 _ _ HG4.out
    have f1 := frozen_of_row _ gr 1 _ _ HG4.out
    have f2 := frozen_of_row _ gr 2 _ _ HG4.out
    have HO5 : Bx (OrP w.heap.size (((w4.setCell ⟨gr, 0, none⟩ (.int .i64 (kq : Int))).setCell ⟨gr, 1, none⟩ vO).setCell ⟨gr, 2, none⟩ (.int .i64 (R.t : Nat))) R vO) := ⟨fun e => by
      have h1 := HO4.out.1 e
      have hne := own_off h1 HG4.out (by decide)
      exact ownsRow_setCell_other (ownsRow_setCell_other (ownsRow_setCell_other h1 (a := ⟨gr, 0, none⟩) hne _) (a := ⟨gr, 1, none⟩) hne _) (a := ⟨gr, 2, none⟩) hne _, HO4.out.2⟩
    have HB5 := Bx.mk (((HB4.out.setCell (p := ⟨gr, 0, none⟩) HGE.out.1 (.int .i64 (kq : Int))).setCell (p := ⟨gr, 1, none⟩) HGE.out.1 vO).setCell (p := ⟨gr, 2, none⟩) HGE.out.1 (.int .i64 (R.t : Nat)))
    obtain ⟨aV, nV, cV, rfl⟩ := HVS.out
    go_wp2_with fail
    exact bodyPost_ret (v := .agg #[.int .i64 (kq : Int), .slice aV nV cV, .int .i64 (R.t : Nat)]) (by simp [results, Try.results20, go_sem, x0, x1, x2]) rfl ⟨_, by first | (rw [HVK.out]; done) | (rw [HVK.out]; rfl), HO5.out, HB5.out⟩
end Go.Proofs.Ytbjeeefkbmdmfaa
