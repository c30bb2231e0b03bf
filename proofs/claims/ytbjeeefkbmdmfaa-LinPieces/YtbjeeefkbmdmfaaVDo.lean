/- One instruction is done; a refusal is recovered. -/
import Derived.Test.YtbjeeefkbmdmfaaVWork
import Derived.Defers
import Derived.Recover
namespace Go.Proofs.Ytbjeeefkbmdmfaa
open Go.RowKit
set_option linter.unusedVariables false

set_option maxRecDepth 100000 in
theorem catch_refused (p : Addr) (x : Int) (w : World) (hc : w.cell? p = some (.int .i64 x)) (hz : w.frozen? p = false) :
    CallsD Try.prog 82 #[.pointer (some p)] (.panicking rfV) w fun e u' w' =>
      e = .returned (.tuple #[]) ∧ u' = .panicking [{ v := .iface 9 (.string ⟨#[114, 101, 102, 117, 115, 101, 100]⟩), recovered := true }] ∧ w' = w.setCell p (.int .i64 2) := by
  refine callsD_of_wpS Try.func82 rfl fun c₀ cs hu => ?_
  unfold rfV at hu
  apply wpS_seq
  apply wpS_region
  simp [wpOpsS, go_sem, recoverD, hu, Try.ntmps82, Exit.thenS]
  refine wpS_cond (t := true) (by simp [Act.eval, Array.replicate]) ?_
  simp only [if_true]
  apply wpS_region
  simp [wpOpsS, go_sem, hc, hz, bodyPostS, results, Try.results82]
set_option maxRecDepth 100000 in
theorem catch_idle (p : Addr) (w : World) :
    CallsD Try.prog 82 #[.pointer (some p)] .returning w fun e u' w' => e = .returned (.tuple #[]) ∧ u' = .returning ∧ w' = w := by
  refine callsD_of_wpS Try.func82 rfl fun c₀ cs hu => ?_
  apply wpS_seq
  apply wpS_region
  simp [wpOpsS, go_sem, recoverD, hu, Try.ntmps82, Exit.thenS]
  refine wpS_cond (t := false) (by simp [Act.eval, Array.replicate]) ?_
  simp only [Bool.false_eq_true, if_false]
  refine wpS_of_wp (wp_skip ?_)
  cases c₀
  simp_all [bodyPostS, results, Try.results82]
/-- what do answers, and what there is then -/
def DoP (x : Ic) (k a : Int) (v : VS) (g : Nat) (r : Int) (w : World) (e : Ending) (w' : World) : Prop :=
  e = .returned (.int .i64 (do1 x k a v).2.1) ∧ ((do1 x k a v).2.1 = 0 → Ru w' g (do1 x k a v).1 k a r) ∧ ((do1 x k a v).2.1 = 1 → Ru w' g (do1 x k a v).1 k a (do1 x k a v).2.2) ∧ Kept (fun j => j = g) w w'
set_option maxRecDepth 100000 in
theorem dop_go {x : Ic} {k a : Int} {v v' : VS} {g : Nat} {r : Int} {w w' : World} (h : do1 x k a v = (v', 0, 0)) (hr : Ru w' g v' k a r) (hk : Kept (fun j => j = g) w w') : DoP x k a v g r w (.returned (.int .i64 0)) w' := by
  unfold DoP; rw [h]; exact ⟨rfl, fun _ => hr, (fun e => by cases e), hk⟩
set_option maxRecDepth 100000 in
theorem dop_ans {x : Ic} {k a y : Int} {v v' : VS} {g : Nat} {r : Int} {w w' : World} (h : do1 x k a v = (v', 1, y)) (hr : Ru w' g v' k a y) (hk : Kept (fun j => j = g) w w') : DoP x k a v g r w (.returned (.int .i64 1)) w' := by
  unfold DoP; rw [h]; exact ⟨rfl, (fun e => by cases e), fun _ => hr, hk⟩
set_option maxRecDepth 100000 in
theorem dop_ref {x : Ic} {k a : Int} {v : VS} {g : Nat} {r : Int} {w w' : World} (h : (do1 x k a v).2.1 = 2) (hk : Kept (fun j => j = g) w w') : DoP x k a v g r w (.returned (.int .i64 2)) w' := by
  unfold DoP; rw [h]; exact ⟨rfl, (fun e => by cases e), (fun e => by cases e), hk⟩
set_option maxRecDepth 100000 in
theorem Ru.other {w : World} {g : Nat} {v : VS} {k a r : Int} (h : Ru w g v k a r) {b : Nat} (hb : ¬ b = g) (i : Nat) (x : Value) : Ru (w.setCell ⟨b, i, none⟩ x) g v k a r := by
  obtain ⟨R, h1, h2⟩ := h
  exact ⟨R, h1.keep (heap_setCell_other w ⟨b, i, none⟩ g x (fun e => hb e.symm)), h2⟩
/-- behind the place: the world, its run, its variables -/
structure DoW (w : World) (g : Nat) (o n : Int) (v : VS) (k a r : Int) (gv ge : Nat) (W : World) : Prop where
  ru : Ru W g v k a r
  rv : W.heap[gv]? = some (.cells #[.int .i64 o, .int .i64 n] 77 (0, 0))
  re : ∃ x, W.heap[ge]? = some (.cells #[.int .i64 x] 3 (0, 0))
  kp : Kept (fun j => j = g) w W
section
variable {w W W' : World} {g : Nat} {o n : Int} {v v' : VS} {k a r r' : Int} {gv ge : Nat}
set_option maxRecDepth 100000 in
theorem DoW.cells (h : DoW w g o n v k a r gv ge W) : W.cell? ⟨gv, 0, none⟩ = some (.int .i64 o) ∧ W.cell? ⟨gv, 1, none⟩ = some (.int .i64 n) := ⟨cell_of_row _ gv 0 _ _ (0, 0) h.rv, cell_of_row _ gv 1 _ _ (0, 0) h.rv⟩
set_option maxRecDepth 100000 in
theorem DoW.ecell (h : DoW w g o n v k a r gv ge W) : ∃ x, W.cell? ⟨ge, 0, none⟩ = some (.int .i64 x) ∧ W.frozen? ⟨ge, 0, none⟩ = false := by
  obtain ⟨x, e⟩ := h.re
  exact ⟨x, cell_of_row _ ge 0 _ _ (0, 0) e, frozen_of_row _ ge 0 _ _ e⟩
set_option maxRecDepth 100000 in
theorem DoW.call (h : DoW w g o n v k a r gv ge W) (hk : Kept (fun j => j = g) W W') (h1 : ¬ gv = g) (h2 : ¬ ge = g) (hr : Ru W' g v' k a r') : DoW w g o n v' k a r' gv ge W' := by
  obtain ⟨x, e⟩ := h.re
  exact ⟨hr, (hk.block gv (Array.getElem?_eq_some_iff.1 h.rv).1 h1).trans h.rv, ⟨x, (hk.block ge (Array.getElem?_eq_some_iff.1 e).1 h2).trans e⟩, h.kp.trans' hk⟩
set_option maxRecDepth 100000 in
theorem DoW.own (h : DoW w g o n v k a r gv ge W) (h1 : ¬ gv = g) (h2 : ¬ ge = g) (i : Nat) (x : Int) (hr : Ru (W.setCell ⟨g, i, none⟩ (.int .i64 x)) g v' k a r') : DoW w g o n v' k a r' gv ge (W.setCell ⟨g, i, none⟩ (.int .i64 x)) :=
  h.call (kept_own (Kept.refl _ _) _ _) h1 h2 hr
set_option maxRecDepth 100000 in
theorem DoW.fin (h : DoW w g o n v k a r gv ge W) (h2 : ¬ ge = g) (hs : w.heap.size ≤ ge) (x : Int) : Ru (W.setCell ⟨ge, 0, none⟩ (.int .i64 x)) g v k a r ∧ Kept (fun j => j = g) w (W.setCell ⟨ge, 0, none⟩ (.int .i64 x)) := ⟨h.ru.other h2 _ _, h.kp.setCell (g := ge) (.inr hs) _ _⟩
end
set_option maxRecDepth 100000 in
theorem do1_shift {x : Ic} {k a : Int} {v : VS} (ho : ¬ 16 ≤ x.o) (hx : isO x.o = true) : do1 x k a v = (⟨(do1 x k a ⟨v.c, v.s, v.p + 1⟩).1.c, (do1 x k a ⟨v.c, v.s, v.p + 1⟩).1.s, v.p + 1⟩, (do1 x k a ⟨v.c, v.s, v.p + 1⟩).2.1, 0) := by
  have := (isO_iff x.o).1 hx
  have : x.o = 0 ∨ x.o = 1 ∨ x.o = 2 ∨ x.o = 3 ∨ x.o = 4 ∨ x.o = 5 ∨ x.o = 6 ∨ x.o = 7 ∨ x.o = 15 ∨ (8 ≤ x.o ∧ x.o ≤ 14) := by omega
  rcases this with e | e | e | e | e | e | e | e | e | e
  · rw [do1_0 e, do1_0 e]
  · rw [do1_1 e, do1_1 e]; rfl
  · rw [do1_2 e, do1_2 e]; rfl
  · rw [do1_3 e, do1_3 e]; rfl
  · rw [do1_4 e, do1_4 e]
  · rw [do1_5 e, do1_5 e]; rfl
  · rw [do1_6 e, do1_6 e]
  · rw [do1_7 e, do1_7 e]
  · rw [do1_15 e, do1_15 e]; rfl
  · rw [do1_jnd e, do1_jnd e]
    show (match jnd x.o (tpA v) (tpB v) with | some y => _ | none => _) = _
    have e1 : tpA ⟨v.c, v.s, v.p + 1⟩ = tpA v := rfl
    have e2 : tpB ⟨v.c, v.s, v.p + 1⟩ = tpB v := rfl
    rw [e1, e2]
    cases jnd x.o (tpA v) (tpB v) <;> rfl
set_option maxRecDepth 100000 in
theorem do1_wk {x : Ic} {k a : Int} {v : VS} (ho : ¬ 16 ≤ x.o) (hx : isO x.o = true) (hz : (do1 x k a ⟨v.c, v.s, v.p + 1⟩).2.1 = 0) : do1 x k a v = (wk1 x k a ⟨v.c, v.s, v.p + 1⟩, 0, 0) := by
  rw [do1_shift ho hx, hz]; rfl
set_option maxRecDepth 100000 in
theorem do1_no {x : Ic} {k a : Int} {v : VS} (ho : ¬ 16 ≤ x.o) (hx : isO x.o = true) (hz : ¬ (do1 x k a ⟨v.c, v.s, v.p + 1⟩).2.1 = 0) : (do1 x k a v).2.1 = 2 := by
  have h1 : (do1 x k a v).2.1 = (do1 x k a ⟨v.c, v.s, v.p + 1⟩).2.1 := by rw [do1_shift (v := v) ho hx]
  have := (isO_iff x.o).1 hx
  have : x.o = 0 ∨ x.o = 1 ∨ x.o = 2 ∨ x.o = 3 ∨ x.o = 4 ∨ x.o = 5 ∨ x.o = 6 ∨ x.o = 7 ∨ x.o = 15 ∨ (8 ≤ x.o ∧ x.o ≤ 14) := by omega
  rw [← h1] at hz
  rcases this with e | e | e | e | e | e | e | e | e | e
  · exact absurd (by rw [do1_0 e]) hz
  · exact absurd (by rw [do1_1 e]) hz
  · exact absurd (by rw [do1_2 e]) hz
  · exact absurd (by rw [do1_3 e]) hz
  · exact absurd (by rw [do1_4 e]) hz
  · exact absurd (by rw [do1_5 e]) hz
  · exact absurd (by rw [do1_6 e]) hz
  · exact absurd (by rw [do1_7 e]) hz
  · exact absurd (by rw [do1_15 e]) hz
  · rw [do1_jnd e] at hz ⊢
    cases hj : jnd x.o (tpA v) (tpB v) with
    | some y => rw [hj] at hz; exact absurd rfl hz
    | none => rfl
set_option maxHeartbeats 4000000 in
set_option maxRecDepth 100000 in
theorem do_any (g : Nat) (o n : Int) (v : VS) (k a r : Int) (w : World) (h : Ru w g v k a r) (hF : Fit ⟨o, n⟩ v) (hp : v.p < 1000000) :
    Calls Try.prog 73 #[.pointer (some ⟨g, 0, none⟩), .agg #[.int .i64 o, .int .i64 n]] w (DoP ⟨o, n⟩ k a v g r w) := by
  have hmf : ∀ (fn : Fn) (first cap : Array Value) (w : World), (Instr.makeFunc fn first cap).run Try.prog w = .ok (.func fn first cap) w := fun _ _ _ _ => rfl
  have HF := Bx.mk hF
  obtain ⟨gv, HGV⟩ : ∃ gv, Bx (gv = w.heap.size) := ⟨_, ⟨rfl⟩⟩
  have hgl := h.lt
  have HN1 : Bx (¬ gv = g) := ⟨by rw [HGV.out]; omega⟩
  have HN2 : Bx (¬ gv + 1 = g) := ⟨by rw [HGV.out]; omega⟩
  have HGE : Bx (w.heap.size ≤ gv + 1) := ⟨by rw [HGV.out]; omega⟩
  have HD0 : Bx (DoW w g o n v k a r gv (gv + 1) ((w.alloc (.cells #[.int .i64 o, .int .i64 n] 77)).alloc (.cells #[.int .i64 0] 3))) := by
    have hb1 : Below w.heap.size w (w.alloc (.cells #[.int .i64 o, .int .i64 n] 77)) := (Below.refl _ _).alloc (Nat.le_refl _) _
    have hra := heap_alloc_new w (.cells #[.int .i64 o, .int .i64 n] 77)
    have hs1 : (w.alloc (.cells #[.int .i64 o, .int .i64 n] 77)).heap.size = gv + 1 := by rw [HGV.out]; simp
    generalize w.alloc (.cells #[.int .i64 o, .int .i64 n] 77) = W at hb1 hra hs1 ⊢
    have hb2 : Below W.heap.size W (W.alloc (.cells #[.int .i64 0] 3)) := (Below.refl _ _).alloc (Nat.le_refl _) _
    have hre := heap_alloc_new W (.cells #[.int .i64 0] 3)
    rw [hs1] at hre
    rw [← HGV.out] at hra
    exact ⟨⟨h.below (bstep hb1 hb2), (hb2.block gv (by rw [hs1]; omega)).trans hra, ⟨0, hre⟩, Kept.of_below (bstep hb1 hb2)⟩⟩
  clear hF h hgl
  go_enter_defers Try.func73, Try.ntmps73
  go_upto_region 2 with fail
  rw [← HGV.out]
  generalize (w.alloc (.cells #[.int .i64 o, .int .i64 n] 77)).alloc (.cells #[.int .i64 0] 3) = w0 at HD0 ⊢
  obtain ⟨p0, f0⟩ := HD0.out.ru.pAt
  have HD1 : Bx (DoW w g o n ⟨v.c, v.s, v.p + 1⟩ k a r gv (gv + 1) (w0.setCell ⟨g, 0, none⟩ (.int .i64 ((v.p : Int) + 1)))) := ⟨HD0.out.own HN1.out HN2.out 0 _ (HD0.out.ru.setP (v.p + 1))⟩
  have hpI : (v.p : Int) < 1000000 := by omega
  go_upto_region 3 with fail
  generalize w0.setCell ⟨g, 0, none⟩ (.int .i64 ((v.p : Int) + 1)) = w1 at HD1 ⊢
  clear p0 f0 HD0 hpI hmf
  obtain ⟨k0, k1⟩ := HD1.out.cells
  obtain ⟨ex, x0, x1⟩ := HD1.out.ecell
  have hop := (isO_iff o).1 HF.out.op
  have htk := HF.out.tk
  have hpl := HF.out.pl
  simp only at htk hpl
  by_cases e16 : o = 16
  · subst e16
    obtain ⟨q, rfl⟩ : ∃ q : Nat, n = (q : Int) := ⟨n.toNat, by have := hpl rfl; omega⟩
    have HDO : Bx (do1 ⟨16, (q : Int)⟩ k a v = (⟨v.c, v.s, q⟩, 0, 0)) := ⟨do1_16 rfl⟩
    obtain ⟨p0, f0⟩ := HD1.out.ru.pAt
    have HD2 : Bx (DoW w g 16 (q : Int) ⟨v.c, v.s, q⟩ k a r gv (gv + 1) (w1.setCell ⟨g, 0, none⟩ (.int .i64 (q : Int)))) := ⟨HD1.out.own HN1.out HN2.out 0 _ (HD1.out.ru.setP q)⟩
    clear hop htk hpl
    go_upto_region 15 with fail
    generalize w1.setCell ⟨g, 0, none⟩ (.int .i64 (q : Int)) = w2 at HD2 ⊢
    clear k0 k1 x0 x1 p0 f0
    obtain ⟨ey, y0, y1⟩ := HD2.out.ecell
    have HFN := Bx.mk (HD2.out.fin HN2.out HGE.out 0)
    go_wp2_with fail
    refine leaves_cons (f := 82) (args := #[.pointer (some ⟨gv + 1, 0, none⟩)]) (by simp) (by simp [go_sem]) ?_
    refine (catch_idle ⟨gv + 1, 0, none⟩ _).mono ?_
    rintro e u' w'' ⟨rfl, rfl, rfl⟩
    exact ⟨.int .i64 0, by simp [results, Try.results73, go_sem, y0], dop_go HDO.out HFN.out.1 HFN.out.2⟩
  by_cases e17 : o = 17
  · subst e17
    obtain ⟨q, rfl⟩ : ∃ q : Nat, n = (q : Int) := ⟨n.toNat, by have := hpl rfl; omega⟩
    have hl : 1 ≤ v.s.length := by have : tkO 17 = 1 := rfl; omega
    have HDO := Bx.mk (do1_17 (x := ⟨17, (q : Int)⟩) (k := k) (g := a) (v := v) rfl)
    obtain ⟨b, HB⟩ : ∃ b, Bx (tpB ⟨v.c, v.s, v.p + 1⟩ = b) := ⟨_, ⟨rfl⟩⟩
    rw [show tpB v = b from HB.out] at HDO
    clear hop htk hpl e16
    go_wp2_with fail
    refine (vtake_any g _ k a r _ HD1.out.ru hl).mono ?_
    rintro e w2 ⟨rfl, hr, hk⟩
    have HD2 : Bx (DoW w g 17 (q : Int) ⟨v.c, off v 1, v.p + 1⟩ k a r gv (gv + 1) w2) := ⟨HD1.out.call hk HN1.out HN2.out hr⟩
    clear hr hk k0 k1 x0 x1
    rw [HB.out]
    by_cases hb : b = 0
    · subst hb
      obtain ⟨k0, k1⟩ := HD2.out.cells
      obtain ⟨p0, f0⟩ := HD2.out.ru.pAt
      have HD3 : Bx (DoW w g 17 (q : Int) ⟨v.c, off v 1, q⟩ k a r gv (gv + 1) (w2.setCell ⟨g, 0, none⟩ (.int .i64 (q : Int)))) := ⟨HD2.out.own HN1.out HN2.out 0 _ (HD2.out.ru.setP q)⟩
      rw [if_pos rfl] at HDO
      go_upto_region 15 with fail
      generalize w2.setCell ⟨g, 0, none⟩ (.int .i64 (q : Int)) = w3 at HD3 ⊢
      clear k0 k1 p0 f0
      obtain ⟨ey, y0, y1⟩ := HD3.out.ecell
      have HFN := Bx.mk (HD3.out.fin HN2.out HGE.out 0)
      go_wp2_with fail
      refine leaves_cons (f := 82) (args := #[.pointer (some ⟨gv + 1, 0, none⟩)]) (by simp) (by simp [go_sem]) ?_
      refine (catch_idle ⟨gv + 1, 0, none⟩ _).mono ?_
      rintro e u' w'' ⟨rfl, rfl, rfl⟩
      exact ⟨.int .i64 0, by simp [results, Try.results73, go_sem, y0], dop_go HDO.out HFN.out.1 HFN.out.2⟩
    · rw [if_neg hb] at HDO
      have hq : (b == 0) = false := by simpa using hb
      obtain ⟨ey, y0, y1⟩ := HD2.out.ecell
      have HFN := Bx.mk (HD2.out.fin HN2.out HGE.out 0)
      clear hb
      go_wp2_with fail
      refine leaves_cons (f := 82) (args := #[.pointer (some ⟨gv + 1, 0, none⟩)]) (by simp) (by simp [go_sem]) ?_
      refine (catch_idle ⟨gv + 1, 0, none⟩ _).mono ?_
      rintro e u' w'' ⟨rfl, rfl, rfl⟩
      exact ⟨.int .i64 0, by simp [results, Try.results73, go_sem, y0], dop_go HDO.out HFN.out.1 HFN.out.2⟩
  by_cases e18 : o = 18
  · subst e18
    have hl : 1 ≤ v.s.length := by have : tkO 18 = 1 := rfl; omega
    obtain ⟨b, HB⟩ : ∃ b, Bx (tpB ⟨v.c, v.s, v.p + 1⟩ = b) := ⟨_, ⟨rfl⟩⟩
    have HDO : Bx (do1 ⟨18, n⟩ k a v = (⟨v.c, off v 1, v.p + 1⟩, 1, b)) := ⟨by rw [do1_18 rfl, show tpB v = b from HB.out]⟩
    clear hop htk hpl e16 e17
    go_wp2_with fail
    refine (vtake_any g _ k a r _ HD1.out.ru hl).mono ?_
    rintro e w2 ⟨rfl, hr, hk⟩
    have HD2 : Bx (DoW w g 18 n ⟨v.c, off v 1, v.p + 1⟩ k a r gv (gv + 1) w2) := ⟨HD1.out.call hk HN1.out HN2.out hr⟩
    clear hr hk k0 k1 x0 x1
    rw [HB.out]
    obtain ⟨_, _, c7, f7⟩ := HD2.out.ru.kAt
    have HD3 : Bx (DoW w g 18 n ⟨v.c, off v 1, v.p + 1⟩ k a b gv (gv + 1) (w2.setCell ⟨g, 7, none⟩ (.int .i64 b))) := ⟨HD2.out.own HN1.out HN2.out 7 _ (HD2.out.ru.setR b)⟩
    go_upto_region 12 with fail
    generalize w2.setCell ⟨g, 7, none⟩ (.int .i64 b) = w3 at HD3 ⊢
    clear c7 f7
    obtain ⟨ey, y0, y1⟩ := HD3.out.ecell
    have HFN := Bx.mk (HD3.out.fin HN2.out HGE.out 1)
    go_wp2_with fail
    refine leaves_cons (f := 82) (args := #[.pointer (some ⟨gv + 1, 0, none⟩)]) (by simp) (by simp [go_sem]) ?_
    refine (catch_idle ⟨gv + 1, 0, none⟩ _).mono ?_
    rintro e u' w'' ⟨rfl, rfl, rfl⟩
    exact ⟨.int .i64 1, by simp [results, Try.results73, go_sem, y0], dop_ans HDO.out HFN.out.1 HFN.out.2⟩
  by_cases e19 : o = 19
  · subst e19
    have HDO : Bx ((do1 ⟨19, n⟩ k a v).2.1 = 2) := ⟨by rw [do1_19 rfl]⟩
    have HFN := Bx.mk (HD1.out.fin HN2.out HGE.out 2)
    clear hop htk hpl e16 e17 e18
    go_wp2
    refine leaves_cons (f := 82) (args := #[.pointer (some ⟨gv + 1, 0, none⟩)]) (by simp) (by simp [go_sem]) ?_
    refine (catch_refused ⟨gv + 1, 0, none⟩ _ _ x0 x1).mono ?_
    rintro e u' w'' ⟨rfl, rfl, rfl⟩
    simp only [settle, List.dropWhile]
    exact ⟨.int .i64 2, by simp [results, Try.results73, go_sem, x0], dop_ref HDO.out HFN.out.2⟩
  have HF2 : Bx (Fit ⟨o, n⟩ ⟨v.c, v.s, v.p + 1⟩) := ⟨⟨HF.out.op, HF.out.tk, HF.out.pt, HF.out.cl, HF.out.pl, HF.out.sv⟩⟩
  have HO : Bx (¬ 16 ≤ o) := ⟨by omega⟩
  have q16 : (o == 16) = false := by simpa using e16
  have q17 : (o == 17) = false := by simpa using e17
  have q18 : (o == 18) = false := by simpa using e18
  have q19 : (o == 19) = false := by simpa using e19
  by_cases hz : (do1 ⟨o, n⟩ k a ⟨v.c, v.s, v.p + 1⟩).2.1 = 0
  · have HDO : Bx (do1 ⟨o, n⟩ k a v = (wk1 ⟨o, n⟩ k a ⟨v.c, v.s, v.p + 1⟩, 0, 0)) := ⟨do1_wk HO.out HF.out.op hz⟩
    clear e16 e17 e18 e19 hop htk hpl HF
    go_wp2_with fail
    refine (work_ok g o n _ k a r _ HD1.out.ru HF2.out (Int.not_le.2 HO.out) hz).mono ?_
    rintro e w2 ⟨rfl, hr, hk⟩
    have HD2 := Bx.mk (HD1.out.call hk HN1.out HN2.out hr)
    clear hr hk k0 k1 x0 x1 hz
    obtain ⟨ey, y0, y1⟩ := HD2.out.ecell
    have HFN := Bx.mk (HD2.out.fin HN2.out HGE.out 0)
    go_wp2_with fail
    refine leaves_cons (f := 82) (args := #[.pointer (some ⟨gv + 1, 0, none⟩)]) (by simp) (by simp [go_sem]) ?_
    refine (catch_idle ⟨gv + 1, 0, none⟩ _).mono ?_
    rintro e u' w'' ⟨rfl, rfl, rfl⟩
    exact ⟨.int .i64 0, by simp [results, Try.results73, go_sem, y0], dop_go HDO.out HFN.out.1 HFN.out.2⟩
  · have HDO : Bx ((do1 ⟨o, n⟩ k a v).2.1 = 2) := ⟨do1_no HO.out HF.out.op hz⟩
    clear e16 e17 e18 e19 hop htk hpl HF
    go_wp2_with fail
    refine (work_no g o n _ k a r _ HD1.out.ru HF2.out (Int.not_le.2 HO.out) hz).mono ?_
    rintro e w2 ⟨rfl, hk⟩
    have hle := hk.size
    obtain ⟨y0, y1⟩ : w2.cell? ⟨gv + 1, 0, none⟩ = some (.int .i64 ex) ∧ w2.frozen? ⟨gv + 1, 0, none⟩ = false := by
      obtain ⟨x, e⟩ := HD1.out.re
      have e2 := (hk.block (gv + 1) (Array.getElem?_eq_some_iff.1 e).1 HN2.out).trans e
      have c := cell_of_row _ (gv + 1) 0 _ _ (0, 0) e
      rw [x0] at c
      have : ex = x := by simpa using c
      subst this
      exact ⟨cell_of_row _ (gv + 1) 0 _ _ (0, 0) e2, frozen_of_row _ (gv + 1) 0 _ _ e2⟩
    have HK2 : Bx (Kept (fun j => j = g) w (w2.setCell ⟨gv + 1, 0, none⟩ (.int .i64 2))) := ⟨(HD1.out.kp.trans' hk).setCell (g := gv + 1) (.inr HGE.out) _ _⟩
    refine leaves_cons (f := 82) (args := #[.pointer (some ⟨gv + 1, 0, none⟩)]) (by simp) (by simp [go_sem]) ?_
    refine (catch_refused ⟨gv + 1, 0, none⟩ _ _ y0 y1).mono ?_
    rintro e u' w'' ⟨rfl, rfl, rfl⟩
    simp only [settle, List.dropWhile]
    exact ⟨.int .i64 2, by simp [results, Try.results73, go_sem, y0], dop_ref HDO.out HK2.out⟩
end Go.Proofs.Ytbjeeefkbmdmfaa
