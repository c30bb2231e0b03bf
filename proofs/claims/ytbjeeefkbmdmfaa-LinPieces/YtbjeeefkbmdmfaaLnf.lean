/- A run in memory: where it stands, its cells, its stack. No walk. A number is put on a run's stack, or taken off. What two numbers make. -/
import Derived.Test.YtbjeeefkbmdmfaaKeep
import Derived.Test.YtbjeeefkbmdmfaaLnb
namespace Go.Proofs.Ytbjeeefkbmdmfaa
open Go.RowKit
set_option linter.unusedVariables false

def ivA (R : List Int) : Array Value := (R.map (Value.int .i64)).toArray
set_option maxRecDepth 100000 in
theorem ivA_get (R : List Int) (i : Nat) (h : i < R.length) : (ivA R)[i]? = some (.int .i64 (R.getD i 0)) := by
  unfold ivA; rw [List.getElem?_toArray, List.getElem?_map, List.getElem?_eq_getElem h, List.getD_eq_getElem?_getD, List.getElem?_eq_getElem h]; rfl
set_option maxRecDepth 100000 in
theorem ivA_set (R : List Int) (i : Nat) (x : Int) : (ivA R).setIfInBounds i (.int .i64 x) = ivA (R.set i x) := by
  unfold ivA; rw [List.setIfInBounds_toArray, List.map_set]
set_option maxRecDepth 100000 in
theorem getD_set (R : List Int) (i j : Nat) (x : Int) (h : i < R.length) : (R.set i x).getD j 0 = if j = i then x else R.getD j 0 := by
  by_cases e : j = i
  · subst e; rw [if_pos rfl, List.getD_eq_getElem?_getD, List.getElem?_set_self h]; rfl
  · rw [if_neg e, List.getD_eq_getElem?_getD, List.getElem?_set_ne (Ne.symm e), ← List.getD_eq_getElem?_getD]
/-- numbers in a block of their own -/
structure Nb (T : TypeId) (n : Nat) (w : World) (g : Nat) (R : List Int) : Prop where
  row : w.heap[g]? = some (.cells (ivA R) T (0, 0))
  len : R.length = n
section
variable {T : TypeId} {n : Nat} {w w' : World} {g : Nat} {R : List Int}
set_option maxRecDepth 100000 in
theorem Nb.lt (h : Nb T n w g R) : g < w.heap.size := (Array.getElem?_eq_some_iff.1 h.row).1
set_option maxRecDepth 100000 in
theorem Nb.cell (h : Nb T n w g R) (i : Nat) (hi : i < n) : w.cell? ⟨g, i, none⟩ = some (.int .i64 (R.getD i 0)) := by
  rw [cell_of_row _ g i _ _ (0, 0) h.row]; exact ivA_get R i (by rw [h.len]; exact hi)
set_option maxRecDepth 100000 in
theorem Nb.froz (h : Nb T n w g R) (i : Nat) : w.frozen? ⟨g, i, none⟩ = false := frozen_of_row _ g i _ _ h.row
set_option maxRecDepth 100000 in
theorem Nb.set (h : Nb T n w g R) (i : Nat) (x : Int) : Nb T n (w.setCell ⟨g, i, none⟩ (.int .i64 x)) g (R.set i x) :=
  ⟨by rw [heap_setCell_same w g i _ T _ h.row, ivA_set], by rw [List.length_set]; exact h.len⟩
set_option maxRecDepth 100000 in
theorem Nb.keep (h : Nb T n w g R) (hb : w'.heap[g]? = w.heap[g]?) : Nb T n w' g R := ⟨hb.trans h.row, h.len⟩
set_option maxRecDepth 100000 in
theorem Nb.kept {own : Nat → Prop} (h : Nb T n w g R) (hb : Kept own w w') (ho : ¬ own g) : Nb T n w' g R := h.keep (hb.block g h.lt ho)
set_option maxRecDepth 100000 in
theorem Nb.below (h : Nb T n w g R) (hb : Below w.heap.size w w') : Nb T n w' g R := h.keep (hb.block g h.lt)
set_option maxRecDepth 100000 in
theorem Nb.new (w : World) (R : List Int) (T : TypeId) : Nb T R.length (w.alloc (.cells (ivA R) T)) w.heap.size R := ⟨heap_alloc_new _ _, rfl⟩
end
set_option maxRecDepth 100000 in
theorem kept_own {a w : World} {g : Nat} (h : Kept (fun j => j = g) a w) (i : Nat) (x : Value) : Kept (fun j => j = g) a (w.setCell ⟨g, i, none⟩ x) := h.setCell (g := g) (Or.inl (Eq.refl g)) _ _
/-- the numbers of a run say: where it stands, its cells, its stack; the kind, the argument, the answer -/
structure RV (R : List Int) (v : VS) (k a r : Int) : Prop where
  p : R.getD 0 0 = (v.p : Int)
  c : ∀ i, i < 4 → R.getD (1 + i) 0 = v.c.getD i 0
  cl : v.c.length = 4
  k : R.getD 5 0 = k
  a : R.getD 6 0 = a
  r : R.getD 7 0 = r
  s : ∀ i, i < v.s.length → R.getD (8 + i) 0 = v.s.getD i 0
  sl : v.s.length ≤ 8
  d : R.getD 16 0 = (v.s.length : Int)
section
variable {R : List Int} {v : VS} {k a r : Int}
set_option maxRecDepth 100000 in
theorem getD_append_last (s : List Int) (x : Int) (i : Nat) : (s ++ [x]).getD i 0 = if i = s.length then x else s.getD i 0 := by
  by_cases e : i = s.length
  · subst e; rw [if_pos rfl, List.getD_eq_getElem?_getD, List.getElem?_append_right (Nat.le_refl _)]; simp
  · rw [if_neg e]
    by_cases h : i < s.length
    · rw [List.getD_eq_getElem?_getD, List.getElem?_append_left h, ← List.getD_eq_getElem?_getD]
    · rw [List.getD_eq_getElem?_getD, List.getElem?_eq_none (by rw [List.length_append]; show s.length + 1 ≤ i; omega), List.getD_eq_getElem?_getD, List.getElem?_eq_none (by omega)]
set_option maxRecDepth 100000 in
theorem RV.put (h : RV R v k a r) (hl : R.length = 17) (x : Int) (hs : v.s.length < 8) : RV ((R.set (8 + v.s.length) x).set 16 ((v.s.length : Int) + 1)) ⟨v.c, v.s ++ [x], v.p⟩ k a r := by
  have e1 : ∀ j, ((R.set (8 + v.s.length) x).set 16 ((v.s.length : Int) + 1)).getD j 0 = if j = 16 then (v.s.length : Int) + 1 else if j = 8 + v.s.length then x else R.getD j 0 := fun j => by
    rw [getD_set _ _ _ _ (by rw [List.length_set]; omega), getD_set _ _ _ _ (by omega)]
  refine ⟨?_, fun i hi => ?_, h.cl, ?_, ?_, ?_, fun i hi => ?_, ?_, ?_⟩
  · rw [e1, if_neg (by omega), if_neg (by omega)]; exact h.p
  · rw [e1, if_neg (by omega), if_neg (by omega)]; exact h.c i hi
  · rw [e1, if_neg (by omega), if_neg (by omega)]; exact h.k
  · rw [e1, if_neg (by omega), if_neg (by omega)]; exact h.a
  · rw [e1, if_neg (by omega), if_neg (by omega)]; exact h.r
  · have hi2 : i < v.s.length + 1 := by simpa using hi
    rw [e1, if_neg (by omega)]
    show _ = (v.s ++ [x]).getD i 0
    rw [getD_append_last]
    by_cases e : i = v.s.length
    · rw [if_pos (by omega), if_pos e]
    · rw [if_neg (by omega), if_neg e]; exact h.s i (by omega)
  · show (v.s ++ [x]).length ≤ 8; rw [List.length_append, List.length_singleton]; omega
  · rw [e1, if_pos rfl]; show _ = ((v.s ++ [x]).length : Int); rw [List.length_append, List.length_singleton]; omega
set_option maxRecDepth 100000 in
theorem RV.take (h : RV R v k a r) (hl : R.length = 17) (hs : 1 ≤ v.s.length) : RV (R.set 16 ((v.s.length : Int) - 1)) ⟨v.c, off v 1, v.p⟩ k a r := by
  have e1 : ∀ j, (R.set 16 ((v.s.length : Int) - 1)).getD j 0 = if j = 16 then (v.s.length : Int) - 1 else R.getD j 0 := fun j => getD_set _ _ _ _ (by omega)
  have hsl := h.sl
  refine ⟨?_, fun i hi => ?_, h.cl, ?_, ?_, ?_, fun i hi => ?_, ?_, ?_⟩
  · rw [e1, if_neg (by omega)]; exact h.p
  · rw [e1, if_neg (by omega)]; exact h.c i hi
  · rw [e1, if_neg (by omega)]; exact h.k
  · rw [e1, if_neg (by omega)]; exact h.a
  · rw [e1, if_neg (by omega)]; exact h.r
  · have hi2 : i < v.s.length - 1 := by rw [← off_len v 1]; exact hi
    rw [e1, if_neg (by omega), h.s i (by omega)]
    show _ = (v.s.take (v.s.length - 1)).getD i 0
    rw [List.getD_eq_getElem?_getD, List.getD_eq_getElem?_getD, List.getElem?_take, if_pos hi2]
  · show (off v 1).length ≤ 8; rw [off_len]; omega
  · rw [e1, if_pos rfl]; show _ = ((off v 1).length : Int); rw [off_len]; omega
set_option maxRecDepth 100000 in
theorem RV.top (h : RV R v k a r) (hs : 1 ≤ v.s.length) : R.getD (8 + (v.s.length - 1)) 0 = tpB v := h.s _ (by omega)
set_option maxRecDepth 100000 in
theorem RV.cell (h : RV R v k a r) (hl : R.length = 17) (i : Nat) (hi : i < 4) (x : Int) : RV (R.set (1 + i) x) ⟨v.c.set i x, v.s, v.p⟩ k a r := by
  have e1 : ∀ j, (R.set (1 + i) x).getD j 0 = if j = 1 + i then x else R.getD j 0 := fun j => getD_set _ _ _ _ (by omega)
  have hsl := h.sl
  refine ⟨?_, fun j hj => ?_, by rw [List.length_set]; exact h.cl, ?_, ?_, ?_, fun j hj => ?_, h.sl, ?_⟩
  · rw [e1, if_neg (by omega)]; exact h.p
  · rw [e1, getD_set _ _ _ _ (by rw [h.cl]; exact hi)]
    by_cases e : j = i
    · rw [if_pos (by omega), if_pos e]
    · rw [if_neg (by omega), if_neg e]; exact h.c j hj
  · rw [e1, if_neg (by omega)]; exact h.k
  · rw [e1, if_neg (by omega)]; exact h.a
  · rw [e1, if_neg (by omega)]; exact h.r
  · rw [e1, if_neg (by omega)]; exact h.s j hj
  · rw [e1, if_neg (by omega)]; exact h.d
set_option maxRecDepth 100000 in
theorem RV.place (h : RV R v k a r) (hl : R.length = 17) (q : Nat) : RV (R.set 0 (q : Int)) ⟨v.c, v.s, q⟩ k a r := by
  have e1 : ∀ j, (R.set 0 (q : Int)).getD j 0 = if j = 0 then (q : Int) else R.getD j 0 := fun j => getD_set _ _ _ _ (by omega)
  refine ⟨?_, fun i hi => ?_, h.cl, ?_, ?_, ?_, fun i hi => ?_, h.sl, ?_⟩
  · rw [e1, if_pos rfl]
  · rw [e1, if_neg (by omega)]; exact h.c i hi
  · rw [e1, if_neg (by omega)]; exact h.k
  · rw [e1, if_neg (by omega)]; exact h.a
  · rw [e1, if_neg (by omega)]; exact h.r
  · rw [e1, if_neg (by omega)]; exact h.s i hi
  · rw [e1, if_neg (by omega)]; exact h.d
set_option maxRecDepth 100000 in
theorem RV.answer (h : RV R v k a r) (hl : R.length = 17) (x : Int) : RV (R.set 7 x) v k a x := by
  have e1 : ∀ j, (R.set 7 x).getD j 0 = if j = 7 then x else R.getD j 0 := fun j => getD_set _ _ _ _ (by omega)
  have hsl := h.sl
  refine ⟨?_, fun i hi => ?_, h.cl, ?_, ?_, ?_, fun i hi => ?_, h.sl, ?_⟩
  · rw [e1, if_neg (by omega)]; exact h.p
  · rw [e1, if_neg (by omega)]; exact h.c i hi
  · rw [e1, if_neg (by omega)]; exact h.k
  · rw [e1, if_neg (by omega)]; exact h.a
  · rw [e1, if_pos rfl]
  · rw [e1, if_neg (by omega)]; exact h.s i hi
  · rw [e1, if_neg (by omega)]; exact h.d
end
/-- a run in memory -/
def Ru (w : World) (g : Nat) (v : VS) (k a r : Int) : Prop := ∃ R, Nb 127 17 w g R ∧ RV R v k a r
section
variable {w w' : World} {g : Nat} {v : VS} {k a r : Int}
set_option maxRecDepth 100000 in
theorem Ru.below (h : Ru w g v k a r) (hb : Below w.heap.size w w') : Ru w' g v k a r := by obtain ⟨R, h1, h2⟩ := h; exact ⟨R, h1.below hb, h2⟩
set_option maxRecDepth 100000 in
theorem Ru.kept {own : Nat → Prop} (h : Ru w g v k a r) (hb : Kept own w w') (ho : ¬ own g) : Ru w' g v k a r := by obtain ⟨R, h1, h2⟩ := h; exact ⟨R, h1.kept hb ho, h2⟩
set_option maxRecDepth 100000 in
theorem Ru.lt (h : Ru w g v k a r) : g < w.heap.size := by obtain ⟨R, h1, h2⟩ := h; exact h1.lt
set_option maxRecDepth 100000 in
theorem Ru.cellAt (h : Ru w g v k a r) (i : Nat) (hi : i < 4) : w.cell? ⟨g, 1 + i, none⟩ = some (.int .i64 (v.c.getD i 0)) ∧ w.frozen? ⟨g, 1 + i, none⟩ = false := by
  obtain ⟨R, h1, h2⟩ := h; exact ⟨by rw [h1.cell (1 + i) (by omega), h2.c i hi], h1.froz _⟩
set_option maxRecDepth 100000 in
theorem Ru.pAt (h : Ru w g v k a r) : w.cell? ⟨g, 0, none⟩ = some (.int .i64 v.p) ∧ w.frozen? ⟨g, 0, none⟩ = false := by
  obtain ⟨R, h1, h2⟩ := h; exact ⟨by rw [h1.cell 0 (by omega), h2.p], h1.froz _⟩
set_option maxRecDepth 100000 in
theorem Ru.kAt (h : Ru w g v k a r) : w.cell? ⟨g, 5, none⟩ = some (.int .i64 k) ∧ w.cell? ⟨g, 6, none⟩ = some (.int .i64 a) ∧ w.cell? ⟨g, 7, none⟩ = some (.int .i64 r) ∧ w.frozen? ⟨g, 7, none⟩ = false := by
  obtain ⟨R, h1, h2⟩ := h
  exact ⟨by rw [h1.cell 5 (by omega), h2.k], by rw [h1.cell 6 (by omega), h2.a], by rw [h1.cell 7 (by omega), h2.r], h1.froz _⟩
set_option maxRecDepth 100000 in
theorem Ru.setP (h : Ru w g v k a r) (q : Nat) : Ru (w.setCell ⟨g, 0, none⟩ (.int .i64 q)) g ⟨v.c, v.s, q⟩ k a r := by
  obtain ⟨R, h1, h2⟩ := h; exact ⟨_, h1.set 0 q, h2.place h1.len q⟩
set_option maxRecDepth 100000 in
theorem Ru.setC (h : Ru w g v k a r) (i : Nat) (hi : i < 4) (x : Int) : Ru (w.setCell ⟨g, 1 + i, none⟩ (.int .i64 x)) g ⟨v.c.set i x, v.s, v.p⟩ k a r := by
  obtain ⟨R, h1, h2⟩ := h; exact ⟨_, h1.set (1 + i) x, h2.cell h1.len i hi x⟩
set_option maxRecDepth 100000 in
theorem Ru.setR (h : Ru w g v k a r) (x : Int) : Ru (w.setCell ⟨g, 7, none⟩ (.int .i64 x)) g v k a x := by
  obtain ⟨R, h1, h2⟩ := h; exact ⟨_, h1.set 7 x, h2.answer h1.len x⟩
end
end Go.Proofs.Ytbjeeefkbmdmfaa
namespace Go.Proofs.Ytbjeeefkbmdmfaa
open Go.RowKit
set_option linter.unusedVariables false

set_option maxHeartbeats 1000000 in
theorem vput_any (g : Nat) (v : VS) (k a r n : Int) (w : World) (h : Ru w g v k a r) (hs : v.s.length < 8) :
    Calls Try.prog 93 #[.pointer (some ⟨g, 0, none⟩), .int .i64 n] w fun e w' => e = .returned (.tuple #[]) ∧ Ru w' g ⟨v.c, v.s ++ [n], v.p⟩ k a r ∧ Kept (fun j => j = g) w w' := by
  obtain ⟨R, h1, h2⟩ := h
  obtain ⟨d, HD⟩ : ∃ d, Bx (v.s.length = d) := ⟨_, ⟨rfl⟩⟩
  have c16 := h1.cell 16 (by omega)
  rw [h2.d, HD.out] at c16
  rw [HD.out] at hs
  have c8 := h1.cell (8 + d) (by omega)
  have f8 := h1.froz (8 + d)
  have H1 := h1.set (8 + d) n
  have y16 := H1.cell 16 (by omega)
  rw [getD_set _ _ _ _ (by rw [h1.len]; omega), if_neg (by omega), h2.d, HD.out] at y16
  have g16 := H1.froz 16
  have HF := Bx.mk (H1.set 16 ((d : Int) + 1))
  have HV := h2.put h1.len n (by rw [HD.out]; exact hs)
  rw [HD.out] at HV
  have HV := Bx.mk HV
  have HK : Bx (Kept (fun j => j = g) w ((w.setCell ⟨g, 8 + d, none⟩ (.int .i64 n)).setCell ⟨g, 16, none⟩ (.int .i64 ((d : Int) + 1)))) := ⟨kept_own (kept_own (Kept.refl _ w) _ _) _ _⟩
  have hdI : (d : Int) < 8 := by omega
  generalize R.getD (8 + d) 0 = x8 at c8
  clear h1 h2 H1
  go_enter Try.func93, Try.ntmps93
  go_wp2_with fail
  go_region
  go_wp2_with fail
  go_end0
  exact ⟨rfl, ⟨_, HF.out.keep rfl, HV.out⟩, HK.out.drew⟩
set_option maxHeartbeats 1000000 in
theorem vtake_any (g : Nat) (v : VS) (k a r : Int) (w : World) (h : Ru w g v k a r) (hs : 1 ≤ v.s.length) :
    Calls Try.prog 83 #[.pointer (some ⟨g, 0, none⟩)] w fun e w' => e = .returned (.int .i64 (tpB v)) ∧ Ru w' g ⟨v.c, off v 1, v.p⟩ k a r ∧ Kept (fun j => j = g) w w' := by
  obtain ⟨R, h1, h2⟩ := h
  obtain ⟨d, HD⟩ : ∃ d, Bx (v.s.length = d + 1) := ⟨v.s.length - 1, ⟨by omega⟩⟩
  have hd8 : d < 8 := by have := h2.sl; rw [HD.out] at this; omega
  have c16 := h1.cell 16 (by omega)
  rw [h2.d, HD.out] at c16
  replace c16 : w.cell? ⟨g, 16, none⟩ = some (.int .i64 ((d : Int) + 1)) := c16
  have f16 := h1.froz 16
  have H1 := h1.set 16 (d : Int)
  have y8 := H1.cell (8 + d) (by omega)
  rw [getD_set _ _ _ _ (by rw [h1.len]; omega), if_neg (by omega)] at y8
  have ht := h2.top hs
  rw [HD.out, Nat.add_sub_cancel] at ht
  rw [ht] at y8
  have HV := h2.take h1.len hs
  rw [HD.out, show (((d + 1 : Nat) : Int) - 1) = (d : Int) from by omega] at HV
  have HV := Bx.mk HV
  have HF := Bx.mk H1
  have HK : Bx (Kept (fun j => j = g) w (w.setCell ⟨g, 16, none⟩ (.int .i64 (d : Int)))) := ⟨kept_own (Kept.refl _ w) _ _⟩
  have hdI : (d : Int) < 8 := by omega
  generalize tpB v = x at y8 ⊢
  clear h1 h2 H1 hs ht
  go_enter Try.func83, Try.ntmps83
  go_wp2_with fail
  go_region
  go_wp2_with fail
  go_ret
  exact ⟨rfl, ⟨_, HF.out.keep rfl, HV.out⟩, HK.out.drew⟩
/-- 1 or 0 -/
def tru (b : Bool) : Int := if b = true then 1 else 0
set_option maxRecDepth 100000 in
theorem vtruth_any (b : Bool) (w : World) :
    Calls Try.prog 94 #[.bool b] w fun e w' => e = .returned (.int .i64 (tru b)) ∧ w' = w := by
  cases b with
  | true =>
    go_enter Try.func94, Try.ntmps94
    go_wp2_with fail
    go_ret
    exact ⟨rfl, rfl⟩
  | false =>
    go_enter Try.func94, Try.ntmps94
    go_wp2_with fail
    go_ret
    exact ⟨rfl, rfl⟩
/-- what a refusal panics with -/
def rfV : List PanicEntry := [{ v := .iface 9 (.string ⟨#[114, 101, 102, 117, 115, 101, 100]⟩), recovered := false }]
set_option maxRecDepth 100000 in
theorem vdiv_yes (b : Int) (hb : b ≠ 0) (w : World) :
    Calls Try.prog 96 #[.int .i64 b] w fun e w' => e = .returned (.int .i64 b) ∧ w' = w := by
  have hq : (b == 0) = false := by simpa using hb
  clear hb
  go_enter Try.func96, Try.ntmps96
  go_wp2_with fail
  go_ret
  exact ⟨rfl, rfl⟩
set_option maxRecDepth 100000 in
theorem vdiv_no (w : World) :
    Calls Try.prog 96 #[.int .i64 0] w fun e w' => e = .panicked rfV ∧ w' = w := by
  go_enter Try.func96, Try.ntmps96
  go_wp2
  exact ⟨rfl, rfl, rfl⟩
end Go.Proofs.Ytbjeeefkbmdmfaa
namespace Go.Proofs.Ytbjeeefkbmdmfaa
open Go.RowKit
set_option linter.unusedVariables false

set_option maxRecDepth 100000 in
theorem i64_w64 (x : Int) : wrap64 x = w64 x := by unfold wrap64 w64; rfl
set_option maxRecDepth 100000 in
theorem w64_tdiv {a b : Int} (ha : V64 a) (h0 : b ≠ 0) : w64 (a.tdiv b) = if b = -1 then w64 (-a) else a.tdiv b := by
  by_cases h : b = -1
  · rw [if_pos h, h]; congr 1; rw [Int.tdiv_neg, Int.tdiv_one]
  · rw [if_neg h]; exact w64_id (tdiv_in ha h0 h)
set_option maxRecDepth 100000 in
theorem w64_tmod {a b : Int} (ha : V64 a) : w64 (a.tmod b) = if b = -1 then 0 else a.tmod b := by
  by_cases h : b = -1
  · rw [if_pos h, h, Int.tmod_neg, Int.tmod_one]; rfl
  · rw [if_neg h]; exact w64_id (tmod_in ha)
set_option maxRecDepth 100000 in
theorem jnd_quo {a b : Int} (ha : V64 a) (h0 : b ≠ 0) : jnd 11 a b = some (w64 (a.tdiv b)) := by
  rw [w64_tdiv ha h0]
  unfold jnd
  by_cases h : b = -1
  · subst h; rfl
  · simp [h0, h]
set_option maxRecDepth 100000 in
theorem jnd_rem {a b : Int} (ha : V64 a) (h0 : b ≠ 0) : jnd 12 a b = some (w64 (a.tmod b)) := by
  rw [w64_tmod ha]
  unfold jnd
  by_cases h : b = -1
  · subst h; rfl
  · simp [h0, h]
set_option maxHeartbeats 1000000 in
theorem reckon_yes (o a b y : Int) (w : World) (ho : 8 ≤ o ∧ o ≤ 14) (ha : V64 a) (hj : jnd o a b = some y) :
    Calls Try.prog 95 #[.int .i64 o, .int .i64 a, .int .i64 b] w fun e w' => e = .returned (.int .i64 y) ∧ w' = w := by
  have : o = 8 ∨ o = 9 ∨ o = 10 ∨ o = 11 ∨ o = 12 ∨ o = 13 ∨ o = 14 := by omega
  clear ho
  rcases this with e | e | e | e | e | e | e <;> subst e
  · obtain rfl : w64 (a + b) = y := by cases hj; rfl
    clear hj
    go_enter Try.func95, Try.ntmps95
    go_wp2_with fail
    go_ret
    exact ⟨ret_int (i64_w64 _), rfl⟩
  · obtain rfl : w64 (a - b) = y := by cases hj; rfl
    clear hj
    go_enter Try.func95, Try.ntmps95
    go_wp2_with fail
    go_ret
    exact ⟨ret_int (i64_w64 _), rfl⟩
  · obtain rfl : w64 (a * b) = y := by cases hj; rfl
    clear hj
    go_enter Try.func95, Try.ntmps95
    go_wp2_with fail
    go_ret
    exact ⟨ret_int (i64_w64 _), rfl⟩
  · have h0 : b ≠ 0 := by rintro rfl; cases hj
    have hy := jnd_quo ha h0
    rw [hj] at hy
    obtain rfl : y = w64 (a.tdiv b) := by cases hy; rfl
    clear hj hy
    go_enter Try.func95, Try.ntmps95
    go_wp2_with fail
    refine (vdiv_yes b h0 _).mono ?_
    rintro e wz ⟨rfl, hw⟩
    replace hw := hw.symm
    subst hw
    have hb : ¬ b = 0 := h0
    go_wp2_with fail
    go_ret
    exact ⟨ret_int (i64_w64 _), rfl⟩
  · have h0 : b ≠ 0 := by rintro rfl; cases hj
    have hy := jnd_rem ha h0
    rw [hj] at hy
    obtain rfl : y = w64 (a.tmod b) := by cases hy; rfl
    clear hj hy
    go_enter Try.func95, Try.ntmps95
    go_wp2_with fail
    refine (vdiv_yes b h0 _).mono ?_
    rintro e wz ⟨rfl, hw⟩
    replace hw := hw.symm
    subst hw
    have hb : ¬ b = 0 := h0
    go_wp2_with fail
    go_ret
    exact ⟨ret_int ((w64_id (tmod_in ha)).symm), rfl⟩
  · have HY : Bx (tru (decide (a < b)) = y) := ⟨by cases hj; unfold tru; simp⟩
    clear hj
    go_enter Try.func95, Try.ntmps95
    go_wp2_with fail
    refine (vtruth_any _ _).mono ?_
    rintro e wz ⟨rfl, hw⟩
    replace hw := hw.symm
    subst hw
    rw [HY.out]
    go_wp2_with fail
    go_ret
    exact ⟨rfl, rfl⟩
  · have HY : Bx (tru (a == b) = y) := ⟨by cases hj; unfold tru; simp⟩
    clear hj
    go_enter Try.func95, Try.ntmps95
    go_wp2_with fail
    refine (vtruth_any _ _).mono ?_
    rintro e wz ⟨rfl, hw⟩
    replace hw := hw.symm
    subst hw
    rw [HY.out]
    go_wp2_with fail
    go_ret
    exact ⟨rfl, rfl⟩
set_option maxHeartbeats 1000000 in
theorem reckon_no (o a b : Int) (w : World) (ho : 8 ≤ o ∧ o ≤ 14) (hj : jnd o a b = none) :
    Calls Try.prog 95 #[.int .i64 o, .int .i64 a, .int .i64 b] w fun e w' => e = .panicked rfV ∧ w' = w := by
  have : o = 8 ∨ o = 9 ∨ o = 10 ∨ o = 11 ∨ o = 12 ∨ o = 13 ∨ o = 14 := by omega
  have hb : b = 0 := by
    by_cases h : b = 0
    · exact h
    · exfalso
      unfold jnd at hj
      split at hj <;> first | cases hj | skip
      split at hj <;> first | cases hj | skip
      split at hj <;> first | cases hj | skip
      split at hj <;> first | cases hj | skip
      split at hj <;> first | cases hj | skip
      split at hj
      · split at hj <;> cases hj
      · split at hj <;> cases hj
  subst hb
  clear ho
  rcases this with e | e | e | e | e | e | e <;> subst e
  · cases hj
  · cases hj
  · cases hj
  · clear hj
    go_enter Try.func95, Try.ntmps95
    go_wp2_with fail
    refine (vdiv_no _).mono ?_
    rintro e wz ⟨rfl, hw⟩
    replace hw := hw.symm
    subst hw
    exact ⟨rfl, rfl, rfl⟩
  · clear hj
    go_enter Try.func95, Try.ntmps95
    go_wp2_with fail
    refine (vdiv_no _).mono ?_
    rintro e wz ⟨rfl, hw⟩
    replace hw := hw.symm
    subst hw
    exact ⟨rfl, rfl, rfl⟩
  · cases hj
  · cases hj
end Go.Proofs.Ytbjeeefkbmdmfaa
