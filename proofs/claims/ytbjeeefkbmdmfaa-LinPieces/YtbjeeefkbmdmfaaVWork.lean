/- An instruction behind which the next one follows. -/
import Derived.Test.YtbjeeefkbmdmfaaLnf
import Derived.Deep.CutRange
namespace Go.Proofs.Ytbjeeefkbmdmfaa
open Go.RowKit
set_option linter.unusedVariables false

set_option maxRecDepth 100000 in
theorem off_top {v : VS} (h : 1 ≤ v.s.length) : off v 1 ++ [tpB v] = v.s := by
  unfold off tpB
  have h2 : v.s.length - 1 < v.s.length := by omega
  rw [List.getD_eq_getElem?_getD, List.getElem?_eq_getElem h2, Option.getD_some]
  have := List.take_append_getElem h2
  rw [this, List.take_of_length_le (by omega)]
set_option maxRecDepth 100000 in
theorem off_off (v : VS) (c : List Int) (p : Nat) : off ⟨c, off v 1, p⟩ 1 = off v 2 := by
  unfold off
  simp only [List.take_take, List.length_take]
  congr 1; omega
set_option maxRecDepth 100000 in
theorem top_off {v : VS} (c : List Int) (p : Nat) (h : 2 ≤ v.s.length) : tpB ⟨c, off v 1, p⟩ = tpA v := by
  unfold tpB tpA off
  simp only [List.length_take]
  rw [List.getD_eq_getElem?_getD, List.getElem?_take, if_pos (by omega), List.getD_eq_getElem?_getD]
  congr 2; omega
/-- the depth fits -/
structure Fit (x : Ic) (v : VS) : Prop where
  op : isO x.o = true
  tk : tkO x.o ≤ (v.s.length : Int)
  pt : (v.s.length : Int) - tkO x.o + ptO x.o ≤ 8
  cl : nkO x.o = 2 → 0 ≤ x.n ∧ x.n ≤ 3
  pl : nkO x.o = 3 → 0 ≤ x.n
  sv : ∀ y ∈ v.s, V64 y
/-- what there is behind it, at the same place -/
def wk1 (x : Ic) (k a : Int) (v : VS) : VS := ⟨(do1 x k a v).1.c, (do1 x k a v).1.s, v.p⟩
set_option maxHeartbeats 4000000 in
set_option maxRecDepth 100000 in
theorem work_ok (g : Nat) (o n : Int) (v : VS) (k a r : Int) (w : World) (h : Ru w g v k a r) (hF : Fit ⟨o, n⟩ v) (ho : ¬ (16 ≤ o)) (h0 : (do1 ⟨o, n⟩ k a v).2.1 = 0) :
    Calls Try.prog 84 #[.pointer (some ⟨g, 0, none⟩), .agg #[.int .i64 o, .int .i64 n]] w fun e w' => e = .returned (.tuple #[]) ∧ Ru w' g (wk1 ⟨o, n⟩ k a v) k a r ∧ Kept (fun j => j = g) w w' := by
  have hop := hF.op
  have htk := hF.tk
  have hpt := hF.pt
  have hcl := hF.cl
  have HSV := Bx.mk hF.sv
  have hs8 : v.s.length ≤ 8 := by obtain ⟨R, _, h2⟩ := h; exact h2.sl
  clear hF
  simp only at hop htk hpt hcl
  obtain ⟨gv, HGV⟩ : ∃ gv, Bx (gv = w.heap.size) := ⟨_, ⟨rfl⟩⟩
  have hgl := h.lt
  have HNE : Bx (¬ gv = g) := ⟨by rw [HGV.out]; omega⟩
  have hba : Below w.heap.size w (w.alloc (.cells #[.int .i64 o, .int .i64 n] 77)) := (Below.refl _ _).alloc (Nat.le_refl _) _
  have hra := heap_alloc_new w (.cells #[.int .i64 o, .int .i64 n] 77)
  rw [← HGV.out] at hra
  have HRA := Bx.mk hra
  have HR0 := Bx.mk (h.below hba)
  have HK0 : Bx (Kept (fun j => j = g) w (w.alloc (.cells #[.int .i64 o, .int .i64 n] 77))) := ⟨Kept.of_below hba⟩
  clear hba hra h hgl
  unfold wk1
  by_cases e0 : o = 0
  · subst e0
    have hl : v.s.length < 8 := by have : tkO 0 = 0 := rfl; have : ptO 0 = 1 := rfl; omega
    rw [do1_0 rfl]
    clear hop htk hpt hcl ho h0
    go_enter Try.func84, Try.ntmps84
    go_upto_region 1 with fail
    rw [← HGV.out]
    generalize w.alloc (.cells #[.int .i64 0, .int .i64 n] 77) = w0 at HRA HR0 HK0 ⊢
    have k0 := cell_of_row _ gv 0 _ _ (0, 0) HRA.out
    have k1 := cell_of_row _ gv 1 _ _ (0, 0) HRA.out
    go_wp2_with fail
    refine (vput_any g _ k a r n _ HR0.out (hl)).mono ?_
    rintro e w1 ⟨rfl, hr, hk⟩
    have HR1 := Bx.mk hr
    have HK1 := Bx.mk (HK0.out.trans' hk)
    clear hr hk
    go_wp2_with fail
    go_end0
    exact ⟨rfl, HR1.out, HK1.out⟩
  by_cases e1 : o = 1
  · subst e1
    have hl : 1 ≤ v.s.length := by have : tkO 1 = 1 := rfl; omega
    rw [do1_1 rfl]
    clear hop htk hpt hcl ho h0 e0
    go_enter Try.func84, Try.ntmps84
    go_upto_region 1 with fail
    rw [← HGV.out]
    generalize w.alloc (.cells #[.int .i64 1, .int .i64 n] 77) = w0 at HRA HR0 HK0 ⊢
    have k0 := cell_of_row _ gv 0 _ _ (0, 0) HRA.out
    have k1 := cell_of_row _ gv 1 _ _ (0, 0) HRA.out
    go_wp2_with fail
    refine (vtake_any g _ k a r _ HR0.out (hl)).mono ?_
    rintro e w1 ⟨rfl, hr, hk⟩
    have HR1 := Bx.mk hr
    have HK1 := Bx.mk (HK0.out.trans' hk)
    clear hr hk
    go_wp2_with fail
    go_end0
    exact ⟨rfl, HR1.out, HK1.out⟩
  by_cases e2 : o = 2
  · subst e2
    have hl : 1 ≤ v.s.length ∧ v.s.length < 8 := by have : tkO 2 = 1 := rfl; have : ptO 2 = 2 := rfl; omega
    rw [do1_2 rfl]
    have HOT := Bx.mk (off_top hl.1)
    have HOL := Bx.mk (off_len v 1)
    clear hop htk hpt hcl ho h0 e0 e1
    go_enter Try.func84, Try.ntmps84
    go_upto_region 1 with fail
    rw [← HGV.out]
    generalize w.alloc (.cells #[.int .i64 2, .int .i64 n] 77) = w0 at HRA HR0 HK0 ⊢
    have k0 := cell_of_row _ gv 0 _ _ (0, 0) HRA.out
    have k1 := cell_of_row _ gv 1 _ _ (0, 0) HRA.out
    go_wp2_with fail
    refine (vtake_any g _ k a r _ HR0.out (hl.1)).mono ?_
    rintro e w1 ⟨rfl, hr, hk⟩
    have HR1 := Bx.mk hr
    have HK1 := Bx.mk (HK0.out.trans' hk)
    clear hr hk
    obtain ⟨b, HB⟩ : ∃ b, Bx (tpB v = b) := ⟨_, ⟨rfl⟩⟩
    rw [HB.out]
    rw [HB.out] at HOT
    go_wp2_with fail
    refine (vput_any g _ k a r b _ HR1.out (by show (off v 1).length < 8; rw [HOL.out]; omega)).mono ?_
    rintro e w2 ⟨rfl, hr, hk⟩
    have HR2 := Bx.mk hr
    have HK2 := Bx.mk (HK1.out.trans' hk)
    clear hr hk
    go_wp2_with fail
    refine (vput_any g _ k a r b _ HR2.out (by show (off v 1 ++ [b]).length < 8; rw [HOT.out]; omega)).mono ?_
    rintro e w3 ⟨rfl, hr, hk⟩
    have HR3 := Bx.mk hr
    have HK3 := Bx.mk (HK2.out.trans' hk)
    clear hr hk
    go_wp2_with fail
    go_end0
    exact ⟨rfl, by have := HR3.out; simp only [HOT.out] at this; rw [HB.out]; exact this, HK3.out⟩
  by_cases e3 : o = 3
  · subst e3
    have hl : 2 ≤ v.s.length ∧ v.s.length ≤ 8 := by have : tkO 3 = 2 := rfl; have : ptO 3 = 2 := rfl; omega
    rw [do1_3 rfl]
    have HOL := Bx.mk (off_len v 1)
    have HO2 := Bx.mk (off_len v 2)
    have HTA := Bx.mk (top_off v.c v.p hl.1)
    have HOO := Bx.mk (off_off v v.c v.p)
    clear hop htk hpt hcl ho h0 e0 e1 e2
    go_enter Try.func84, Try.ntmps84
    go_upto_region 1 with fail
    rw [← HGV.out]
    generalize w.alloc (.cells #[.int .i64 3, .int .i64 n] 77) = w0 at HRA HR0 HK0 ⊢
    have k0 := cell_of_row _ gv 0 _ _ (0, 0) HRA.out
    have k1 := cell_of_row _ gv 1 _ _ (0, 0) HRA.out
    go_wp2_with fail
    refine (vtake_any g _ k a r _ HR0.out (by omega)).mono ?_
    rintro e w1 ⟨rfl, hr, hk⟩
    have HR1 := Bx.mk hr
    have HK1 := Bx.mk (HK0.out.trans' hk)
    clear hr hk
    obtain ⟨b, HB⟩ : ∃ b, Bx (tpB v = b) := ⟨_, ⟨rfl⟩⟩
    obtain ⟨c, HC⟩ : ∃ c, Bx (tpA v = c) := ⟨_, ⟨rfl⟩⟩
    rw [HB.out]
    go_wp2_with fail
    refine (vtake_any g _ k a r _ HR1.out (by show 1 ≤ (off v 1).length; rw [HOL.out]; omega)).mono ?_
    rintro e w2 ⟨rfl, hr, hk⟩
    have HR2 := Bx.mk hr
    have HK2 := Bx.mk (HK1.out.trans' hk)
    clear hr hk
    rw [HTA.out, HC.out]
    have HR2' : Bx (Ru w2 g ⟨v.c, off v 2, v.p⟩ k a r) := ⟨by have := HR2.out; simp only [HOO.out] at this; exact this⟩
    clear HR2
    go_wp2_with fail
    refine (vput_any g _ k a r b _ HR2'.out (by show (off v 2).length < 8; rw [HO2.out]; omega)).mono ?_
    rintro e w3 ⟨rfl, hr, hk⟩
    have HR3 := Bx.mk hr
    have HK3 := Bx.mk (HK2.out.trans' hk)
    clear hr hk
    go_wp2_with fail
    refine (vput_any g _ k a r c _ HR3.out (by show (off v 2 ++ [b]).length < 8; rw [List.length_append, HO2.out]; show v.s.length - 2 + 1 < 8; omega)).mono ?_
    rintro e w4 ⟨rfl, hr, hk⟩
    have HR4 := Bx.mk hr
    have HK4 := Bx.mk (HK3.out.trans' hk)
    clear hr hk
    go_wp2_with fail
    go_end0
    exact ⟨rfl, by have := HR4.out; rw [HB.out, HC.out]; simpa using this, HK4.out⟩
  by_cases e4 : o = 4
  · subst e4
    have hl : v.s.length < 8 := by have : tkO 4 = 0 := rfl; have : ptO 4 = 1 := rfl; omega
    rw [do1_4 rfl]
    have hc := hcl rfl
    obtain ⟨i, rfl⟩ : ∃ i : Nat, n = (i : Int) := ⟨n.toNat, by omega⟩
    have hi : i < 4 := by omega
    have hiI : (i : Int) < 4 := by omega
    show Calls _ _ _ _ (fun e w' => _ ∧ Ru w' g ⟨v.c, v.s ++ [v.c.getD i 0], v.p⟩ k a r ∧ _)
    clear hop htk hpt hcl ho h0 e0 e1 e2 e3 hc
    go_enter Try.func84, Try.ntmps84
    go_upto_region 1 with fail
    rw [← HGV.out]
    generalize w.alloc (.cells #[.int .i64 4, .int .i64 i] 77) = w0 at HRA HR0 HK0 ⊢
    have k0 := cell_of_row _ gv 0 _ _ (0, 0) HRA.out
    have k1 := cell_of_row _ gv 1 _ _ (0, 0) HRA.out
    obtain ⟨ci, _⟩ := HR0.out.cellAt i hi
    have HRD : Bx (Ru w0.drew g v k a r) := ⟨HR0.out.below (Below.refl _ _).drew⟩
    obtain ⟨y, HY⟩ : ∃ y, Bx (v.c.getD i 0 = y) := ⟨_, ⟨rfl⟩⟩
    rw [HY.out] at ci
    go_wp2_with fail
    go_region_with (go_at_call 93; refine (vput_any g v k a r y _ ?_ hl).mono ?_; exact HRD.out; rintro e w1 ⟨rfl, hr1, hk1⟩)
    have HR1 := Bx.mk hr1
    have HK1 := Bx.mk (HK0.out.drew.trans' hk1)
    go_wp2_with fail
    go_end0
    exact ⟨rfl, by rw [HY.out]; exact HR1.out, HK1.out⟩
  by_cases e5 : o = 5
  · subst e5
    have hl : 1 ≤ v.s.length := by have : tkO 5 = 1 := rfl; omega
    rw [do1_5 rfl]
    have hc := hcl rfl
    obtain ⟨i, rfl⟩ : ∃ i : Nat, n = (i : Int) := ⟨n.toNat, by omega⟩
    have hi : i < 4 := by omega
    have hiI : (i : Int) < 4 := by omega
    show Calls _ _ _ _ (fun e w' => _ ∧ Ru w' g ⟨v.c.set i (tpB v), off v 1, v.p⟩ k a r ∧ _)
    clear hop htk hpt hcl ho h0 e0 e1 e2 e3 e4 hc
    go_enter Try.func84, Try.ntmps84
    go_upto_region 1 with fail
    rw [← HGV.out]
    generalize w.alloc (.cells #[.int .i64 5, .int .i64 i] 77) = w0 at HRA HR0 HK0 ⊢
    have k0 := cell_of_row _ gv 0 _ _ (0, 0) HRA.out
    have k1 := cell_of_row _ gv 1 _ _ (0, 0) HRA.out
    have HRD : Bx (Ru w0.drew g v k a r) := ⟨HR0.out.below (Below.refl _ _).drew⟩
    have HGL : Bx (gv < w0.drew.heap.size) := ⟨(Array.getElem?_eq_some_iff.1 HRA.out).1⟩
    obtain ⟨y, HY⟩ : ∃ y, Bx (tpB v = y) := ⟨_, ⟨rfl⟩⟩
    go_wp2_with fail
    go_region_with (go_at_call 83; refine (vtake_any g v k a r _ ?_ hl).mono ?_; exact HRD.out; rintro e w1 ⟨rfl, hr1, hk1⟩; rw [HY.out]; have hrow1 := (hk1.block gv HGL.out HNE.out).trans HRA.out; have k2 := cell_of_row _ gv 1 _ _ (0, 0) hrow1; obtain ⟨c1, f1⟩ := hr1.cellAt i hi)
    all_goals
      have HR1 := Bx.mk (hr1.setC i hi y)
      have HK1 := Bx.mk (kept_own (HK0.out.drew.trans' hk1) (1 + i) (.int .i64 y))
      go_wp2_with fail
      go_end0
      exact ⟨rfl, by rw [HY.out]; exact HR1.out, HK1.out⟩
  by_cases e6 : o = 6
  · subst e6
    have hl : v.s.length < 8 := by have : tkO 6 = 0 := rfl; have : ptO 6 = 1 := rfl; omega
    rw [do1_6 rfl]
    clear hop htk hpt hcl ho h0 e0 e1 e2 e3 e4 e5
    go_enter Try.func84, Try.ntmps84
    go_upto_region 1 with fail
    rw [← HGV.out]
    generalize w.alloc (.cells #[.int .i64 6, .int .i64 n] 77) = w0 at HRA HR0 HK0 ⊢
    have k0 := cell_of_row _ gv 0 _ _ (0, 0) HRA.out
    have k1 := cell_of_row _ gv 1 _ _ (0, 0) HRA.out
    obtain ⟨c5, c6, _⟩ := HR0.out.kAt
    go_wp2_with fail
    refine (vput_any g _ k a r a _ HR0.out (hl)).mono ?_
    rintro e w1 ⟨rfl, hr, hk⟩
    have HR1 := Bx.mk hr
    have HK1 := Bx.mk (HK0.out.trans' hk)
    clear hr hk
    go_wp2_with fail
    go_end0
    exact ⟨rfl, HR1.out, HK1.out⟩
  by_cases e7 : o = 7
  · subst e7
    have hl : v.s.length < 8 := by have : tkO 7 = 0 := rfl; have : ptO 7 = 1 := rfl; omega
    rw [do1_7 rfl]
    clear hop htk hpt hcl ho h0 e0 e1 e2 e3 e4 e5 e6
    go_enter Try.func84, Try.ntmps84
    go_upto_region 1 with fail
    rw [← HGV.out]
    generalize w.alloc (.cells #[.int .i64 7, .int .i64 n] 77) = w0 at HRA HR0 HK0 ⊢
    have k0 := cell_of_row _ gv 0 _ _ (0, 0) HRA.out
    have k1 := cell_of_row _ gv 1 _ _ (0, 0) HRA.out
    obtain ⟨c5, c6, _⟩ := HR0.out.kAt
    go_wp2_with fail
    refine (vput_any g _ k a r k _ HR0.out (hl)).mono ?_
    rintro e w1 ⟨rfl, hr, hk⟩
    have HR1 := Bx.mk hr
    have HK1 := Bx.mk (HK0.out.trans' hk)
    clear hr hk
    go_wp2_with fail
    go_end0
    exact ⟨rfl, HR1.out, HK1.out⟩
  by_cases e15 : o = 15
  · subst e15
    have hl : 1 ≤ v.s.length ∧ v.s.length ≤ 8 := by have : tkO 15 = 1 := rfl; have : ptO 15 = 1 := rfl; omega
    rw [do1_15 rfl]
    have HOL := Bx.mk (off_len v 1)
    obtain ⟨b, HB⟩ : ∃ b, Bx (tpB v = b) := ⟨_, ⟨rfl⟩⟩
    obtain ⟨t, HT⟩ : ∃ t, Bx ((if tpB v = 0 then 1 else 0 : Int) = t) := ⟨_, ⟨rfl⟩⟩
    rw [HT.out]
    have HTB : Bx (tru (b == 0) = t) := ⟨by rw [← HT.out, ← HB.out]; unfold tru; simp⟩
    clear hop htk hpt hcl ho h0 e0 e1 e2 e3 e4 e5 e6 e7
    go_enter Try.func84, Try.ntmps84
    go_upto_region 1 with fail
    rw [← HGV.out]
    generalize w.alloc (.cells #[.int .i64 15, .int .i64 n] 77) = w0 at HRA HR0 HK0 ⊢
    have k0 := cell_of_row _ gv 0 _ _ (0, 0) HRA.out
    have k1 := cell_of_row _ gv 1 _ _ (0, 0) HRA.out
    go_wp2_with fail
    refine (vtake_any g _ k a r _ HR0.out (hl.1)).mono ?_
    rintro e w1 ⟨rfl, hr, hk⟩
    have HR1 := Bx.mk hr
    have HK1 := Bx.mk (HK0.out.trans' hk)
    clear hr hk
    rw [HB.out]
    go_wp2_with fail
    refine (vtruth_any _ _).mono ?_
    rintro e wz ⟨rfl, hw⟩
    replace hw := hw.symm
    subst hw
    rw [HTB.out]
    go_wp2_with fail
    refine (vput_any g _ k a r t _ HR1.out (by show (off v 1).length < 8; rw [HOL.out]; omega)).mono ?_
    rintro e w2 ⟨rfl, hr, hk⟩
    have HR2 := Bx.mk hr
    have HK2 := Bx.mk (HK1.out.trans' hk)
    clear hr hk
    go_wp2_with fail
    go_end0
    exact ⟨rfl, HR2.out, HK2.out⟩
  have hob : 8 ≤ o ∧ o ≤ 14 := by have := (isO_iff o).1 hop; omega
  have htk2 : tkO o = 2 ∧ ptO o = 1 := by
    have : o = 8 ∨ o = 9 ∨ o = 10 ∨ o = 11 ∨ o = 12 ∨ o = 13 ∨ o = 14 := by omega
    rcases this with e | e | e | e | e | e | e <;> subst e <;> exact ⟨rfl, rfl⟩
  have hl : 2 ≤ v.s.length ∧ v.s.length ≤ 8 := by omega
  rw [do1_jnd hob] at h0 ⊢
  have HAV := Bx.mk (tpA_in HSV.out)
  have HO2 := Bx.mk (off_len v 2)
  have HOL := Bx.mk (off_len v 1)
  have HTA := Bx.mk (top_off v.c v.p hl.1)
  have HOO := Bx.mk (off_off v v.c v.p)
  cases hj : jnd o (tpA v) (tpB v) with
  | none => rw [hj] at h0; cases h0
  | some y =>
    have HJ := Bx.mk hj
    simp only
    have q0 : (o == 0) = false := by simpa using e0
    have q1 : (o == 1) = false := by simpa using e1
    have q2 : (o == 2) = false := by simpa using e2
    have q3 : (o == 3) = false := by simpa using e3
    have q4 : (o == 4) = false := by simpa using e4
    have q5 : (o == 5) = false := by simpa using e5
    have q6 : (o == 6) = false := by simpa using e6
    have q7 : (o == 7) = false := by simpa using e7
    have q15 : (o == 15) = false := by simpa using e15
    have HOB := Bx.mk hob
    clear hj h0 hop htk hpt hcl ho e0 e1 e2 e3 e4 e5 e6 e7 e15 htk2 hob
    go_enter Try.func84, Try.ntmps84
    go_upto_region 1 with fail
    rw [← HGV.out]
    generalize w.alloc (.cells #[.int .i64 o, .int .i64 n] 77) = w0 at HRA HR0 HK0 ⊢
    have k0 := cell_of_row _ gv 0 _ _ (0, 0) HRA.out
    have k1 := cell_of_row _ gv 1 _ _ (0, 0) HRA.out
    go_wp2_with fail
    refine (vtake_any g _ k a r _ HR0.out (by omega)).mono ?_
    rintro e w1 ⟨rfl, hr, hk⟩
    have HR1 := Bx.mk hr
    have HK1 := Bx.mk (HK0.out.trans' hk)
    have HRA1 := Bx.mk ((hk.block gv (Array.getElem?_eq_some_iff.1 HRA.out).1 HNE.out).trans HRA.out)
    clear hr hk
    obtain ⟨b, HB⟩ : ∃ b, Bx (tpB v = b) := ⟨_, ⟨rfl⟩⟩
    obtain ⟨c, HC⟩ : ∃ c, Bx (tpA v = c) := ⟨_, ⟨rfl⟩⟩
    rw [HB.out]
    rw [HB.out, HC.out] at HJ
    rw [HC.out] at HAV
    go_wp2_with fail
    refine (vtake_any g _ k a r _ HR1.out (by show 1 ≤ (off v 1).length; rw [HOL.out]; omega)).mono ?_
    rintro e w2 ⟨rfl, hr, hk⟩
    have HR2 := Bx.mk hr
    have HK2 := Bx.mk (HK1.out.trans' hk)
    have HRA2 := Bx.mk ((hk.block gv (Array.getElem?_eq_some_iff.1 HRA1.out).1 HNE.out).trans HRA1.out)
    clear hr hk
    rw [HTA.out, HC.out]
    have HR2' : Bx (Ru w2 g ⟨v.c, off v 2, v.p⟩ k a r) := ⟨by have := HR2.out; simp only [HOO.out] at this; exact this⟩
    clear HR2
    have y0 := cell_of_row _ gv 0 _ _ (0, 0) HRA2.out
    go_wp2_with fail
    refine (reckon_yes o c b y _ HOB.out HAV.out HJ.out).mono ?_
    rintro e wz ⟨rfl, hw⟩
    replace hw := hw.symm
    subst hw
    go_wp2_with fail
    refine (vput_any g _ k a r y _ HR2'.out (by show (off v 2).length < 8; rw [HO2.out]; omega)).mono ?_
    rintro e w3 ⟨rfl, hr, hk⟩
    have HR3 := Bx.mk hr
    have HK3 := Bx.mk (HK2.out.trans' hk)
    clear hr hk
    go_wp2_with fail
    go_end0
    exact ⟨rfl, HR3.out, HK3.out⟩
set_option maxHeartbeats 1000000 in
theorem work_no (g : Nat) (o n : Int) (v : VS) (k a r : Int) (w : World) (h : Ru w g v k a r) (hF : Fit ⟨o, n⟩ v) (ho : ¬ (16 ≤ o)) (h0 : (do1 ⟨o, n⟩ k a v).2.1 ≠ 0) :
    Calls Try.prog 84 #[.pointer (some ⟨g, 0, none⟩), .agg #[.int .i64 o, .int .i64 n]] w fun e w' => e = .panicked rfV ∧ Kept (fun j => j = g) w w' := by
  have hop := (isO_iff o).1 hF.op
  have hs8 : v.s.length ≤ 8 := by obtain ⟨R, _, h2⟩ := h; exact h2.sl
  have hob : 8 ≤ o ∧ o ≤ 14 := by
    have : o = 0 ∨ o = 1 ∨ o = 2 ∨ o = 3 ∨ o = 4 ∨ o = 5 ∨ o = 6 ∨ o = 7 ∨ o = 15 ∨ (8 ≤ o ∧ o ≤ 14) := by omega
    rcases this with e | e | e | e | e | e | e | e | e | e
    · exact absurd (by rw [do1_0 e]) h0
    · exact absurd (by rw [do1_1 e]) h0
    · exact absurd (by rw [do1_2 e]) h0
    · exact absurd (by rw [do1_3 e]) h0
    · exact absurd (by rw [do1_4 e]) h0
    · exact absurd (by rw [do1_5 e]) h0
    · exact absurd (by rw [do1_6 e]) h0
    · exact absurd (by rw [do1_7 e]) h0
    · exact absurd (by rw [do1_15 e]) h0
    · exact e
  have htk2 : tkO o = 2 := by
    have : o = 8 ∨ o = 9 ∨ o = 10 ∨ o = 11 ∨ o = 12 ∨ o = 13 ∨ o = 14 := by omega
    rcases this with e | e | e | e | e | e | e <;> subst e <;> rfl
  have hl : 2 ≤ v.s.length := by have := hF.tk; simp only at this; omega
  rw [do1_jnd hob] at h0
  clear hF
  obtain ⟨gv, HGV⟩ : ∃ gv, Bx (gv = w.heap.size) := ⟨_, ⟨rfl⟩⟩
  have hgl := h.lt
  have HNE : Bx (¬ gv = g) := ⟨by rw [HGV.out]; omega⟩
  have hba : Below w.heap.size w (w.alloc (.cells #[.int .i64 o, .int .i64 n] 77)) := (Below.refl _ _).alloc (Nat.le_refl _) _
  have hra := heap_alloc_new w (.cells #[.int .i64 o, .int .i64 n] 77)
  rw [← HGV.out] at hra
  have HRA := Bx.mk hra
  have HR0 := Bx.mk (h.below hba)
  have HK0 : Bx (Kept (fun j => j = g) w (w.alloc (.cells #[.int .i64 o, .int .i64 n] 77))) := ⟨Kept.of_below hba⟩
  clear hba hra h hgl
  have HOL := Bx.mk (off_len v 1)
  have HTA := Bx.mk (top_off v.c v.p hl)
  cases hj : jnd o (tpA v) (tpB v) with
  | some y => exact absurd (by rw [hj]) h0
  | none =>
    have HJ := Bx.mk hj
    have q0 : (o == 0) = false := by simp; omega
    have q1 : (o == 1) = false := by simp; omega
    have q2 : (o == 2) = false := by simp; omega
    have q3 : (o == 3) = false := by simp; omega
    have q4 : (o == 4) = false := by simp; omega
    have q5 : (o == 5) = false := by simp; omega
    have q6 : (o == 6) = false := by simp; omega
    have q7 : (o == 7) = false := by simp; omega
    have q15 : (o == 15) = false := by simp; omega
    have HOB := Bx.mk hob
    clear hj h0 hop ho hob htk2
    go_enter Try.func84, Try.ntmps84
    go_upto_region 1 with fail
    rw [← HGV.out]
    generalize w.alloc (.cells #[.int .i64 o, .int .i64 n] 77) = w0 at HRA HR0 HK0 ⊢
    have k0 := cell_of_row _ gv 0 _ _ (0, 0) HRA.out
    have k1 := cell_of_row _ gv 1 _ _ (0, 0) HRA.out
    go_wp2_with fail
    refine (vtake_any g _ k a r _ HR0.out (by omega)).mono ?_
    rintro e w1 ⟨rfl, hr, hk⟩
    have HR1 := Bx.mk hr
    have HK1 := Bx.mk (HK0.out.trans' hk)
    have HRA1 := Bx.mk ((hk.block gv (Array.getElem?_eq_some_iff.1 HRA.out).1 HNE.out).trans HRA.out)
    clear hr hk
    obtain ⟨b, HB⟩ : ∃ b, Bx (tpB v = b) := ⟨_, ⟨rfl⟩⟩
    obtain ⟨c, HC⟩ : ∃ c, Bx (tpA v = c) := ⟨_, ⟨rfl⟩⟩
    rw [HB.out]
    rw [HB.out, HC.out] at HJ
    go_wp2_with fail
    refine (vtake_any g _ k a r _ HR1.out (by show 1 ≤ (off v 1).length; rw [HOL.out]; omega)).mono ?_
    rintro e w2 ⟨rfl, hr, hk⟩
    have HR2 := Bx.mk hr
    have HK2 := Bx.mk (HK1.out.trans' hk)
    have HRA2 := Bx.mk ((hk.block gv (Array.getElem?_eq_some_iff.1 HRA1.out).1 HNE.out).trans HRA1.out)
    clear hr hk
    rw [HTA.out, HC.out]
    clear HR2
    have y0 := cell_of_row _ gv 0 _ _ (0, 0) HRA2.out
    go_wp2_with fail
    refine (reckon_no o c b _ HOB.out HJ.out).mono ?_
    rintro e wz ⟨rfl, hw⟩
    replace hw := hw.symm
    subst hw
    exact ⟨rfl, rfl, HK2.out⟩
end Go.Proofs.Ytbjeeefkbmdmfaa
