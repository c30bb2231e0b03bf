/- The document's own instruction. -/
import Derived.Test.YtbjeeefkbmdmfaaRVOne
import Derived.Test.YtbjeeefkbmdmfaaRVJoin
import Derived.Test.YtbjeeefkbmdmfaaVWork
import Derived.Deep.CutBlock
namespace Go.Proofs.Ytbjeeefkbmdmfaa
open Go.RowKit
set_option linter.unusedVariables false

/-- what Does leaves -/
def DsP (x : Ic) (k a : Int) (v : VS) (g : Nat) (u : Int) (w : World) (e : Ending) (w' : World) : Prop :=
  e = .returned (.tuple #[]) ∧ (∃ v', Rr w' g v' (u + 1) (do1 x k a v).2.1 (do1 x k a v).2.2 ∧ v'.c = (do1 x k a v).1.c ∧ ((do1 x k a v).2.1 = 0 → v' = (do1 x k a v).1)) ∧ Kept (fun j => j = g) w w'
set_option maxRecDepth 100000 in
theorem dsp_of {x : Ic} {k a : Int} {v v1 v2 : VS} {ov rt : Int} {g : Nat} {u : Int} {w w' : World} (h : do1 x k a v = (v1, ov, rt)) (hr : Rr w' g v2 (u + 1) ov rt) (hc : v2.c = v1.c) (h0 : ov = 0 → v2 = v1) (hk : Kept (fun j => j = g) w w') : DsP x k a v g u w (.returned (.tuple #[])) w' := by
  unfold DsP; rw [h]; exact ⟨rfl, ⟨v2, hr, hc, h0⟩, hk⟩
/-- behind the counts: the world, the run, the variable -/
structure DsW (w : World) (g : Nat) (o n : Int) (v : VS) (u ov rt : Int) (gv : Nat) (W : World) : Prop where
  ru : Rr W g v u ov rt
  rv : W.heap[gv]? = some (.cells #[.int .i64 o, .int .i64 n] 77 (0, 0))
  kp : Kept (fun j => j = g) w W
section
variable {w W W' : World} {g : Nat} {o n : Int} {v v' : VS} {u ov rt u' ov' rt' : Int} {gv : Nat}
set_option maxRecDepth 100000 in
theorem DsW.cells (h : DsW w g o n v u ov rt gv W) : W.cell? ⟨gv, 0, none⟩ = some (.int .i64 o) ∧ W.cell? ⟨gv, 1, none⟩ = some (.int .i64 n) := ⟨cell_of_row _ gv 0 _ _ (0, 0) h.rv, cell_of_row _ gv 1 _ _ (0, 0) h.rv⟩
set_option maxRecDepth 100000 in
theorem DsW.call (h : DsW w g o n v u ov rt gv W) (hk : Kept (fun j => j = g) W W') (h1 : ¬ gv = g) (hr : Rr W' g v' u' ov' rt') : DsW w g o n v' u' ov' rt' gv W' := ⟨hr, (hk.block gv (Array.getElem?_eq_some_iff.1 h.rv).1 h1).trans h.rv, h.kp.trans' hk⟩
set_option maxRecDepth 100000 in
theorem keptd_own {a w : World} {g : Nat} (h : Kept (fun j => j = g) a w) (i : Nat) (x : Value) : Kept (fun j => j = g) a (w.setCell ⟨g, i, none⟩ x) := h.setCell (g := g) (Or.inl (Eq.refl g)) _ _
set_option maxRecDepth 100000 in
theorem DsW.own (h : DsW w g o n v u ov rt gv W) (h1 : ¬ gv = g) (i : Nat) (x : Value) (hr : Rr (W.setCell ⟨g, i, none⟩ x) g v' u' ov' rt') : DsW w g o n v' u' ov' rt' gv (W.setCell ⟨g, i, none⟩ x) := h.call (keptd_own (Kept.refl _ _) _ _) h1 hr
set_option maxRecDepth 100000 in
theorem DsW.drew (h : DsW w g o n v u ov rt gv W) : DsW w g o n v u ov rt gv W.drew := ⟨h.ru.below (Below.refl _ _).drew, h.rv, h.kp.drew⟩
end
set_option maxRecDepth 100000 in
theorem off_zero (v : VS) : off v 0 = v.s := by unfold off; rw [Nat.sub_zero, List.take_of_length_le (Nat.le_refl _)]
set_option maxHeartbeats 8000000 in
set_option maxRecDepth 100000 in
theorem does_any (g : Nat) (o n : Int) (v : VS) (k a u : Int) (w : World) (h : Rr w g v u 0 0) (hF : Fit ⟨o, n⟩ v) (hs : v.s.length ≤ 8) (hp : v.p < 1000000) (hu : 0 ≤ u ∧ u < 9223372036854775807) :
    Calls Try.prog 74 #[.pointer (some ⟨g, 0, none⟩), .agg #[.int .i64 o, .int .i64 n], .int .i64 k, .int .i64 a] w (DsP ⟨o, n⟩ k a v g u w) := by
  have HF := Bx.mk hF
  obtain ⟨gv, HGV⟩ : ∃ gv, Bx (gv = w.heap.size) := ⟨_, ⟨rfl⟩⟩
  have hgl := h.lt
  have HN1 : Bx (¬ gv = g) := ⟨by rw [HGV.out]; omega⟩
  have HD0 : Bx (DsW w g o n v u 0 0 gv (w.alloc (.cells #[.int .i64 o, .int .i64 n] 77))) := by
    have hb1 : Below w.heap.size w (w.alloc (.cells #[.int .i64 o, .int .i64 n] 77)) := (Below.refl _ _).alloc (Nat.le_refl _) _
    have hra := heap_alloc_new w (.cells #[.int .i64 o, .int .i64 n] 77)
    rw [← HGV.out] at hra
    exact ⟨⟨h.below hb1, hra, Kept.of_below hb1⟩⟩
  clear hF h hgl
  go_enter Try.func74, Try.ntmps74
  go_upto_region 1 with fail
  rw [← HGV.out]
  generalize w.alloc (.cells #[.int .i64 o, .int .i64 n] 77) = w0 at HD0 ⊢
  obtain ⟨m6, f6⟩ := HD0.out.ru.at6
  have HD1 : Bx (DsW w g o n v (u + 1) 0 0 gv (w0.setCell ⟨g, 6, none⟩ (.int .i64 (u + 1)))) := ⟨HD0.out.own HN1.out 6 _ (HD0.out.ru.setU (u + 1))⟩
  go_upto_region 2 with fail
  generalize w0.setCell ⟨g, 6, none⟩ (.int .i64 (u + 1)) = w1 at HD1 ⊢
  clear m6 f6 HD0
  obtain ⟨m5, f5⟩ := HD1.out.ru.at5
  have HD2 : Bx (DsW w g o n ⟨v.c, v.s, v.p + 1⟩ (u + 1) 0 0 gv (w1.setCell ⟨g, 5, none⟩ (.int .i64 ((v.p : Int) + 1)))) := ⟨HD1.out.own HN1.out 5 _ (HD1.out.ru.setP (v.p + 1))⟩
  have hpI : (v.p : Int) < 1000000 := by omega
  go_upto_region 3 with fail
  generalize w1.setCell ⟨g, 5, none⟩ (.int .i64 ((v.p : Int) + 1)) = w2 at HD2 ⊢
  clear m5 f5 HD1 hpI hp hu
  obtain ⟨d, HD⟩ : ∃ d, Bx (v.s.length = d) := ⟨_, ⟨rfl⟩⟩
  obtain ⟨st, cap, m4, f4, hiv, hne, hcap, hlec⟩ := HD2.out.ru.stk (d := d) (sl := v.s) HD.out rfl
  have HIV := Bx.mk hiv
  have HNE := Bx.mk hne
  rw [HD.out] at hs
  clear hiv hne
  obtain ⟨b, HB⟩ : ∃ b, Bx (tpB v = b) := ⟨_, ⟨rfl⟩⟩
  go_upto_if 33 with fail
  go_cut [9] from 34 to 41 (fun s9 wx => s9 = .int .i64 b ∧ w2 = wx)
  case first =>
    by_cases hd0 : d = 0
    · obtain rfl : b = 0 := by rw [← HB.out]; unfold tpB; rw [List.eq_nil_of_length_eq_zero (HD.out.trans hd0)]; rfl
      have hdI : decide ((0 : Int) < (d : Int)) = false := by simp; omega
      subst hd0
      go_wp2_with fail
      go_meet
      case rel => exact ⟨rfl, rfl⟩
    · obtain ⟨m, rfl⟩ : ∃ m, d = m + 1 := ⟨d - 1, by omega⟩
      obtain ⟨bb, oo, rfl, _, y0⟩ := HIV.out.iv m (by omega) 0
      have hv : v.s.getD m 0 = b := by rw [← HB.out]; unfold tpB; rw [HD.out, Nat.add_sub_cancel]
      rw [hv] at y0
      have hdI : (0 : Int) < ((m + 1 : Nat) : Int) := by omega
      have hmI : (m : Int) < ((m + 1 : Nat) : Int) := by omega
      clear hv
      go_wp2_with fail
      go_meet
      case rel => exact ⟨rfl, rfl⟩
  case rest =>
    obtain ⟨rfl, rfl⟩ := hcut
    obtain ⟨k0, k1⟩ := HD2.out.cells
    have HS8 : Bx (v.s.length ≤ 8) := ⟨by rw [HD.out]; exact hs⟩
    have hop := HF.out.op
    have htk := HF.out.tk
    have hpt := HF.out.pt
    have hcl := HF.out.cl
    have hpl := HF.out.pl
    have HSV := Bx.mk HF.out.sv
    simp only at hop htk hpt hcl hpl
    have HOPB := (isO_iff o).1 hop
    rw [HD.out] at htk hpt
    clear HF
    by_cases e0 : o = 0
    · subst e0
      have hl : d < 8 := by have : tkO 0 = 0 := rfl; have : ptO 0 = 1 := rfl; omega
      have HDO := Bx.mk (do1_0 (x := ⟨0, n⟩) (k := k) (g := a) (v := v) rfl)
      clear hop htk hpt hcl hpl HOPB
      go_wp2_with fail
      refine (one_any g _ (u + 1) 0 0 0 n _ HD2.out.ru (Nat.zero_le _) (HS8.out)).mono ?_
      rintro e w3 ⟨rfl, hr, hk⟩
      have HD3 := Bx.mk (HD2.out.call hk HN1.out hr)
      clear hr hk
      go_wp2_with fail
      go_end0
      exact dsp_of HDO.out HD3.out.ru rfl (fun _ => by rw [off_zero]) HD3.out.kp
    by_cases e1 : o = 1
    · subst e1
      have hl : 1 ≤ d := by have : tkO 1 = 1 := rfl; omega
      have HDO := Bx.mk (do1_1 (x := ⟨1, n⟩) (k := k) (g := a) (v := v) rfl)
      obtain ⟨m, HM⟩ : ∃ m, Bx (d = m + 1) := ⟨d - 1, ⟨by omega⟩⟩
      obtain ⟨bb, oo, hst, _, _⟩ := HIV.out.iv m (by have := HM.out; omega) 0
      subst hst
      have hmc : (m : Int) ≤ (cap : Int) := by have := HM.out; omega
      have hmc2 : m ≤ cap := by have := HM.out; omega
      have hdm : (d : Int) - 1 = (m : Int) := by have := HM.out; omega
      have hdw : IntKind.i64.wrap (m : Int) = (m : Int) := IntWalk.i64_in _ (by omega)
      have HD3 : Bx (DsW w g 1 n ⟨v.c, off v 1, v.p + 1⟩ (u + 1) 0 0 gv (w2.setCell ⟨g, 4, none⟩ (.slice (some ⟨bb, oo, none⟩) m cap))) := ⟨HD2.out.own HN1.out 4 _ (HD2.out.ru.cut (by show _ = some (Value.slice _ v.s.length _); rw [HD.out]; exact m4) m (by show v.s.length = _; rw [HD.out]; exact HM.out))⟩
      clear hop htk hpt hcl hpl HOPB e0
      go_wp2_with fail
      go_end0
      exact dsp_of HDO.out HD3.out.ru rfl (fun _ => rfl) HD3.out.kp
    by_cases e2 : o = 2
    · subst e2
      have HDO := Bx.mk (do1_2 (x := ⟨2, n⟩) (k := k) (g := a) (v := v) rfl)
      rw [HB.out] at HDO
      clear hop htk hpt hcl hpl HOPB e0 e1
      go_wp2_with fail
      refine (one_any g _ (u + 1) 0 0 0 b _ HD2.out.ru (Nat.zero_le _) (HS8.out)).mono ?_
      rintro e w3 ⟨rfl, hr, hk⟩
      have HD3 := Bx.mk (HD2.out.call hk HN1.out hr)
      clear hr hk
      go_wp2_with fail
      go_end0
      exact dsp_of HDO.out HD3.out.ru rfl (fun _ => by rw [off_zero]) HD3.out.kp
    by_cases e3 : o = 3
    · subst e3
      have hl : 2 ≤ d := by have : tkO 3 = 2 := rfl; omega
      have HDO := Bx.mk (do1_3 (x := ⟨3, n⟩) (k := k) (g := a) (v := v) rfl)
      obtain ⟨c, HC⟩ : ∃ c, Bx (tpA v = c) := ⟨_, ⟨rfl⟩⟩
      rw [HB.out, HC.out] at HDO
      obtain ⟨m, rfl⟩ : ∃ m, d = m + 2 := ⟨d - 2, by omega⟩
      obtain ⟨bb, oo, rfl, _, y0⟩ := HIV.out.iv m (by omega) 0
      have hv : v.s.getD m 0 = c := by rw [← HC.out]; unfold tpA; rw [HD.out, Nat.add_sub_cancel]
      rw [hv] at y0
      have hdm : ((m + 2 : Nat) : Int) - 2 = (m : Int) := by omega
      have hmI : (m : Int) < ((m + 2 : Nat) : Int) := by omega
      have HOL := Bx.mk (off_len v 2)
      clear hop htk hpt hcl hpl HOPB e0 e1 e2 hv
      go_wp2_with fail
      refine (one_any g _ (u + 1) 0 0 2 b _ HD2.out.ru (by show 2 ≤ v.s.length; rw [HD.out]; omega) (HS8.out)).mono ?_
      rintro e w3 ⟨rfl, hr, hk⟩
      have HD3 := Bx.mk (HD2.out.call hk HN1.out hr)
      clear hr hk
      go_wp2_with fail
      refine (one_any g _ (u + 1) 0 0 0 c _ HD3.out.ru (Nat.zero_le _) (by show (off v 2 ++ [b]).length ≤ 8; rw [List.length_append, HOL.out, HD.out]; show m + 2 - 2 + 1 ≤ 8; omega)).mono ?_
      rintro e w4 ⟨rfl, hr, hk⟩
      have HD4 := Bx.mk (HD3.out.call hk HN1.out hr)
      clear hr hk
      go_wp2_with fail
      go_end0
      exact dsp_of HDO.out HD4.out.ru rfl (fun _ => by rw [off_zero]; simp [off]) HD4.out.kp
    by_cases e4 : o = 4
    · subst e4
      have hc := hcl rfl
      obtain ⟨i, rfl⟩ : ∃ i : Nat, n = (i : Int) := ⟨n.toNat, by omega⟩
      have hi : i < 4 := by omega
      have hiI : (i : Int) < 4 := by omega
      have HDO := Bx.mk (do1_4 (x := ⟨4, (i : Int)⟩) (k := k) (g := a) (v := v) rfl)
      obtain ⟨ci, _⟩ := HD2.out.ru.cellAt i hi
      obtain ⟨y, HY⟩ : ∃ y, Bx (v.c.getD i 0 = y) := ⟨_, ⟨rfl⟩⟩
      replace ci : w2.cell? ⟨g, i, none⟩ = some (.int .i64 (v.c.getD i 0)) := ci
      rw [HY.out] at ci
      rw [show v.c.getD (⟨4, (i : Int)⟩ : Ic).n.toNat 0 = y from HY.out] at HDO
      have HDD := Bx.mk HD2.out.drew
      clear hop htk hpt hcl hpl HOPB e0 e1 e2 e3 hc
      go_wp2_with fail
      go_region_with (go_at_call 85; refine (one_any g ⟨v.c, v.s, v.p + 1⟩ (u + 1) 0 0 0 y _ ?_ (Nat.zero_le _) HS8.out).mono ?_; exact HDD.out.ru; rintro e w3 ⟨rfl, hr, hk⟩)
      have HD3 := Bx.mk (HDD.out.call hk HN1.out hr)
      clear hr hk
      go_wp2_with fail
      go_end0
      exact dsp_of HDO.out HD3.out.ru rfl (fun _ => by rw [off_zero]) HD3.out.kp
    by_cases e5 : o = 5
    · subst e5
      have hl : 1 ≤ d := by have : tkO 5 = 1 := rfl; omega
      have hc := hcl rfl
      obtain ⟨i, rfl⟩ : ∃ i : Nat, n = (i : Int) := ⟨n.toNat, by omega⟩
      have hi : i < 4 := by omega
      have hiI : (i : Int) < 4 := by omega
      have HDO := Bx.mk (do1_5 (x := ⟨5, (i : Int)⟩) (k := k) (g := a) (v := v) rfl)
      rw [HB.out] at HDO
      obtain ⟨ci, fi⟩ := HD2.out.ru.cellAt i hi
      generalize (⟨v.c, v.s, v.p + 1⟩ : VS).c.getD i 0 = y at ci
      have HD3 : Bx (DsW w g 5 (i : Int) ⟨v.c.set i b, v.s, v.p + 1⟩ (u + 1) 0 0 gv (w2.setCell ⟨g, i, none⟩ (.int .i64 b)).drew) := ⟨(HD2.out.own HN1.out i _ (HD2.out.ru.setC i hi b)).drew⟩
      clear hop htk hpt hcl hpl HOPB e0 e1 e2 e3 e4 hc
      go_upto_region 25 with fail
      go_region
      generalize (w2.setCell ⟨g, i, none⟩ (.int .i64 b)).drew = w3 at HD3 ⊢
      clear m4 f4 ci fi k0 k1 HIV HNE hcap hlec
      obtain ⟨st, cap, m4, f4, hiv, hne, hcap, hlec⟩ := HD3.out.ru.stk (d := d) (sl := v.s) HD.out rfl
      have HIV := Bx.mk hiv
      clear hiv hne
      obtain ⟨m, HM⟩ : ∃ m, Bx (d = m + 1) := ⟨d - 1, ⟨by omega⟩⟩
      obtain ⟨bb, oo, hst, _, _⟩ := HIV.out.iv m (by have := HM.out; omega) 0
      subst hst
      have hmc : (m : Int) ≤ (cap : Int) := by have := HM.out; omega
      have hmc2 : m ≤ cap := by have := HM.out; omega
      have hdm : (d : Int) - 1 = (m : Int) := by have := HM.out; omega
      have hdw : IntKind.i64.wrap (m : Int) = (m : Int) := IntWalk.i64_in _ (by omega)
      have HD4 : Bx (DsW w g 5 (i : Int) ⟨v.c.set i b, off v 1, v.p + 1⟩ (u + 1) 0 0 gv (w3.setCell ⟨g, 4, none⟩ (.slice (some ⟨bb, oo, none⟩) m cap))) := ⟨HD3.out.own HN1.out 4 _ (HD3.out.ru.cut (by show _ = some (Value.slice _ v.s.length _); rw [HD.out]; exact m4) m (by show v.s.length = _; rw [HD.out]; exact HM.out))⟩
      go_wp2_with fail
      go_end0
      exact dsp_of HDO.out HD4.out.ru rfl (fun _ => rfl) HD4.out.kp
    by_cases e6 : o = 6
    · subst e6
      have HDO := Bx.mk (do1_6 (x := ⟨6, n⟩) (k := k) (g := a) (v := v) rfl)
      clear hop htk hpt hcl hpl HOPB e0 e1 e2 e3 e4 e5
      go_wp2_with fail
      refine (one_any g _ (u + 1) 0 0 0 a _ HD2.out.ru (Nat.zero_le _) (HS8.out)).mono ?_
      rintro e w3 ⟨rfl, hr, hk⟩
      have HD3 := Bx.mk (HD2.out.call hk HN1.out hr)
      clear hr hk
      go_wp2_with fail
      go_end0
      exact dsp_of HDO.out HD3.out.ru rfl (fun _ => by rw [off_zero]) HD3.out.kp
    by_cases e7 : o = 7
    · subst e7
      have HDO := Bx.mk (do1_7 (x := ⟨7, n⟩) (k := k) (g := a) (v := v) rfl)
      clear hop htk hpt hcl hpl HOPB e0 e1 e2 e3 e4 e5 e6
      go_wp2_with fail
      refine (one_any g _ (u + 1) 0 0 0 k _ HD2.out.ru (Nat.zero_le _) (HS8.out)).mono ?_
      rintro e w3 ⟨rfl, hr, hk⟩
      have HD3 := Bx.mk (HD2.out.call hk HN1.out hr)
      clear hr hk
      go_wp2_with fail
      go_end0
      exact dsp_of HDO.out HD3.out.ru rfl (fun _ => by rw [off_zero]) HD3.out.kp
    by_cases e15 : o = 15
    · subst e15
      have hl : 1 ≤ d := by have : tkO 15 = 1 := rfl; omega
      obtain ⟨t, HT⟩ : ∃ t, Bx ((if tpB v = 0 then 1 else 0 : Int) = t) := ⟨_, ⟨rfl⟩⟩
      have HDO : Bx (do1 ⟨15, n⟩ k a v = (⟨v.c, off v 1 ++ [t], v.p + 1⟩, 0, 0)) := ⟨by rw [do1_15 rfl, HT.out]⟩
      have HTB : Bx (tru (b == 0) = t) := ⟨by rw [← HT.out, ← HB.out]; unfold tru; simp⟩
      clear hop htk hpt hcl hpl HOPB e0 e1 e2 e3 e4 e5 e6 e7
      go_wp2_with fail
      refine (rtruth_any _ _).mono ?_
      rintro e wz ⟨rfl, hw⟩
      replace hw := hw.symm
      subst hw
      rw [HTB.out]
      go_wp2_with fail
      refine (one_any g _ (u + 1) 0 0 1 t _ HD2.out.ru (by show 1 ≤ v.s.length; rw [HD.out]; omega) (HS8.out)).mono ?_
      rintro e w3 ⟨rfl, hr, hk⟩
      have HD3 := Bx.mk (HD2.out.call hk HN1.out hr)
      clear hr hk
      go_wp2_with fail
      go_end0
      exact dsp_of HDO.out HD3.out.ru rfl (fun _ => rfl) HD3.out.kp
    by_cases e16 : o = 16
    · subst e16
      obtain ⟨q, rfl⟩ : ∃ q : Nat, n = (q : Int) := ⟨n.toNat, by have := hpl rfl; omega⟩
      have HDO : Bx (do1 ⟨16, (q : Int)⟩ k a v = (⟨v.c, v.s, q⟩, 0, 0)) := ⟨do1_16 rfl⟩
      obtain ⟨p5, f5⟩ := HD2.out.ru.at5
      have HD3 : Bx (DsW w g 16 (q : Int) ⟨v.c, v.s, q⟩ (u + 1) 0 0 gv (w2.setCell ⟨g, 5, none⟩ (.int .i64 (q : Int)))) := ⟨HD2.out.own HN1.out 5 _ (HD2.out.ru.setP q)⟩
      clear hop htk hpt hcl hpl HOPB e0 e1 e2 e3 e4 e5 e6 e7 e15
      go_wp2_with fail
      go_end0
      exact dsp_of HDO.out HD3.out.ru rfl (fun _ => rfl) HD3.out.kp
    by_cases e17 : o = 17
    · subst e17
      have hl : 1 ≤ d := by have : tkO 17 = 1 := rfl; omega
      obtain ⟨q, rfl⟩ : ∃ q : Nat, n = (q : Int) := ⟨n.toNat, by have := hpl rfl; omega⟩
      have HDO := Bx.mk (do1_17 (x := ⟨17, (q : Int)⟩) (k := k) (g := a) (v := v) rfl)
      rw [HB.out] at HDO
      obtain ⟨m, HM⟩ : ∃ m, Bx (d = m + 1) := ⟨d - 1, ⟨by omega⟩⟩
      obtain ⟨bb, oo, hst, _, _⟩ := HIV.out.iv m (by have := HM.out; omega) 0
      subst hst
      have hmc : (m : Int) ≤ (cap : Int) := by have := HM.out; omega
      have hmc2 : m ≤ cap := by have := HM.out; omega
      have hdm : (d : Int) - 1 = (m : Int) := by have := HM.out; omega
      have hdw : IntKind.i64.wrap (m : Int) = (m : Int) := IntWalk.i64_in _ (by omega)
      have HD3 : Bx (DsW w g 17 (q : Int) ⟨v.c, off v 1, v.p + 1⟩ (u + 1) 0 0 gv (w2.setCell ⟨g, 4, none⟩ (.slice (some ⟨bb, oo, none⟩) m cap))) := ⟨HD2.out.own HN1.out 4 _ (HD2.out.ru.cut (by show _ = some (Value.slice _ v.s.length _); rw [HD.out]; exact m4) m (by show v.s.length = _; rw [HD.out]; exact HM.out))⟩
      clear hop htk hpt hcl hpl HOPB e0 e1 e2 e3 e4 e5 e6 e7 e15 e16
      go_upto_region 37 with fail
      generalize w2.setCell ⟨g, 4, none⟩ (.slice (some ⟨bb, oo, none⟩) m cap) = w3 at HD3 ⊢
      clear m4 f4 k0 k1 hmc hmc2 hdm hdw HIV HNE hcap hlec
      obtain ⟨k0, k1⟩ := HD3.out.cells
      by_cases hb : b = 0
      · subst hb
        rw [if_pos rfl] at HDO
        obtain ⟨p5, f5⟩ := HD3.out.ru.at5
        have HD4 : Bx (DsW w g 17 (q : Int) ⟨v.c, off v 1, q⟩ (u + 1) 0 0 gv (w3.setCell ⟨g, 5, none⟩ (.int .i64 (q : Int)))) := ⟨HD3.out.own HN1.out 5 _ (HD3.out.ru.setP q)⟩
        go_wp2_with fail
        go_end0
        exact dsp_of HDO.out HD4.out.ru rfl (fun _ => rfl) HD4.out.kp
      · rw [if_neg hb] at HDO
        have hq : (b == 0) = false := by simpa using hb
        clear hb
        go_wp2_with fail
        go_end0
        exact dsp_of HDO.out HD3.out.ru rfl (fun _ => rfl) HD3.out.kp
    by_cases e18 : o = 18
    · subst e18
      have HDO : Bx (do1 ⟨18, n⟩ k a v = (⟨v.c, off v 1, v.p + 1⟩, 1, b)) := ⟨by rw [do1_18 rfl, HB.out]⟩
      obtain ⟨p8, f8⟩ := HD2.out.ru.at8
      have HD3 : Bx (DsW w g 18 n ⟨v.c, v.s, v.p + 1⟩ (u + 1) 1 0 gv (w2.setCell ⟨g, 8, none⟩ (.int .i64 1))) := ⟨HD2.out.own HN1.out 8 _ (HD2.out.ru.setO 1)⟩
      obtain ⟨p9, f9⟩ := HD3.out.ru.at9
      have HD4 := Bx.mk (HD3.out.own HN1.out 9 _ (HD3.out.ru.setT b))
      clear hop htk hpt hcl hpl HOPB e0 e1 e2 e3 e4 e5 e6 e7 e15 e16 e17
      go_wp2_with fail
      go_end0
      exact dsp_of HDO.out HD4.out.ru rfl (fun e => by cases e) HD4.out.kp
    by_cases e19 : o = 19
    · subst e19
      have HDO : Bx (do1 ⟨19, n⟩ k a v = (⟨v.c, v.s, v.p + 1⟩, 2, 0)) := ⟨do1_19 rfl⟩
      obtain ⟨p8, f8⟩ := HD2.out.ru.at8
      have HD3 : Bx (DsW w g 19 n ⟨v.c, v.s, v.p + 1⟩ (u + 1) 2 0 gv (w2.setCell ⟨g, 8, none⟩ (.int .i64 2))) := ⟨HD2.out.own HN1.out 8 _ (HD2.out.ru.setO 2)⟩
      clear hop htk hpt hcl hpl HOPB e0 e1 e2 e3 e4 e5 e6 e7 e15 e16 e17 e18
      go_wp2_with fail
      go_end0
      exact dsp_of HDO.out HD3.out.ru rfl (fun e => by cases e) HD3.out.kp
    have hob : 8 ≤ o ∧ o ≤ 14 := by omega
    have htk2 : tkO o = 2 := by
      have : o = 8 ∨ o = 9 ∨ o = 10 ∨ o = 11 ∨ o = 12 ∨ o = 13 ∨ o = 14 := by omega
      rcases this with e | e | e | e | e | e | e <;> subst e <;> rfl
    have hl : 2 ≤ d := by omega
    obtain ⟨c, HC⟩ : ∃ c, Bx (tpA v = c) := ⟨_, ⟨rfl⟩⟩
    have HDO := Bx.mk (do1_jnd (x := ⟨o, n⟩) (k := k) (g := a) (v := v) hob)
    rw [HB.out, HC.out] at HDO
    have HAV : Bx (V64 c) := ⟨by rw [← HC.out]; exact tpA_in HSV.out⟩
    have HOB := Bx.mk hob
    obtain ⟨m, HM⟩ : ∃ m, Bx (d = m + 2) := ⟨d - 2, ⟨by omega⟩⟩
    obtain ⟨bb, oo, rfl, _, y0⟩ := HIV.out.iv m (by have := HM.out; omega) 0
    have hv : v.s.getD m 0 = c := by rw [← HC.out]; unfold tpA; rw [HD.out, HM.out, Nat.add_sub_cancel]
    rw [hv] at y0
    have hdm : (d : Int) - 2 = (m : Int) := by have := HM.out; omega
    have hdw : IntKind.i64.wrap (m : Int) = (m : Int) := IntWalk.i64_in _ (by have := HM.out; omega)
    have hmI : (m : Int) < (d : Int) := by have := HM.out; omega
    have q0 : (o == 0) = false := by simpa using e0
    have q1 : (o == 1) = false := by simpa using e1
    have q2 : (o == 2) = false := by simpa using e2
    have q3 : (o == 3) = false := by simpa using e3
    have q4 : (o == 4) = false := by simpa using e4
    have q5 : (o == 5) = false := by simpa using e5
    have q6 : (o == 6) = false := by simpa using e6
    have q7 : (o == 7) = false := by simpa using e7
    have q15 : (o == 15) = false := by simpa using e15
    have q16 : (o == 16) = false := by simpa using e16
    have q17 : (o == 17) = false := by simpa using e17
    have q18 : (o == 18) = false := by simpa using e18
    have q19 : (o == 19) = false := by simpa using e19
    obtain ⟨jv, HJV⟩ : ∃ jv, Bx (jnV o c b = jv) := ⟨_, ⟨rfl⟩⟩
    obtain ⟨jb, HJB⟩ : ∃ jb, Bx (jnB o c b = jb) := ⟨_, ⟨rfl⟩⟩
    have hJ := joined_any o c b
    rw [HJV.out, HJB.out] at hJ
    have HJ := Bx.mk (fun W => hJ W HOB.out HAV.out)
    clear hJ hop htk hpt hcl hpl HOPB e0 e1 e2 e3 e4 e5 e6 e7 e15 e16 e17 e18 e19 hob htk2 hv
    go_upto_region 8 with fail
    go_quiet ((go_at_call 87; exact Calls.quiet_of_same (HJ.out _)))
    have HDQ : Bx (DsW w g o n ⟨v.c, v.s, v.p + 1⟩ (u + 1) 0 0 gv (w2.drewN nq)) := ⟨⟨HD2.out.ru.below (below_drewN (Below.refl _ _) nq), HD2.out.rv, HD2.out.kp.drewN nq⟩⟩
    generalize w2.drewN nq = w3 at HDQ ⊢
    clear m4 f4 k0 k1 y0 HD2 hdm hdw hmI
    go_wp2_with fail
    refine (one_any g _ (u + 1) 0 0 2 jv _ HDQ.out.ru (by show 2 ≤ v.s.length; rw [HD.out]; omega) (HS8.out)).mono ?_
    rintro e w4 ⟨rfl, hr, hk⟩
    have HD4 := Bx.mk (HDQ.out.call hk HN1.out hr)
    clear hr hk
    cases hj : jnd o c b with
    | some y =>
      have h1 := jn_some hj
      obtain rfl : y = jv := by rw [← HJV.out]; exact h1.1.symm
      obtain rfl : true = jb := by rw [← HJB.out]; exact h1.2.symm
      rw [hj] at HDO
      simp only at HDO
      clear h1 hj
      go_wp2_with fail
      go_end0
      exact dsp_of HDO.out HD4.out.ru rfl (fun _ => rfl) HD4.out.kp
    | none =>
      have h1 := jn_none hj
      obtain rfl : false = jb := by rw [← HJB.out]; exact h1.2.symm
      rw [hj] at HDO
      simp only at HDO
      obtain ⟨p8, f8⟩ := HD4.out.ru.at8
      have HD5 := Bx.mk (HD4.out.own HN1.out 8 _ (HD4.out.ru.setO 2))
      clear h1 hj
      go_wp2_with fail
      go_end0
      exact dsp_of HDO.out HD5.out.ru rfl (fun e => by cases e) HD5.out.kp
end Go.Proofs.Ytbjeeefkbmdmfaa
