/- One by one. -/
import Derived.Test.YtbjeeefkbmdmfaaODone
import Derived.Test.YtbjeeefkbmdmfaaOrIn
import Derived.Test.YtbjeeefkbmdmfaaLni
import Derived.Test.YtbjeeefkbmdmfaaLnb
namespace Go.Proofs.Ytbjeeefkbmdmfaa
open Go.RowKit
set_option linter.unusedVariables false

set_option maxRecDepth 100000 in
theorem does_drop {l : List Ic} {f : Int} {ops : List Opr} {o : List Int} {k : Nat} (h : k < o.length) {X : Opr} (hX : opAt ops (o.getD k 0) = X) {S T : List Int} {kd rt us : Int} (hs : stpV l S X.o X.a f = (kd, T, rt, us)) :
    doesF l f ops (o.drop k) S = if kd ≠ 1 then 18 else if X.d = true ∧ X.r ≠ rt then 19 else doesF l f ops (o.drop (k + 1)) T := by
  rw [List.drop_eq_getElem_cons h]
  have e : o[k] = o.getD k 0 := by rw [List.getD_eq_getElem?_getD, List.getElem?_eq_getElem h]; rfl
  rw [e]
  conv => lhs; unfold doesF
  rw [hX, hs]
set_option maxRecDepth 100000 in
theorem does_end {l : List Ic} {f : Int} {ops : List Opr} {o : List Int} {k : Nat} (h : o.length ≤ k) (S : List Int) : doesF l f ops (o.drop k) S = 0 := by
  rw [List.drop_eq_nil_of_le h]; rfl
set_option maxRecDepth 100000 in
theorem four_put {w : World} {g : Nat} {T : TypeId} {s0 s1 s2 s3 : Int} (h : w.heap[g]? = some (.cells #[.int .i64 s0, .int .i64 s1, .int .i64 s2, .int .i64 s3] T (0, 0))) (t0 t1 t2 t3 : Int) :
    ((((w.setCell ⟨g, 0, none⟩ (.int .i64 t0)).setCell ⟨g, 1, none⟩ (.int .i64 t1)).setCell ⟨g, 2, none⟩ (.int .i64 t2)).setCell ⟨g, 3, none⟩ (.int .i64 t3)).heap[g]? = some (.cells #[.int .i64 t0, .int .i64 t1, .int .i64 t2, .int .i64 t3] T (0, 0)) :=
  heap_setCell_same _ g 3 _ _ _ (heap_setCell_same _ g 2 _ _ _ (heap_setCell_same _ g 1 _ _ _ (heap_setCell_same _ g 0 _ _ _ h)))
set_option maxRecDepth 100000 in
theorem below_four {w W : World} (h : Below w.heap.size w W) {g : Nat} (hg : w.heap.size ≤ g) (t0 t1 t2 t3 : Int) :
    Below w.heap.size w ((((W.setCell ⟨g, 0, none⟩ (.int .i64 t0)).setCell ⟨g, 1, none⟩ (.int .i64 t1)).setCell ⟨g, 2, none⟩ (.int .i64 t2)).setCell ⟨g, 3, none⟩ (.int .i64 t3)) :=
  (((h.setCell (p := ⟨g, 0, none⟩) hg _).setCell (p := ⟨g, 1, none⟩) hg _).setCell (p := ⟨g, 2, none⟩) hg _).setCell (p := ⟨g, 3, none⟩) hg _
set_option maxHeartbeats 4000000 in
set_option maxRecDepth 100000 in
theorem play_any (gm gc cc : Nat) (l : List Ic) (fu : Int) (a b : Option Addr) (n c m d : Nat) (ops : List Opr) (o : List Int) (w : World) (hM : Mc w gm gc cc l) (hl : IcsK l) (hf : V64 fu) (h : Ors w a n c ops) (hO : OrsK ops) (h2 : Ivs w b m d o) (hp : PlN ops.length o) :
    Calls Try.prog 47 #[.pointer (some ⟨gm, 0, none⟩), .int .i64 fu, .slice a n c, .slice b m d] w fun e w' => e = .returned (.int .i64 (doesF l fu ops o Z4)) ∧ Below w.heap.size w w' := by
  have H := Bx.mk h
  have H2 := Bx.mk h2
  have HP := Bx.mk hp
  have HM := Bx.mk hM
  have HOK := Bx.mk hM.ok
  have HL := Bx.mk hl
  have HOR := Bx.mk hO
  have HFU := Bx.mk hf
  have HLEN : Bx (ops.length = n) := ⟨h.len_eq⟩
  have HLO : Bx (o.length = m) := ⟨h2.len_eq⟩
  have hn := Nat.le_trans h.le_cap h.cap_le
  have hm := Nat.le_trans h2.le_cap h2.cap_le
  unfold maxLen at hn hm
  obtain ⟨R, HR⟩ : ∃ R, Bx (doesF l fu ops (o.drop 0) [0, 0, 0, 0] = R) := ⟨_, ⟨rfl⟩⟩
  rw [show doesF l fu ops o Z4 = R from HR.out]
  obtain ⟨gz, HGZ⟩ : ∃ gz, Bx (gz = w.heap.size) := ⟨_, ⟨rfl⟩⟩
  have hz0 := heap_alloc_new w (.cells #[.int .i64 0, .int .i64 0, .int .i64 0, .int .i64 0] 70)
  rw [← HGZ.out] at hz0
  have HZ0 := Bx.mk hz0
  have HB0 : Bx (Below w.heap.size w (w.alloc (.cells #[.int .i64 0, .int .i64 0, .int .i64 0, .int .i64 0] 70))) := ⟨(Below.refl _ _).alloc (Nat.le_refl _) _⟩
  have HV0 : Bx (V64 0 ∧ V64 0 ∧ V64 0 ∧ V64 0) := ⟨by unfold V64; decide⟩
  clear h h2 hp hM hl hf hO hz0
  go_enter Try.func47, Try.ntmps47
  go_wp2_with fail
  rw [← HGZ.out]
  generalize w.alloc (.cells #[.int .i64 0, .int .i64 0, .int .i64 0, .int .i64 0] 70) = w0 at HZ0 HB0 ⊢
  go_loopw [16] (fun i wr => ∃ (k : Nat) (s0 s1 s2 s3 : Int), k ≤ m ∧ i = .int .i64 k ∧ Bx (wr.heap[gz]? = some (.cells #[.int .i64 s0, .int .i64 s1, .int .i64 s2, .int .i64 s3] 70 (0, 0))) ∧ Bx (V64 s0 ∧ V64 s1 ∧ V64 s2 ∧ V64 s3) ∧ Bx (doesF l fu ops (o.drop k) [s0, s1, s2, s3] = R) ∧ Bx (Below w.heap.size w wr)) (fun i _ => m - (intOf i).toNat)
  case atStart => exact ⟨0, 0, 0, 0, 0, Nat.zero_le _, rfl, HZ0, HV0, HR, HB0⟩
  case round =>
    clear HZ0 HV0 HR HB0
    obtain ⟨k, s0, s1, s2, s3, hk, rfl, HZ, HV, HR, HB⟩ := hrel
    by_cases hlt : k < m
    · have hkI : (k : Int) < (m : Int) := by omega
      have HKL : Bx (k < o.length) := ⟨by rw [HLO.out]; exact hlt⟩
      obtain ⟨b1, o1, rfl, _, x⟩ := (H2.out.below HB.out).iv k hlt 0
      obtain ⟨p, hpe, hpl⟩ := HP.out.nat HKL.out
      have HPE := Bx.mk hpe
      have hpn : p < n := by rw [← HLEN.out]; exact hpl
      have hpI : (p : Int) < (n : Int) := by omega
      rw [hpe] at x
      obtain ⟨b2, o2, rfl, _⟩ := H.out.spot (by omega)
      obtain ⟨X, HXE⟩ : ∃ X, Bx (ops.getD p op0 = X) := ⟨_, ⟨rfl⟩⟩
      obtain ⟨x0, x1, x2, x3, x4, x5, x6⟩ := or_cells (H.out.below HB.out) p hpn HXE.out
      have HXK : Bx (OrK X) := ⟨by rw [← HXE.out]; exact HOR.out.get p hpl⟩
      have HXA : Bx (opAt ops (o.getD k 0) = X) := ⟨by rw [HPE.out, opAt_pl, HXE.out]⟩
      obtain ⟨kd, t0, t1, t2, t3, rt, us, hst⟩ := stpV_form HOK.out s0 s1 s2 s3 X.o X.a fu
      have HST : Bx (stC (stpV l [s0, s1, s2, s3] X.o X.a fu) = .agg #[.int .i64 kd, .int .i64 t0, .int .i64 t1, .int .i64 t2, .int .i64 t3, .int .i64 rt, .int .i64 us]) := ⟨by rw [hst]; rfl⟩
      have HD := Bx.mk (does_drop (l := l) (f := fu) HKL.out HXA.out hst)
      rw [HR.out] at HD
      have HVT : Bx (V64 t0 ∧ V64 t1 ∧ V64 t2 ∧ V64 t3) := ⟨by
        have := stpV_cv HOK.out HL.out (S := [s0, s1, s2, s3]) rfl (in_four HV.out) HXK.out.o HXK.out.a fu
        rw [hst] at this
        exact four_in this⟩
      obtain ⟨xc, xo, xa, xd, xr, xf, xt⟩ := X
      simp only at x0 x1 x2 x3 x4 x5 x6 HD HST
      obtain ⟨g7, HG7⟩ : ∃ g7, Bx (g7 = wr.heap.size) := ⟨_, ⟨rfl⟩⟩
      have hba : Below wr.heap.size wr (wr.alloc (.cells #[.int .i64 xc, .int .i64 xo, .int .i64 xa, .bool xd, .int .i64 xr, .int .i64 xf, .int .i64 xt] 35)) := (Below.refl _ _).alloc (Nat.le_refl _) _
      have hra := heap_alloc_new wr (.cells #[.int .i64 xc, .int .i64 xo, .int .i64 xa, .bool xd, .int .i64 xr, .int .i64 xf, .int .i64 xt] 35)
      rw [← HG7.out] at hra
      have HRA := Bx.mk hra
      have HZA := Bx.mk (up_row _ _ HZ.out hba)
      have HBA := Bx.mk (bstep HB.out hba)
      clear hba hra hst hpe hpl HB HZ
      go_upto_region 6 with fail
      rw [← HG7.out]
      generalize wr.alloc (.cells #[.int .i64 xc, .int .i64 xo, .int .i64 xa, .bool xd, .int .i64 xr, .int .i64 xf, .int .i64 xt] 35) = w1 at HRA HZA HBA ⊢
      clear x x0 x1 x2 x3 x4 x5 x6
      have y1 := cell_of_row _ g7 1 _ _ (0, 0) HRA.out
      have y2 := cell_of_row _ g7 2 _ _ (0, 0) HRA.out
      have z0 := cell_of_row _ gz 0 _ _ (0, 0) HZA.out
      have z1 := cell_of_row _ gz 1 _ _ (0, 0) HZA.out
      have z2 := cell_of_row _ gz 2 _ _ (0, 0) HZA.out
      have z3 := cell_of_row _ gz 3 _ _ (0, 0) HZA.out
      have HM1 := Bx.mk (HM.out.below HBA.out)
      go_wp2_with fail
      refine (step_any gm gc cc l s0 s1 s2 s3 xo xa fu _ HM1.out HL.out HV.out HXK.out.o HXK.out.a HFU.out).mono ?_
      rintro e w2 ⟨rfl, hb2⟩
      rw [HST.out]
      have HR2 := Bx.mk (up_row _ _ HRA.out hb2)
      have HZ2 := Bx.mk (up_row _ _ HZA.out hb2)
      have HB2 := Bx.mk (bstep HBA.out hb2)
      obtain ⟨g8, HG8⟩ : ∃ g8, Bx (g8 = w2.heap.size) := ⟨_, ⟨rfl⟩⟩
      have hba : Below w2.heap.size w2 (w2.alloc (.cells #[.int .i64 kd, .int .i64 t0, .int .i64 t1, .int .i64 t2, .int .i64 t3, .int .i64 rt, .int .i64 us] 109)) := (Below.refl _ _).alloc (Nat.le_refl _) _
      have hra := heap_alloc_new w2 (.cells #[.int .i64 kd, .int .i64 t0, .int .i64 t1, .int .i64 t2, .int .i64 t3, .int .i64 rt, .int .i64 us] 109)
      rw [← HG8.out] at hra
      have HS3 := Bx.mk hra
      have HR3 := Bx.mk (up_row _ _ HR2.out hba)
      have HZ3 := Bx.mk (up_row _ _ HZ2.out hba)
      have HB3 := Bx.mk (bstep HB2.out hba)
      clear hb2 hba hra y1 y2 z0 z1 z2 z3 HRA HZA HBA HM1 HR2 HZ2 HB2
      go_upto_region 7 with fail
      rw [← HG8.out]
      generalize w2.alloc (.cells #[.int .i64 kd, .int .i64 t0, .int .i64 t1, .int .i64 t2, .int .i64 t3, .int .i64 rt, .int .i64 us] 109) = w3 at HS3 HR3 HZ3 HB3 ⊢
      have q0 := cell_of_row _ g8 0 _ _ (0, 0) HS3.out
      have q1 := cell_of_row _ g8 1 _ _ (0, 0) HS3.out
      have q2 := cell_of_row _ g8 2 _ _ (0, 0) HS3.out
      have q3 := cell_of_row _ g8 3 _ _ (0, 0) HS3.out
      have q4 := cell_of_row _ g8 4 _ _ (0, 0) HS3.out
      have q5 := cell_of_row _ g8 5 _ _ (0, 0) HS3.out
      have r3 := cell_of_row _ g7 3 _ _ (0, 0) HR3.out
      have r4 := cell_of_row _ g7 4 _ _ (0, 0) HR3.out
      by_cases hkd : kd = 1
      · subst hkd
        by_cases hxr : xd = true ∧ xr ≠ rt
        · obtain ⟨rfl, hxr⟩ := hxr
          have HF : Bx (R = 19) := ⟨by rw [HD.out, if_neg (by decide), if_pos ⟨rfl, hxr⟩]⟩
          have hq : (xr != rt) = true := by simpa using hxr
          clear hxr HD
          go_wp2_with fail
          go_ret
          exact ⟨by rw [HF.out]; rfl, HB3.out⟩
        · have HR4 : Bx (doesF l fu ops (o.drop (k + 1)) [t0, t1, t2, t3] = R) := ⟨by rw [HD.out, if_neg (by decide), if_neg hxr]⟩
          have hq : xd = false ∨ (xd = true ∧ (xr != rt) = false) := by
            cases xd with
            | false => exact .inl rfl
            | true => exact .inr ⟨rfl, by by_cases e : xr = rt; (subst e; simp); exact absurd ⟨rfl, e⟩ hxr⟩
          clear hxr HD HR
          obtain ⟨f0, f1, f2, f3⟩ : (w3.frozen? ⟨gz, 0, none⟩ = false ∧ w3.frozen? ⟨gz, 1, none⟩ = false ∧ w3.frozen? ⟨gz, 2, none⟩ = false ∧ w3.frozen? ⟨gz, 3, none⟩ = false) := ⟨frozen_of_row _ _ 0 _ _ HZ3.out, frozen_of_row _ _ 1 _ _ HZ3.out, frozen_of_row _ _ 2 _ _ HZ3.out, frozen_of_row _ _ 3 _ _ HZ3.out⟩
          have z0 := cell_of_row _ gz 0 _ _ (0, 0) HZ3.out
          have z1 := cell_of_row _ gz 1 _ _ (0, 0) HZ3.out
          have z2 := cell_of_row _ gz 2 _ _ (0, 0) HZ3.out
          have z3 := cell_of_row _ gz 3 _ _ (0, 0) HZ3.out
          have HZ4 := Bx.mk (four_put HZ3.out t0 t1 t2 t3)
          have HB4 := Bx.mk (below_four HB3.out (g := gz) (by rw [HGZ.out]; exact Nat.le_refl _) t0 t1 t2 t3)
          rcases hq with rfl | ⟨rfl, hq⟩
          ·
            go_wp2_with fail
            go_roundw
            case rel => exact ⟨k + 1, t0, t1, t2, t3, by omega, by go_num, HZ4, HVT, HR4, HB4⟩
            case measure => simp [intOf]; omega
          ·
            go_wp2_with fail
            go_roundw
            case rel => exact ⟨k + 1, t0, t1, t2, t3, by omega, by go_num, HZ4, HVT, HR4, HB4⟩
            case measure => simp [intOf]; omega
      · have HF : Bx (R = 18) := ⟨by rw [HD.out, if_pos hkd]⟩
        have hq : (kd != 1) = true := by simpa using hkd
        clear hkd HD
        go_wp2_with fail
        go_ret
        exact ⟨by rw [HF.out]; rfl, HB3.out⟩
    · have hkI : ¬ (k : Int) < (m : Int) := by omega
      have HF : Bx (R = 0) := ⟨by rw [← HR.out]; exact does_end (by rw [HLO.out]; omega) _⟩
      go_wp2_with fail
      go_ret
      exact ⟨by rw [HF.out]; rfl, HB.out⟩
end Go.Proofs.Ytbjeeefkbmdmfaa
