/- What readAll and Decode answer. -/
import Derived.Test.YtcghebgdieilgaaCRead
import Derived.Test.YtcghebgdieilgaaCFew
import Derived.Test.YtcghebgdieilgaaCMeas
namespace Go.Proofs.Ytcghebgdieilgaa
open Go.RowKit
set_option linter.unusedVariables false

set_option maxRecDepth 100000 in
theorem mk_ics (n : Nat) : (madeCells (Value.agg #[.int .i64 0, .int .i64 0]).cells (n * 2)).toList = (List.replicate n ic0).flatMap icC := by
  apply List.ext_getElem?
  intro i
  by_cases hi : i < n * 2
  · have h1 := flatE_get icC_len (List.replicate n ic0) (i / 2) (i % 2) (by simp; omega) (Nat.mod_lt _ (by decide))
    rw [show i / 2 * 2 + i % 2 = i from by omega] at h1
    rw [h1, List.getElem_replicate]
    have h4 : i % 2 < 2 := Nat.mod_lt _ (by decide)
    rw [Array.getElem?_toList]
    unfold madeCells
    rw [Array.getElem?_map, Array.getElem?_range, if_pos hi]
    simp only [Value.cells, Option.map_some]
    show some (#[Value.int .i64 0, .int .i64 0][i % 2]!) = _
    generalize i % 2 = j at h4
    match j, h4 with
    | 0, _ => rfl
    | 1, _ => rfl
    | j + 2, h => exact absurd h (by omega)
  · rw [List.getElem?_eq_none (by rw [Array.length_toList, size_madeCells]; omega), List.getElem?_eq_none (by rw [flatE_len icC_len, List.length_replicate]; omega)]
set_option maxRecDepth 100000 in
theorem fill_ic (D : List Ic) (r : Nat) (x : Ic) : (D ++ List.replicate (r + 1) ic0).set D.length x = (D ++ [x]) ++ List.replicate r ic0 := by
  rw [List.replicate_succ, List.set_append_right _ _ (Nat.le_refl _), Nat.sub_self]
  simp
/-- what readAll answers -/
def RaP (l : List Int) (len cap : Nat) (w : World) (e : Ending) (w' : World) : Prop := Below w.heap.size w w' ∧
  (((rdC l).2.2 ≠ 0 ∧ e = .returned (.tuple #[.slice none 0 0, .slice none 0 0, .int .i64 (rdC l).2.2])) ∨
  ((rdC l).2.2 = 0 ∧ ∃ v a', e = .returned (.tuple #[v, .slice a' (len - (rdC l).2.1) (cap - (rdC l).2.1), .int .i64 0]) ∧ w'.ownsRow w.heap.size 52 2 v (rdC l).1.length ((rdC l).1.flatMap icC) ∧ Bts w a' (len - (rdC l).2.1) (cap - (rdC l).2.1) (l.drop (rdC l).2.1)))
set_option maxRecDepth 100000 in
theorem rap_no {l : List Int} {len cap : Nat} {w w' : World} {r : Int} (h : rdC l = ([], 0, r)) (hr : r ≠ 0) (hb : Below w.heap.size w w') : RaP l len cap w (.returned (.tuple #[.slice none 0 0, .slice none 0 0, .int .i64 r])) w' := by
  unfold RaP; rw [h]; exact ⟨hb, .inl ⟨hr, rfl⟩⟩
set_option maxRecDepth 100000 in
theorem rap_yes {l : List Int} {len cap p : Nat} {w w' : World} {D : List Ic} {v : Value} {a' : Option Addr} (h : rdC l = (D, p, 0)) (hb : Below w.heap.size w w') (ho : w'.ownsRow w.heap.size 52 2 v D.length (D.flatMap icC)) (hB : Bts w a' (len - p) (cap - p) (l.drop p)) : RaP l len cap w (.returned (.tuple #[v, .slice a' (len - p) (cap - p), .int .i64 0])) w' := by
  unfold RaP; rw [h]; exact ⟨hb, .inr ⟨rfl, v, a', rfl, ho, hB⟩⟩
set_option maxHeartbeats 4000000 in
set_option maxRecDepth 100000 in
theorem rall_any (a : Option Addr) (len cap : Nat) (l : List Int) (w : World) (h : Bts w a len cap l) :
    Calls Try.prog 37 #[.slice a len cap] w (RaP l len cap w) := by
  have H := Bx.mk h
  have HBY := Bx.mk h.byt
  have hm := Nat.le_trans h.le_cap h.cap_le
  unfold maxLen at hm
  have HUB := Bx.mk (rd_bd l 0 0 h.byt (by omega) (by omega) (by decide))
  obtain ⟨i0, hi, hz0, hz1, hz2⟩ := info_parts Try.infoN
  clear h
  go_enter Try.func37, Try.ntmps37
  go_wp2_with fail
  refine (rnum15_any a len cap l w _ H.out (Below.refl _ _)).mono ?_
  rintro e w1 ⟨a1, rfl, hb1, q1, hq1⟩
  have HB1 : Bx (Below w.heap.size w w1) := ⟨by rw [hq1]; exact below_drewN (Below.refl _ _) q1⟩
  have HL1 := Bx.mk hb1
  clear hq1 hb1
  obtain ⟨u, HU⟩ : ∃ u, Bx ((rd l 0 0).1 = u) := ⟨_, ⟨rfl⟩⟩
  obtain ⟨r, HR⟩ : ∃ r, Bx ((rd l 0 0).2.2 = r) := ⟨_, ⟨rfl⟩⟩
  rw [HU.out, HR.out]
  rw [HU.out] at HUB
  have HA : Bx (rdC l = if r ≠ 0 then ([], 0, r) else if 200 < u then ([], 0, 5) else sqF rdI l u.toNat (rdn l)) := ⟨by unfold rdC; rw [HR.out, HU.out]; rfl⟩
  by_cases hr : r = 0
  · subst hr
    have hu0 := HUB.out.1
    by_cases hu : 200 < u
    · have HF : Bx (rdC l = ([], 0, 5)) := ⟨by rw [HA.out, if_neg (fun h => h rfl), if_pos hu]⟩
      go_wp2_with fail
      go_ret3
      exact rap_no HF.out (by decide) HB1.out
    · obtain ⟨n, rfl⟩ : ∃ n : Nat, u = n := ⟨u.toNat, by omega⟩
      have hn : n ≤ 200 := by omega
      have HF : Bx (rdC l = sqF rdI l n (rdn l)) := ⟨by rw [HA.out, if_neg (fun h => h rfl), if_neg hu, Int.toNat_natCast]⟩
      generalize rdn l = p0 at HL1 HF
      clear HA HU HUB hu0
      go_wp2_with (refine wpList_make_full _ rfl _ _ 25 rfl w.heap.size 52 i0 (.agg #[.int .i64 0, .int .i64 0]) 2 Try.underlying25 hi hz0 hz1 .u64 .u64 n n n rfl rfl rfl rfl (by rw [hz2]; omega) (by unfold maxLen; omega) HB1.out.size (fun w' h1 h2 => ?_))
      rw [mk_ics] at h1
      have hb2 : Below w.heap.size w w' := HB1.out.grown h2 HB1.out.size (by intro k hk; cases hk)
      obtain ⟨gL, HGL⟩ : ∃ gL, Bx (gL = w1.heap.size) := ⟨_, ⟨rfl⟩⟩
      rw [← HGL.out] at h1 ⊢
      have HGW : Bx (w.heap.size ≤ gL) := ⟨by rw [HGL.out]; exact HB1.out.size⟩
      have HO2 := Bx.mk h1
      have HB2 := Bx.mk hb2
      have HC0 : Bx (sqC [] (sqF rdI l (n - 0) p0) = sqF rdI l n p0) := ⟨sqC_nil rdI l n p0⟩
      clear h1 h2 hb2 HGL HB1
      go_loopw [0, 24] (fun b i wr => ∃ (m p : Nat) (D : List Ic) (aR : Option Addr), m ≤ n ∧ D.length = m ∧ i = .int .i64 m ∧ b = .slice aR (len - p) (cap - p) ∧ Bx (Bts w aR (len - p) (cap - p) (l.drop p)) ∧ Bx (wr.ownsRow w.heap.size 52 2 (.slice (some ⟨gL, 0, none⟩) n n) n ((D ++ List.replicate (n - m) ic0).flatMap icC)) ∧ Bx (Below w.heap.size w wr) ∧ Bx (sqC D (sqF rdI l (n - m) p) = sqF rdI l n p0)) (fun _ i _ => n - (intOf i).toNat)
      case atStart => exact ⟨0, p0, [], a1, Nat.zero_le _, rfl, rfl, rfl, HL1, HO2, HB2, HC0⟩
      case round =>
        clear HL1 HO2 HB2 HC0
        obtain ⟨m, p, D, aR, hmn, hDm, rfl, rfl, HL, HO, HB, HC⟩ := hrel
        have HDM : Bx (D.length = m) := ⟨hDm⟩
        clear hDm
        by_cases hlt : m < n
        · have hkI : (m : Int) < (n : Int) := by omega
          obtain ⟨r, HRN⟩ : ∃ r, Bx (n - m = r + 1) := ⟨n - m - 1, ⟨by omega⟩⟩
          have HRM : Bx (n - (m + 1) = r) := ⟨by have := HRN.out; omega⟩
          rw [HRN.out] at HO HC
          go_wp2_with fail
          refine (rone_any aR (len - p) (cap - p) (l.drop p) w _ HL.out HB.out).mono ?_
          intro e w3 hev
          obtain ⟨hb3, hev⟩ := hev
          have HO3 := Bx.mk (owns_below HO.out hb3)
          have HB3 := Bx.mk (bstep HB.out hb3)
          have HZL : Bx ((D ++ List.replicate (r + 1) ic0).length = n) := ⟨by rw [List.length_append, List.length_replicate, HDM.out]; have := HRN.out; omega⟩
          have hk : ∀ j, j < 2 → ∃ u, w3.cell? ⟨gL, m * 2 + j, none⟩ = some u := fun j hj => by
            rw [HO3.out.cellAt (m * 2 + j) (by omega)]
            exact ⟨_, List.getElem?_eq_getElem (by rw [flatE_len icC_len, HZL.out]; omega)⟩
          obtain ⟨u0, k0⟩ := hk 0 (by decide)
          obtain ⟨u1, k1⟩ := hk 1 (by decide)
          rw [Nat.add_zero] at k0
          have f0 := HO3.out.frozenAt (m * 2)
          have f1 := HO3.out.frozenAt (m * 2 + 1)
          have HST : Bx (∀ (o n' : Int), ((w3.setCell ⟨gL, m * 2, none⟩ (.int .i64 o)).setCell ⟨gL, m * 2 + 1, none⟩ (.int .i64 n')).ownsRow w.heap.size 52 2 (.slice (some ⟨gL, 0, none⟩) n n) n (((D ++ [(⟨o, n'⟩ : Ic)]) ++ List.replicate r ic0).flatMap icC) ∧ Below w.heap.size w ((w3.setCell ⟨gL, m * 2, none⟩ (.int .i64 o)).setCell ⟨gL, m * 2 + 1, none⟩ (.int .i64 n'))) := ⟨fun o n' => by
            have h4 := ((HO3.out.stored (m * 2) (.int .i64 o)).1.stored (m * 2 + 1) (.int .i64 n')).1
            rw [ics_set _ m o n' (by rw [HZL.out]; exact hlt)] at h4
            have e1 : (D ++ List.replicate (r + 1) ic0).set m (⟨o, n'⟩ : Ic) = (D ++ [(⟨o, n'⟩ : Ic)]) ++ List.replicate r ic0 := by rw [← HDM.out]; exact fill_ic D r _
            rw [e1] at h4
            exact ⟨h4, (HB3.out.setCell (p := ⟨gL, m * 2, none⟩) HGW.out _).setCell (p := ⟨gL, m * 2 + 1, none⟩) HGW.out _⟩⟩
          clear hk HO HB hb3 HO3
          rcases hev with ⟨hbad, rfl⟩ | ⟨hok, aN, rfl, hbt⟩
          · have HF2 : Bx (rdC l = ([], 0, (rdI (l.drop p)).2.2)) := ⟨by rw [HF.out, ← HC.out]; exact sqC_bad rdI D l r p hbad⟩
            have HBZ := Bx.mk (HST.out 0 0).2
            have HNZ := Bx.mk hbad
            generalize (rdI (l.drop p)).2.2 = re at HF2 HNZ hbad
            have hrq : (re != 0) = true := by simpa using hbad
            clear hbad HST
            go_upto_region 11 with fail
            generalize (w3.setCell ⟨gL, m * 2, none⟩ (.int .i64 0)).setCell ⟨gL, m * 2 + 1, none⟩ (.int .i64 0) = w4 at HBZ ⊢
            clear k0 k1 f0 f1
            go_wp2_with fail
            go_ret3
            exact rap_no HF2.out HNZ.out HBZ.out
          · have HC2 : Bx (sqC (D ++ [(rdI (l.drop p)).1]) (sqF rdI l r (p + (rdI (l.drop p)).2.1)) = sqF rdI l n p0) := ⟨by rw [← HC.out]; exact (sqC_more rdI D l r p hok).symm⟩
            generalize (rdI (l.drop p)).1 = x at HC2
            generalize (rdI (l.drop p)).2.1 = t at HC2 hbt
            obtain ⟨xo, xn⟩ := x
            simp only
            obtain ⟨HO4, HB4⟩ : Bx _ ∧ Bx _ := ⟨⟨(HST.out xo xn).1⟩, ⟨(HST.out xo xn).2⟩⟩
            have HL4 : Bx (Bts w aN (len - (p + t)) (cap - (p + t)) (l.drop (p + t))) := ⟨by rw [List.drop_drop, Nat.sub_sub, Nat.sub_sub] at hbt; exact hbt⟩
            have HLE : Bx (len - p - t = len - (p + t) ∧ cap - p - t = cap - (p + t)) := ⟨⟨Nat.sub_sub _ _ _, Nat.sub_sub _ _ _⟩⟩
            rw [HLE.out.1, HLE.out.2]
            clear hok hbt HST HLE HC
            go_upto_region 11 with fail
            generalize (w3.setCell ⟨gL, m * 2, none⟩ (.int .i64 xo)).setCell ⟨gL, m * 2 + 1, none⟩ (.int .i64 xn) = w4 at HO4 HB4 ⊢
            clear k0 k1 f0 f1
            rw [← HRM.out] at HO4 HC2
            have HDL : Bx ((D ++ [(⟨xo, xn⟩ : Ic)]).length = m + 1) := ⟨by rw [List.length_append, HDM.out]; rfl⟩
            go_wp2_with fail
            go_roundw
            case rel => exact ⟨m + 1, p + t, D ++ [⟨xo, xn⟩], aN, by omega, HDL.out, by go_num, rfl, HL4, HO4, HB4, HC2⟩
            case measure => simp [intOf]; omega
        · obtain rfl : m = n := by omega
          have hkI : ¬ (m : Int) < (m : Int) := by omega
          have HF2 : Bx (rdC l = (D, p, 0)) := ⟨by rw [HF.out, ← HC.out, Nat.sub_self]; exact sqC_end rdI D l p⟩
          have HO2 : Bx (wr.ownsRow w.heap.size 52 2 (.slice (some ⟨gL, 0, none⟩) m m) D.length (D.flatMap icC)) := ⟨by have h1 := HO.out; rw [Nat.sub_self, List.replicate_zero, List.append_nil] at h1; rw [HDM.out]; exact h1⟩
          clear HO HC HDM
          go_wp2_with fail
          go_ret3
          exact rap_yes HF2.out HB.out HO2.out HL.out
  · have HF : Bx (rdC l = ([], 0, r)) := ⟨by rw [HA.out, if_pos hr]⟩
    have hrq : (r != 0) = true := by simpa using hr
    have HNZ : Bx (r ≠ 0) := ⟨hr⟩
    clear hr
    go_wp2_with fail
    go_ret3
    exact rap_no HF.out HNZ.out HB1.out
/-- what Decode answers: the instructions, in memory of their own, and why there are none -/
def DkP (l : List Int) (w : World) (e : Ending) (w' : World) : Prop := ∃ v, e = .returned (.tuple #[v, .int .i64 (rdK l).2]) ∧ w'.ownsRow w.heap.size 52 2 v (rdK l).1.length ((rdK l).1.flatMap icC) ∧ Below w.heap.size w w'
set_option maxRecDepth 100000 in
theorem dkp_no {l : List Int} {w w' : World} {r : Int} (h : rdK l = ([], r)) (hb : Below w.heap.size w w') : DkP l w (.returned (.tuple #[.slice none 0 0, .int .i64 r])) w' := by
  unfold DkP; rw [h]; exact ⟨_, rfl, World.ownsRow_nil _ _ _ _, hb⟩
set_option maxRecDepth 100000 in
theorem dkp_yes {l : List Int} {w w' : World} {D : List Ic} {v : Value} (h : rdK l = (D, 0)) (ho : w'.ownsRow w.heap.size 52 2 v D.length (D.flatMap icC)) (hb : Below w.heap.size w w') : DkP l w (.returned (.tuple #[v, .int .i64 0])) w' := by
  unfold DkP; rw [h]; exact ⟨v, rfl, ho, hb⟩
set_option maxHeartbeats 2000000 in
theorem decode15_any (a : Option Addr) (len cap : Nat) (l : List Int) (w : World) (h : Bts w a len cap l) :
    Calls Try.prog 24 #[.slice a len cap] w (DkP l w) := by
  have H := Bx.mk h
  have HLEN : Bx (l.length = len) := ⟨h.len_eq⟩
  have hm := Nat.le_trans h.le_cap h.cap_le
  unfold maxLen at hm
  have HH : Bx (rdK l = if (rdC l).2.2 ≠ 0 then ([], (rdC l).2.2) else if (rdC l).2.1 < l.length then ([], 6) else if (thr (rdC l).1).2.2 ≠ 0 then ([], (thr (rdC l).1).2.2) else ((rdC l).1, 0)) := ⟨rfl⟩
  clear h
  go_enter Try.func24, Try.ntmps24
  go_wp2_with fail
  refine (rall_any a len cap l _ H.out).mono ?_
  intro e w1 hre
  obtain ⟨hb1, hre⟩ := hre
  have HB1 := Bx.mk hb1
  clear hb1
  rcases hre with ⟨hbad, rfl⟩ | ⟨hok, v1, a1, rfl, ho1, hbt⟩
  · have HF : Bx (rdK l = ([], (rdC l).2.2)) := ⟨by rw [HH.out, if_pos hbad]⟩
    generalize (rdC l).2.2 = r at HF hbad
    have hrq : (r != 0) = true := by simpa using hbad
    clear hbad HH
    go_wp2_with fail
    go_ret2
    exact dkp_no HF.out HB1.out
  · rw [hok, if_neg (fun h => h rfl)] at HH
    have HPL : Bx (len - (rdC l).2.1 = 0 ↔ ¬ (rdC l).2.1 < l.length) := ⟨by rw [HLEN.out]; omega⟩
    generalize (rdC l).1 = D at HH ho1
    generalize (rdC l).2.1 = p at HH HPL
    obtain ⟨n1, HN1⟩ : ∃ n1, Bx (len - p = n1) := ⟨_, ⟨rfl⟩⟩
    rw [HN1.out] at HPL ⊢
    obtain ⟨aD, cD, rfl, hED⟩ := Ls.of_owns icC_len ho1 rfl
    have HED := Bx.mk hED
    have HO1 := Bx.mk ho1
    have hn1 : n1 ≤ 9223372036854775807 := by rw [← HN1.out]; omega
    clear hok hbt ho1 hED HN1
    by_cases hrest : p < l.length
    · have HF : Bx (rdK l = ([], 6)) := ⟨by rw [HH.out, if_pos hrest]⟩
      have hpI : (0 : Int) < (n1 : Int) := by
        have : n1 ≠ 0 := fun h => HPL.out.1 h hrest
        omega
      clear hrest HH
      go_wp2_with fail
      go_ret2
      exact dkp_no HF.out HB1.out
    · rw [if_neg hrest] at HH
      have hn0 : n1 = 0 := HPL.out.2 hrest
      subst hn0
      clear hrest
      go_wp2_with fail
      refine (check15_any aD D.length cD D _ HED.out).mono ?_
      rintro e w2 ⟨rfl, hb2⟩
      have HO2 := Bx.mk (owns_below HO1.out hb2)
      have HB2 := Bx.mk (bstep HB1.out hb2)
      clear hb2
      generalize (thr D).2.1 = pl
      generalize (thr D).2.2 = r at HH ⊢
      by_cases hr : r = 0
      · subst hr
        have HF : Bx (rdK l = (D, 0)) := ⟨by rw [HH.out, if_neg (fun h => h rfl)]⟩
        go_wp2_with fail
        go_ret2
        exact dkp_yes HF.out HO2.out HB2.out
      · have HF : Bx (rdK l = ([], r)) := ⟨by rw [HH.out, if_pos hr]⟩
        have hrq : (r != 0) = true := by simpa using hr
        clear hr HH
        go_wp2_with fail
        go_ret2
        exact dkp_no HF.out HB2.out
end Go.Proofs.Ytcghebgdieilgaa
