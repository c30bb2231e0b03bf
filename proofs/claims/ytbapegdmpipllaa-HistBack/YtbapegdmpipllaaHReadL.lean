/- Events, read one behind the other. -/
import Derived.Test.YtbapegdmpipllaaHReadE
import Derived.Test.YtbapegdmpipllaaHFew
namespace Go.Proofs.Ytbapegdmpipllaa
open Go.RowKit
set_option linter.unusedVariables false

set_option maxRecDepth 100000 in
theorem mk_evs (n : Nat) : (madeCells (Value.agg #[.int .i64 0, .bool false, .int .i64 0, .int .i64 0]).cells (n * 4)).toList = (List.replicate n ev0).flatMap evC := by
  apply List.ext_getElem?
  intro i
  by_cases hi : i < n * 4
  · have h1 := flatE_get evC_len (List.replicate n ev0) (i / 4) (i % 4) (by simp; omega) (Nat.mod_lt _ (by decide))
    rw [show i / 4 * 4 + i % 4 = i from by omega] at h1
    rw [h1, List.getElem_replicate]
    have h4 : i % 4 < 4 := Nat.mod_lt _ (by decide)
    rw [Array.getElem?_toList]
    unfold madeCells
    rw [Array.getElem?_map, Array.getElem?_range, if_pos hi]
    simp only [Value.cells, Option.map_some]
    show some (#[Value.int .i64 0, .bool false, .int .i64 0, .int .i64 0][i % 4]!) = _
    generalize i % 4 = j at h4
    match j, h4 with
    | 0, _ => rfl
    | 1, _ => rfl
    | 2, _ => rfl
    | 3, _ => rfl
    | j + 4, h => exact absurd h (by omega)
  · rw [List.getElem?_eq_none (by rw [Array.length_toList, size_madeCells]; omega), List.getElem?_eq_none (by rw [flatE_len evC_len, List.length_replicate]; omega)]
set_option maxRecDepth 100000 in
/-- the four cells of an event are written -/
theorem evs_set : ∀ (Z : List Ev) (j : Nat) (c : Int) (k : Bool) (o v : Int), j < Z.length → ((((Z.flatMap evC).set (j * 4) (.int .i64 c)).set (j * 4 + 1) (.bool k)).set (j * 4 + 2) (.int .i64 o)).set (j * 4 + 3) (.int .i64 v) = (Z.set j ⟨c, k, o, v⟩).flatMap evC
  | [], j, _, _, _, _, h => absurd h (Nat.not_lt_zero j)
  | z :: Z, 0, _, _, _, _, _ => by rfl
  | z :: Z, j + 1, c, k, o, v, h => by
    have ih := evs_set Z j c k o v (by simpa using h)
    have hs : ∀ (t : List Value) (p : Nat) (u : Value), (evC z ++ t).set (p + 4) u = evC z ++ t.set p u := fun t p u => rfl
    show ((((evC z ++ Z.flatMap evC).set ((j + 1) * 4) (.int .i64 c)).set ((j + 1) * 4 + 1) (.bool k)).set ((j + 1) * 4 + 2) (.int .i64 o)).set ((j + 1) * 4 + 3) (.int .i64 v) = evC z ++ (Z.set j ⟨c, k, o, v⟩).flatMap evC
    rw [show (j + 1) * 4 + 1 = j * 4 + 1 + 4 from by omega, show (j + 1) * 4 + 2 = j * 4 + 2 + 4 from by omega, show (j + 1) * 4 + 3 = j * 4 + 3 + 4 from by omega, show (j + 1) * 4 = j * 4 + 4 from by omega, hs, hs, hs, hs, ih]
set_option maxRecDepth 100000 in
theorem fill_set (D : List Ev) (r : Nat) (x : Ev) : (D ++ List.replicate (r + 1) ev0).set D.length x = (D ++ [x]) ++ List.replicate r ev0 := by
  rw [List.replicate_succ, List.set_append_right _ _ (Nat.le_refl _), Nat.sub_self]
  simp
/-- events, and those behind them -/
def cnt (D : List Ev) (r : List Ev × Nat × Int) : List Ev × Nat × Int := if r.2.2 ≠ 0 then ([], 0, r.2.2) else (D ++ r.1, r.2.1, 0)
set_option maxRecDepth 100000 in
theorem rdF_step (b : List Int) (n p : Nat) : rdF b (n + 1) p = if (rdE (b.drop p)).2.2 ≠ 0 then ([], 0, (rdE (b.drop p)).2.2) else cnt [(rdE (b.drop p)).1] (rdF b n (p + (rdE (b.drop p)).2.1)) := by
  conv => lhs; unfold rdF
  rfl
set_option maxRecDepth 100000 in
theorem cnt_cnt (D : List Ev) (x : Ev) (r : List Ev × Nat × Int) : cnt D (cnt [x] r) = cnt (D ++ [x]) r := by
  unfold cnt
  by_cases h : r.2.2 ≠ 0
  · rw [if_pos h]; simp only; rw [if_pos h, if_pos h]
  · rw [if_neg h]; simp only; rw [if_neg (fun h => h rfl), if_neg h]; simp
set_option maxRecDepth 100000 in
theorem cnt_nil (b : List Int) : ∀ (n p : Nat), cnt [] (rdF b n p) = rdF b n p
  | 0, p => rfl
  | n + 1, p => by
    rw [rdF_step]
    by_cases h : (rdE (b.drop p)).2.2 ≠ 0
    · rw [if_pos h]; unfold cnt; simp only; rw [if_pos h]
    · rw [if_neg h, cnt_cnt]; rfl
set_option maxRecDepth 100000 in
theorem cnt_end (D : List Ev) (b : List Int) (p : Nat) : cnt D (rdF b 0 p) = (D, p, 0) := by
  show (if (0 : Int) ≠ 0 then _ else (D ++ [], p, 0)) = _
  rw [if_neg (fun h => h rfl), List.append_nil]
set_option maxRecDepth 100000 in
theorem cnt_bad (D : List Ev) (b : List Int) (n p : Nat) (h : (rdE (b.drop p)).2.2 ≠ 0) : cnt D (rdF b (n + 1) p) = ([], 0, (rdE (b.drop p)).2.2) := by
  rw [rdF_step, if_pos h]; unfold cnt; simp only; rw [if_pos h]
set_option maxRecDepth 100000 in
theorem cnt_more (D : List Ev) (b : List Int) (n p : Nat) (h : (rdE (b.drop p)).2.2 = 0) : cnt D (rdF b (n + 1) p) = cnt (D ++ [(rdE (b.drop p)).1]) (rdF b n (p + (rdE (b.drop p)).2.1)) := by
  rw [rdF_step, if_neg (fun k => k h), cnt_cnt]
/-- all events of a text: events, the place behind them, the error -/
def rdA (l : List Int) : List Ev × Nat × Int := if (rd l 0 0).2.2 ≠ 0 then ([], 0, (rd l 0 0).2.2) else if 128 < (rd l 0 0).1 then ([], 0, 5) else rdF l (rd l 0 0).1.toNat (rdn l)
set_option maxRecDepth 100000 in
theorem rdH_rdA (l : List Int) : rdH l = if (rdA l).2.2 ≠ 0 then ([], (rdA l).2.2) else if (rdA l).2.1 < l.length then ([], 6) else if (chk (rdA l).1).2 ≠ 0 then ([], (chk (rdA l).1).2) else ((rdA l).1, 0) := by
  unfold rdH rdA rdn
  by_cases h1 : (rd l 0 0).2.2 ≠ 0
  · rw [if_pos h1, if_pos h1]; simp only; rw [if_pos h1]
  · rw [if_neg h1, if_neg h1]
    by_cases h2 : 128 < (rd l 0 0).1
    · rw [if_pos h2, if_pos h2]; simp
    · rw [if_neg h2, if_neg h2]
/-- what readEvents answers -/
def ReP (l : List Int) (len cap : Nat) (w : World) (e : Ending) (w' : World) : Prop := Below w.heap.size w w' ∧
  (((rdA l).2.2 ≠ 0 ∧ e = .returned (.tuple #[.slice none 0 0, .slice none 0 0, .int .i64 (rdA l).2.2])) ∨
  ((rdA l).2.2 = 0 ∧ ∃ v a', e = .returned (.tuple #[v, .slice a' (len - (rdA l).2.1) (cap - (rdA l).2.1), .int .i64 0]) ∧ w'.ownsRow w.heap.size 55 4 v (rdA l).1.length ((rdA l).1.flatMap evC) ∧ Bts w a' (len - (rdA l).2.1) (cap - (rdA l).2.1) (l.drop (rdA l).2.1)))
set_option maxRecDepth 100000 in
theorem rep_no {l : List Int} {len cap : Nat} {w w' : World} {r : Int} (h : rdA l = ([], 0, r)) (hr : r ≠ 0) (hb : Below w.heap.size w w') : ReP l len cap w (.returned (.tuple #[.slice none 0 0, .slice none 0 0, .int .i64 r])) w' := by
  unfold ReP; rw [h]; exact ⟨hb, .inl ⟨hr, rfl⟩⟩
set_option maxRecDepth 100000 in
theorem rep_yes {l : List Int} {len cap p : Nat} {w w' : World} {D : List Ev} {v : Value} {a' : Option Addr} (h : rdA l = (D, p, 0)) (hb : Below w.heap.size w w') (ho : w'.ownsRow w.heap.size 55 4 v D.length (D.flatMap evC)) (hB : Bts w a' (len - p) (cap - p) (l.drop p)) : ReP l len cap w (.returned (.tuple #[v, .slice a' (len - p) (cap - p), .int .i64 0])) w' := by
  unfold ReP; rw [h]; exact ⟨hb, .inr ⟨rfl, v, a', rfl, ho, hB⟩⟩
set_option maxHeartbeats 4000000 in
set_option maxRecDepth 100000 in
theorem revents_any (a : Option Addr) (len cap : Nat) (l : List Int) (w : World) (h : Bts w a len cap l) :
    Calls Try.prog 33 #[.slice a len cap] w (ReP l len cap w) := by
  have H := Bx.mk h
  have HBY := Bx.mk h.byt
  have hm := Nat.le_trans h.le_cap h.cap_le
  unfold maxLen at hm
  have HUB := Bx.mk (rd_bd l 0 0 h.byt (by omega) (by omega) (by decide))
  obtain ⟨i0, hi, hz0, hz1, hz2⟩ := info_parts Try.infoE
  clear h
  go_enter Try.func33, Try.ntmps33
  go_wp2_with fail
  refine (rnum_any a len cap l w _ H.out (Below.refl _ _)).mono ?_
  rintro e w1 ⟨a1, rfl, hb1, q1, hq1⟩
  have HB1 : Bx (Below w.heap.size w w1) := ⟨by rw [hq1]; exact below_drewN (Below.refl _ _) q1⟩
  have HL1 := Bx.mk hb1
  clear hq1 hb1
  obtain ⟨u, HU⟩ : ∃ u, Bx ((rd l 0 0).1 = u) := ⟨_, ⟨rfl⟩⟩
  obtain ⟨r, HR⟩ : ∃ r, Bx ((rd l 0 0).2.2 = r) := ⟨_, ⟨rfl⟩⟩
  rw [HU.out, HR.out]
  rw [HU.out] at HUB
  have HA : Bx (rdA l = if r ≠ 0 then ([], 0, r) else if 128 < u then ([], 0, 5) else rdF l u.toNat (rdn l)) := ⟨by unfold rdA; rw [HR.out, HU.out]⟩
  by_cases hr : r = 0
  · subst hr
    have hu0 := HUB.out.1
    by_cases hu : 128 < u
    · have HF : Bx (rdA l = ([], 0, 5)) := ⟨by rw [HA.out, if_neg (fun h => h rfl), if_pos hu]⟩
      go_wp2_with fail
      go_ret3
      exact rep_no HF.out (by decide) HB1.out
    · obtain ⟨n, rfl⟩ : ∃ n : Nat, u = n := ⟨u.toNat, by omega⟩
      have hn : n ≤ 128 := by omega
      have HF : Bx (rdA l = rdF l n (rdn l)) := ⟨by rw [HA.out, if_neg (fun h => h rfl), if_neg hu, Int.toNat_natCast]⟩
      generalize rdn l = p0 at HL1 HF
      clear HA HU HUB hu0
      go_wp2_with (refine wpList_make_full _ rfl _ _ 22 rfl w.heap.size 55 i0 (.agg #[.int .i64 0, .bool false, .int .i64 0, .int .i64 0]) 4 Try.underlying22 hi hz0 hz1 .u64 .u64 n n n rfl rfl rfl rfl (by rw [hz2]; omega) (by unfold maxLen; omega) HB1.out.size (fun w' h1 h2 => ?_))
      rw [mk_evs] at h1
      have hb2 : Below w.heap.size w w' := HB1.out.grown h2 HB1.out.size (by intro k hk; cases hk)
      obtain ⟨gL, HGL⟩ : ∃ gL, Bx (gL = w1.heap.size) := ⟨_, ⟨rfl⟩⟩
      rw [← HGL.out] at h1 ⊢
      have HGW : Bx (w.heap.size ≤ gL) := ⟨by rw [HGL.out]; exact HB1.out.size⟩
      have HO2 := Bx.mk h1
      have HB2 := Bx.mk hb2
      have HC0 : Bx (cnt [] (rdF l (n - 0) p0) = rdF l n p0) := ⟨cnt_nil l n p0⟩
      clear h1 h2 hb2 HGL HB1
      go_loopw [0, 24] (fun b i wr => ∃ (m p : Nat) (D : List Ev) (aR : Option Addr), m ≤ n ∧ D.length = m ∧ i = .int .i64 m ∧ b = .slice aR (len - p) (cap - p) ∧ Bx (Bts w aR (len - p) (cap - p) (l.drop p)) ∧ Bx (wr.ownsRow w.heap.size 55 4 (.slice (some ⟨gL, 0, none⟩) n n) n ((D ++ List.replicate (n - m) ev0).flatMap evC)) ∧ Bx (Below w.heap.size w wr) ∧ Bx (cnt D (rdF l (n - m) p) = rdF l n p0)) (fun _ i _ => n - (intOf i).toNat)
      case atStart => exact ⟨0, p0, [], a1, Nat.zero_le _, rfl, rfl, rfl, HL1, HO2, HB2, HC0⟩
      case round =>
        clear HL1 HO2 HB2 HC0
        obtain ⟨m, p, D, aR, hmn, hDm, rfl, rfl, HL, HO, HB, HC⟩ := hrel
        have HDM : Bx (D.length = m) := ⟨hDm⟩
        clear hDm
        by_cases hlt : m < n
        · have hkI : (m : Int) < (n : Int) := by omega
          obtain ⟨r, HRN⟩ : ∃ r, Bx (n - m = r + 1) := ⟨n - m - 1, ⟨by omega⟩⟩
          have HRM : Bx (n - (m + 1) = r) := ⟨by have := HRN.out; omega⟩
          rw [HRN.out] at HO HC
          go_wp2_with fail
          refine (revent_any aR (len - p) (cap - p) (l.drop p) w _ HL.out HB.out).mono ?_
          intro e w3 hev
          obtain ⟨hb3, hev⟩ := hev
          have HO3 := Bx.mk (owns_below HO.out hb3)
          have HB3 := Bx.mk (bstep HB.out hb3)
          have HZL : Bx ((D ++ List.replicate (r + 1) ev0).length = n) := ⟨by rw [List.length_append, List.length_replicate, HDM.out]; have := HRN.out; omega⟩
          have hk : ∀ j, j < 4 → ∃ u, w3.cell? ⟨gL, m * 4 + j, none⟩ = some u := fun j hj => by
            rw [HO3.out.cellAt (m * 4 + j) (by omega)]
            exact ⟨_, List.getElem?_eq_getElem (by rw [flatE_len evC_len, HZL.out]; omega)⟩
          obtain ⟨u0, k0⟩ := hk 0 (by decide)
          obtain ⟨u1, k1⟩ := hk 1 (by decide)
          obtain ⟨u2, k2⟩ := hk 2 (by decide)
          obtain ⟨u3, k3⟩ := hk 3 (by decide)
          rw [Nat.add_zero] at k0
          have f0 := HO3.out.frozenAt (m * 4)
          have f1 := HO3.out.frozenAt (m * 4 + 1)
          have f2 := HO3.out.frozenAt (m * 4 + 2)
          have f3 := HO3.out.frozenAt (m * 4 + 3)
          have HST : Bx (∀ (c : Int) (k : Bool) (o v : Int), ((((w3.setCell ⟨gL, m * 4, none⟩ (.int .i64 c)).setCell ⟨gL, m * 4 + 1, none⟩ (.bool k)).setCell ⟨gL, m * 4 + 2, none⟩ (.int .i64 o)).setCell ⟨gL, m * 4 + 3, none⟩ (.int .i64 v)).ownsRow w.heap.size 55 4 (.slice (some ⟨gL, 0, none⟩) n n) n (((D ++ [(⟨c, k, o, v⟩ : Ev)]) ++ List.replicate r ev0).flatMap evC) ∧ Below w.heap.size w ((((w3.setCell ⟨gL, m * 4, none⟩ (.int .i64 c)).setCell ⟨gL, m * 4 + 1, none⟩ (.bool k)).setCell ⟨gL, m * 4 + 2, none⟩ (.int .i64 o)).setCell ⟨gL, m * 4 + 3, none⟩ (.int .i64 v))) := ⟨fun c k o v => by
            have h4 := ((((HO3.out.stored (m * 4) (.int .i64 c)).1.stored (m * 4 + 1) (.bool k)).1.stored (m * 4 + 2) (.int .i64 o)).1.stored (m * 4 + 3) (.int .i64 v)).1
            rw [evs_set _ m c k o v (by rw [HZL.out]; exact hlt)] at h4
            have e1 : (D ++ List.replicate (r + 1) ev0).set m (⟨c, k, o, v⟩ : Ev) = (D ++ [(⟨c, k, o, v⟩ : Ev)]) ++ List.replicate r ev0 := by rw [← HDM.out]; exact fill_set D r _
            rw [e1] at h4
            exact ⟨h4, (((HB3.out.setCell (p := ⟨gL, m * 4, none⟩) HGW.out _).setCell (p := ⟨gL, m * 4 + 1, none⟩) HGW.out _).setCell (p := ⟨gL, m * 4 + 2, none⟩) HGW.out _).setCell (p := ⟨gL, m * 4 + 3, none⟩) HGW.out _⟩⟩
          clear hk HO HB hb3 HO3
          rcases hev with ⟨hbad, rfl⟩ | ⟨hok, aN, rfl, hbt⟩
          · have HF2 : Bx (rdA l = ([], 0, (rdE (l.drop p)).2.2)) := ⟨by rw [HF.out, ← HC.out]; exact cnt_bad D l r p hbad⟩
            have HBZ := Bx.mk (HST.out 0 false 0 0).2
            have HNZ := Bx.mk hbad
            generalize (rdE (l.drop p)).2.2 = re at HF2 HNZ hbad
            have hrq : (re != 0) = true := by simpa using hbad
            clear hbad HST
            go_upto_region 11 with fail
            generalize (((w3.setCell ⟨gL, m * 4, none⟩ (.int .i64 0)).setCell ⟨gL, m * 4 + 1, none⟩ (.bool false)).setCell ⟨gL, m * 4 + 2, none⟩ (.int .i64 0)).setCell ⟨gL, m * 4 + 3, none⟩ (.int .i64 0) = w4 at HBZ ⊢
            clear k0 k1 k2 k3 f0 f1 f2 f3
            go_wp2_with fail
            go_ret3
            exact rep_no HF2.out HNZ.out HBZ.out
          · have HC2 : Bx (cnt (D ++ [(rdE (l.drop p)).1]) (rdF l r (p + (rdE (l.drop p)).2.1)) = rdF l n p0) := ⟨by rw [← HC.out]; exact (cnt_more D l r p hok).symm⟩
            generalize (rdE (l.drop p)).1 = x at HC2
            generalize (rdE (l.drop p)).2.1 = t at HC2 hbt
            obtain ⟨xc, xk, xo, xv⟩ := x
            simp only
            obtain ⟨HO4, HB4⟩ : Bx _ ∧ Bx _ := ⟨⟨(HST.out xc xk xo xv).1⟩, ⟨(HST.out xc xk xo xv).2⟩⟩
            have HL4 : Bx (Bts w aN (len - (p + t)) (cap - (p + t)) (l.drop (p + t))) := ⟨by rw [List.drop_drop, Nat.sub_sub, Nat.sub_sub] at hbt; exact hbt⟩
            have HLE : Bx (len - p - t = len - (p + t) ∧ cap - p - t = cap - (p + t)) := ⟨⟨Nat.sub_sub _ _ _, Nat.sub_sub _ _ _⟩⟩
            rw [HLE.out.1, HLE.out.2]
            clear hok hbt HST HLE HC
            go_upto_region 11 with fail
            generalize (((w3.setCell ⟨gL, m * 4, none⟩ (.int .i64 xc)).setCell ⟨gL, m * 4 + 1, none⟩ (.bool xk)).setCell ⟨gL, m * 4 + 2, none⟩ (.int .i64 xo)).setCell ⟨gL, m * 4 + 3, none⟩ (.int .i64 xv) = w4 at HO4 HB4 ⊢
            clear k0 k1 k2 k3 f0 f1 f2 f3
            rw [← HRM.out] at HO4 HC2
            have HDL : Bx ((D ++ [(⟨xc, xk, xo, xv⟩ : Ev)]).length = m + 1) := ⟨by rw [List.length_append, HDM.out]; rfl⟩
            go_wp2_with fail
            go_roundw
            case rel => exact ⟨m + 1, p + t, D ++ [⟨xc, xk, xo, xv⟩], aN, by omega, HDL.out, by go_num, rfl, HL4, HO4, HB4, HC2⟩
            case measure => simp [intOf]; omega
        · obtain rfl : m = n := by omega
          have hkI : ¬ (m : Int) < (m : Int) := by omega
          have HF2 : Bx (rdA l = (D, p, 0)) := ⟨by rw [HF.out, ← HC.out, Nat.sub_self]; exact cnt_end D l p⟩
          have HO2 : Bx (wr.ownsRow w.heap.size 55 4 (.slice (some ⟨gL, 0, none⟩) m m) D.length (D.flatMap evC)) := ⟨by have h1 := HO.out; rw [Nat.sub_self, List.replicate_zero, List.append_nil] at h1; rw [HDM.out]; exact h1⟩
          clear HO HC HDM
          go_wp2_with fail
          go_ret3
          exact rep_yes HF2.out HB.out HO2.out HL.out
  · have HF : Bx (rdA l = ([], 0, r)) := ⟨by rw [HA.out, if_pos hr]⟩
    have hrq : (r != 0) = true := by simpa using hr
    have HNZ : Bx (r ≠ 0) := ⟨hr⟩
    clear hr
    go_wp2_with fail
    go_ret3
    exact rep_no HF.out HNZ.out HB1.out
end Go.Proofs.Ytbapegdmpipllaa
