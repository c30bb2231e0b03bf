/- What the document's own Ops answers. -/
import Derived.Test.YtbapegdmpipllaaRHCheck
import Derived.Test.YtbapegdmpipllaaHOpsW
import Derived.Test.YtbapegdmpipllaaHistText2
namespace Go.Proofs.Ytbapegdmpipllaa
open Go.RowKit
set_option linter.unusedVariables false

set_option maxRecDepth 100000 in
theorem refO_call {l : List Ev} {i : Nat} (h : i < l.length) (hk : (l.getD i ev0).k = true) : refO (l.drop i) i = finO (l.drop (i + 1)) (i + 1) (newO (l.getD i ev0) i) :: refO (l.drop (i + 1)) (i + 1) := by
  rw [drop_cons l i h]
  show (if (l.getD i ev0).k = true then _ else _) = _
  rw [if_pos hk]
set_option maxRecDepth 100000 in
theorem refO_ans {l : List Ev} {i : Nat} (h : i < l.length) (hk : (l.getD i ev0).k = false) : refO (l.drop i) i = refO (l.drop (i + 1)) (i + 1) := by
  rw [drop_cons l i h]
  show (if (l.getD i ev0).k = true then _ else _) = _
  rw [if_neg (by rw [hk]; decide)]
set_option maxRecDepth 100000 in
theorem finO_hit {x : Ev} {t : List Ev} {i : Nat} {o : Opr} (hd : o.d = false) (h : x.c = o.c) : finO (x :: t) i o = endO o x.v i := by
  rw [finO_open hd]
  show finP o (if x.c = o.c then _ else _) = _
  rw [if_pos h]; rfl
set_option maxRecDepth 100000 in
theorem refO_len : ∀ (t : List Ev) (i : Nat), (refO t i).length ≤ t.length
  | [], _ => Nat.le_refl _
  | x :: t, i => by
    have := refO_len t (i + 1)
    unfold refO
    split
    · rw [List.length_cons, List.length_cons]; omega
    · rw [List.length_cons]; omega
/-- an own list of operations, and one operation in a variable -/
structure RO (wr : World) (N : Nat) (v : Value) (P : List Opr) (w : World) (g : Nat) (q : Opr) : Prop where
  own : wr.ownsRow N 53 7 v P.length (P.flatMap orC)
  bel : Below w.heap.size w wr
  row : wr.heap[g]? = some (.cells (orC q).toArray 53 (0, 0))
set_option maxRecDepth 100000 in
theorem RO.cells {wr : World} {N : Nat} {v : Value} {P : List Opr} {w : World} {g : Nat} {q : Opr} (h : RO wr N v P w g q) : wr.cell? ⟨g, 0, none⟩ = some (.int .i64 q.c) ∧ wr.cell? ⟨g, 1, none⟩ = some (.int .i64 q.o) ∧ wr.cell? ⟨g, 2, none⟩ = some (.int .i64 q.a) ∧ wr.cell? ⟨g, 3, none⟩ = some (.bool q.d) ∧ wr.cell? ⟨g, 4, none⟩ = some (.int .i64 q.r) ∧ wr.cell? ⟨g, 5, none⟩ = some (.int .i64 q.f) ∧ wr.cell? ⟨g, 6, none⟩ = some (.int .i64 q.t) :=
  ⟨cell_of_row _ g 0 _ _ (0, 0) h.row, cell_of_row _ g 1 _ _ (0, 0) h.row, cell_of_row _ g 2 _ _ (0, 0) h.row, cell_of_row _ g 3 _ _ (0, 0) h.row, cell_of_row _ g 4 _ _ (0, 0) h.row, cell_of_row _ g 5 _ _ (0, 0) h.row, cell_of_row _ g 6 _ _ (0, 0) h.row⟩
set_option maxRecDepth 100000 in
theorem RO.drewN {wr : World} {N : Nat} {v : Value} {P : List Opr} {w : World} {g : Nat} {q : Opr} (h : RO wr N v P w g q) (n : Nat) : RO (wr.drewN n) N v P w g q := ⟨h.own, below_drewN h.bel n, h.row⟩
set_option maxRecDepth 100000 in
theorem RO.drew {wr : World} {N : Nat} {v : Value} {P : List Opr} {w : World} {g : Nat} {q : Opr} (h : RO wr N v P w g q) : RO wr.drew N v P w g q := ⟨h.own, h.bel.drew, h.row⟩
set_option maxRecDepth 100000 in
theorem RO.fin {wr : World} {N : Nat} {v : Value} {P : List Opr} {w : World} {g : Nat} {q : Opr} (h : RO wr N v P w g q) (hg : w.heap.size ≤ g) (hv : ∀ j, v.ownBlock = some j → j ≠ g) (y : Int) (t : Nat) : RO (((wr.setCell ⟨g, 3, none⟩ (.bool true)).setCell ⟨g, 4, none⟩ (.int .i64 y)).setCell ⟨g, 6, none⟩ (.int .i64 t)) N v P w g (endO q y t) := by
  have ho : ∀ (W : World) (p : Nat) (u : Value), W.ownsRow N 53 7 v P.length (P.flatMap orC) → (W.setCell ⟨g, p, none⟩ u).ownsRow N 53 7 v P.length (P.flatMap orC) := fun W p u hW => ownsRow_setCell_other hW (a := ⟨g, p, none⟩) (fun e => hv g e rfl) u
  refine ⟨ho _ _ _ (ho _ _ _ (ho _ _ _ h.own)), ((h.bel.setCell (p := ⟨g, 3, none⟩) hg _).setCell (p := ⟨g, 4, none⟩) hg _).setCell (p := ⟨g, 6, none⟩) hg _, ?_⟩
  rw [heap_setCell_same _ g 6 _ _ _ (heap_setCell_same _ g 4 _ _ _ (heap_setCell_same wr g 3 _ _ _ h.row))]
  rfl
set_option maxHeartbeats 4000000 in
set_option maxRecDepth 100000 in
theorem refops_any (a : Option Addr) (len cap : Nat) (l : List Ev) (w : World) (h : Evs w a len cap l) :
    Calls Try.prog 22 #[.slice a len cap] w fun e w' => ∃ v, e = .returned (.tuple #[v, .int .i64 (chk l).2]) ∧ w'.ownsRow w.heap.size 53 7 v (opV l).length ((opV l).flatMap orC) ∧ Below w.heap.size w w' := by
  have H := Bx.mk h
  have HLEN : Bx (l.length = len) := ⟨h.len_eq⟩
  have hm := Nat.le_trans h.le_cap h.cap_le
  unfold maxLen at hm
  obtain ⟨i0, hi, hz0, hz1, hz2⟩ := info_parts Try.infoO
  clear h
  by_cases hok : (chk l).2 = 0
  · have HIS : Bx (His l) := ⟨hok⟩
    have hn128 : len ≤ 1000000 := by have := his_len HIS.out; rw [HLEN.out] at this; omega
    have hq : ((chk l).2 != 0) = false := by simpa using hok
    rw [opV_ok hok, hok]
    go_enter Try.func22, Try.ntmps22
    go_wp2_with fail
    refine (refcheck_any a len cap l _ H.out).mono ?_
    rintro e w1 ⟨rfl, hb1⟩
    have HB1 := Bx.mk hb1
    clear hb1
    rw [hok]
    clear hok
    go_wp2_with fail
    go_loopw [6, 7] (fun v i wr => ∃ m : Nat, m ≤ len ∧ i = .int .i64 m ∧ ∃ P : List Opr, Bx (P ++ refO (l.drop m) m = opsL l) ∧ P.length ≤ m ∧ Bx (wr.ownsRow w.heap.size 53 7 v P.length (P.flatMap orC)) ∧ Bx (Below w.heap.size w wr)) (fun _ i _ => len - (intOf i).toNat)
    case atStart => exact ⟨0, Nat.zero_le _, rfl, [], ⟨(ops_eq HIS.out).symm⟩, Nat.le_refl _, ⟨World.ownsRow_nil _ _ _ _⟩, HB1⟩
    case round =>
      clear HB1
      obtain ⟨m, hml, rfl, P, HP, hPm, HOW, HB⟩ := hrel
      obtain ⟨vO, hvO⟩ : ∃ x, x = u6 := ⟨_, rfl⟩
      subst hvO
      by_cases hlt : m < len
      · have hkI : (m : Int) < (len : Int) := by omega
        have hmL : m < l.length := by rw [HLEN.out]; exact hlt
        have hEv := H.out.below HB.out
        obtain ⟨b, off, rfl, hbl, x0, x1, x2, x3⟩ := hEv.ev m hlt
        obtain ⟨x, HX⟩ : ∃ x, Bx (l.getD m ev0 = x) := ⟨_, ⟨rfl⟩⟩
        rw [HX.out] at x0 x1 x2 x3
        obtain ⟨c, k, o, v⟩ := x
        simp only at x0 x1 x2 x3
        cases k with
        | false =>
          have HP2 : Bx (P ++ refO (l.drop (m + 1)) (m + 1) = opsL l) := ⟨by rw [← refO_ans hmL (by rw [HX.out])]; exact HP.out⟩
          go_wp2_with fail
          go_roundw
          case rel => exact ⟨m + 1, by omega, by go_num, P, HP2, by omega, HOW, HB⟩
          case measure => simp [intOf]; omega
        | true =>
          have HP2 : Bx (P ++ [finO (l.drop (m + 1)) (m + 1) (newO ⟨c, true, o, v⟩ m)] ++ refO (l.drop (m + 1)) (m + 1) = opsL l) := ⟨by have := HP.out; rw [refO_call hmL (by rw [HX.out]), HX.out] at this; rw [← this]; simp⟩
          obtain ⟨g8, HG8⟩ : ∃ g8, Bx (g8 = wr.heap.size) := ⟨_, ⟨rfl⟩⟩
          obtain ⟨q, HQ⟩ : ∃ q, Bx (q = newO ⟨c, true, o, v⟩ m) := ⟨_, ⟨rfl⟩⟩
          have hba : Below wr.heap.size wr (wr.alloc (.cells #[.int .i64 c, .int .i64 o, .int .i64 v, .bool false, .int .i64 0, .int .i64 m, .int .i64 (-1)] 53)).drew := ((Below.refl _ _).alloc (Nat.le_refl _) _).drew
          have hra : (wr.alloc (.cells #[.int .i64 c, .int .i64 o, .int .i64 v, .bool false, .int .i64 0, .int .i64 m, .int .i64 (-1)] 53)).drew.heap[g8]? = some (.cells (orC q).toArray 53 (0, 0)) := by rw [HG8.out, HQ.out]; exact heap_alloc_new wr _
          have HGL : Bx (w.heap.size ≤ g8 ∧ b ≠ g8 ∧ ∀ j, vO.ownBlock = some j → j ≠ g8) := ⟨⟨by rw [HG8.out]; exact HB.out.size, by rw [HG8.out]; omega, fun j hj => by have := (HOW.out.lt j hj).2; have := HG8.out; omega⟩⟩
          have HST0 : Bx (RO (wr.alloc (.cells #[.int .i64 c, .int .i64 o, .int .i64 v, .bool false, .int .i64 0, .int .i64 m, .int .i64 (-1)] 53)).drew w.heap.size vO P w g8 q) := ⟨⟨owns_below HOW.out hba, bstep HB.out hba, hra⟩⟩
          have HQC : Bx (q.c = c) := ⟨by rw [HQ.out]; rfl⟩
          rw [← HQ.out] at HP2
          clear hba hra HOW HB HP
          go_upto_region 9 with fail
          go_region
          rw [← HG8.out]
          generalize (wr.alloc (.cells #[.int .i64 c, .int .i64 o, .int .i64 v, .bool false, .int .i64 0, .int .i64 m, .int .i64 (-1)] 53)).drew = w3 at HST0 ⊢
          clear x0 x1 x2 x3 hEv hbl HQ
          obtain ⟨wo, hwo⟩ : ∃ wo, wo = wr := ⟨_, rfl⟩
          subst hwo
          go_wp2_with fail
          go_loopw [9] (fun k wr => ∃ t : Nat, m + 1 ≤ t ∧ t ≤ len ∧ k = .int .i64 t ∧ ∃ p : Opr, Bx (RO wr w.heap.size vO P w g8 p) ∧ Bx (finO (l.drop t) t p = finO (l.drop (m + 1)) (m + 1) q) ∧ Bx (p.c = c)) (fun k _ => len - (intOf k).toNat)
          case atStart => exact ⟨m + 1, Nat.le_refl _, by omega, by go_num, q, HST0, ⟨rfl⟩, HQC⟩
          case round =>
            clear HST0
            obtain ⟨t, ht1, ht2, rfl, p, HST, HFI, HPC⟩ := hrel
            obtain ⟨k0, k1, k2, k3, k4, k5, k6⟩ := HST.out.cells
            by_cases hgo : t < len ∧ p.d = false
            · obtain ⟨htl, hpd⟩ := hgo
              have htI : (t : Int) < (len : Int) := by omega
              have htL : t < l.length := by rw [HLEN.out]; exact htl
              rw [hpd] at k3
              have hEv := H.out.below HST.out.bel
              obtain ⟨b', off', e, _, z0, z1, z2, z3⟩ := hEv.ev t htl
              cases e
              obtain ⟨_, _, e, _, m0, _⟩ := hEv.ev m hlt
              cases e
              rw [HX.out] at m0
              simp only at m0
              have HDR := Bx.mk (drop_cons l t htL)
              generalize l.getD t ev0 = y at z0 z1 z2 z3 HDR
              obtain ⟨yc, yk, yo, yv⟩ := y
              simp only at z0 z1 z2 z3
              by_cases hyc : yc = c
              · have HF2 : Bx (finO (l.drop (t + 1)) (t + 1) (endO p yv t) = finO (l.drop (m + 1)) (m + 1) q) := ⟨by rw [finO_done rfl, ← HFI.out, HDR.out, finO_hit hpd (by rw [HPC.out]; exact hyc)]⟩
                have hq2 : (yc == c) = true := by simpa using hyc
                have HPE : Bx ((endO p yv t).c = c) := ⟨HPC.out⟩
                clear hyc hpd
                go_wp2_with fail
                go_quiet (fail)
                have HSQ := Bx.mk (HST.out.drewN nq)
                have hz3 : (wr.drewN nq).cell? ⟨b, off + t * 4 + 3, none⟩ = some (.int .i64 yv) := z3
                generalize wr.drewN nq = wq at HSQ hz3 ⊢
                obtain ⟨_, _, _, q3, q4, _, q6⟩ := HSQ.out.cells
                have f3 := frozen_of_row _ g8 3 _ _ HSQ.out.row
                have f4 := frozen_of_row _ g8 4 _ _ HSQ.out.row
                have f6 := frozen_of_row _ g8 6 _ _ HSQ.out.row
                have n1 : (wq.setCell ⟨g8, 3, none⟩ (.bool true)).cell? ⟨b, off + t * 4 + 3, none⟩ = some (.int .i64 yv) := by
                  rw [World.cell?_of_block (a := ⟨b, off + t * 4 + 3, none⟩) (heap_setCell_other wq ⟨g8, 3, none⟩ b _ HGL.out.2.1)]
                  exact hz3
                generalize p.d = pd at q3
                generalize p.r = pr at q4
                generalize p.t = pt at q6
                have HS5 : Bx (RO (((wq.setCell ⟨g8, 3, none⟩ (.bool true)).setCell ⟨g8, 4, none⟩ (.int .i64 yv)).setCell ⟨g8, 6, none⟩ (.int .i64 t)).drew w.heap.size vO P w g8 (endO p yv t)) := ⟨(HSQ.out.fin HGL.out.1 HGL.out.2.2 yv t).drew⟩
                clear HST HSQ k0 k1 k2 k3 k4 k5 k6 hEv z0 z1 z2 z3 m0
                go_wp2_with fail
                go_region
                generalize (((wq.setCell ⟨g8, 3, none⟩ (.bool true)).setCell ⟨g8, 4, none⟩ (.int .i64 yv)).setCell ⟨g8, 6, none⟩ (.int .i64 t)).drew = w5 at HS5 ⊢
                clear q3 q4 q6 f3 f4 f6 n1 hz3
                go_wp2_with fail
                go_roundw
                case rel => exact ⟨t + 1, by omega, by omega, by go_num, endO p yv t, HS5, HF2, HPE⟩
                case measure => simp [intOf]; omega
              · have HF2 : Bx (finO (l.drop (t + 1)) (t + 1) p = finO (l.drop (m + 1)) (m + 1) q) := ⟨by rw [← HFI.out, HDR.out, finO_other (fun _ => by rw [HPC.out]; exact hyc)]⟩
                have hq2 : (yc == c) = false := by simpa using hyc
                clear hyc hpd
                go_wp2_with fail
                go_quiet (fail)
                go_wp2_with fail
                go_roundw
                case rel => exact ⟨t + 1, by omega, by omega, by go_num, p, ⟨HST.out.drewN _⟩, HF2, HPC⟩
                case measure => simp [intOf]; omega
            · have HF3 : Bx (p = finO (l.drop (m + 1)) (m + 1) q) := ⟨by
                rw [← HFI.out]
                cases hpd : p.d with
                | true => rw [finO_done hpd]
                | false => rw [List.drop_of_length_le (by rw [HLEN.out]; have : ¬ t < len := fun h => hgo ⟨h, hpd⟩; omega), finO_nil]⟩
              rw [← HF3.out] at HP2
              have hcond : (¬ (t : Int) < (len : Int)) ∨ ((t : Int) < (len : Int) ∧ p.d = true) := by
                by_cases h1 : t < len
                · refine .inr ⟨by omega, ?_⟩
                  cases hpd : p.d with
                  | true => rfl
                  | false => exact absurd ⟨h1, hpd⟩ hgo
                · exact .inl (by omega)
              have HOW := HST.out.own
              have HBW := Bx.mk HST.out.bel
              have HNB : Bx (w.heap.size ≤ wr.heap.size) := ⟨HBW.out.size⟩
              obtain ⟨pc, po, pa, pd, pr, pf, pt⟩ := p
              simp only at k0 k1 k2 k3 k4 k5 k6 hcond
              have HFM : Bx (P.flatMap orC ++ [.int .i64 pc, .int .i64 po, .int .i64 pa, .bool pd, .int .i64 pr, .int .i64 pf, .int .i64 pt] = (P ++ [(⟨pc, po, pa, pd, pr, pf, pt⟩ : Opr)]).flatMap orC) := ⟨by rw [List.flatMap_append]; rfl⟩
              have HNW := Bx.mk (World.news_of_block (heap_alloc_new wr (.cells #[.int .i64 pc, .int .i64 po, .int .i64 pa, .bool pd, .int .i64 pr, .int .i64 pf, .int .i64 pt] 53)))
              have HOA := Bx.mk (HOW.alloc (.cells #[.int .i64 pc, .int .i64 po, .int .i64 pa, .bool pd, .int .i64 pr, .int .i64 pf, .int .i64 pt] 53))
              have hbA : Below wr.heap.size wr (wr.alloc (.cells #[.int .i64 pc, .int .i64 po, .int .i64 pa, .bool pd, .int .i64 pr, .int .i64 pf, .int .i64 pt] 53)) := (Below.refl _ _).alloc (Nat.le_refl _) _
              have HBA := Bx.mk (bstep HBW.out hbA)
              have HVB : Bx (∀ j, vO.ownBlock = some j → w.heap.size ≤ j) := ⟨fun j hj => (HOW.lt j hj).1⟩
              clear hgo hbA HOW HST HFI HF3 HPC
              rcases hcond with hc | ⟨hc, rfl⟩
              · skip
                go_wp2_with (at_builtin; refine wpList_append_own _ rfl _ _ 45 rfl w.heap.size 53 i0 (.agg #[.int .i64 0, .int .i64 0, .int .i64 0, .bool false, .int .i64 0, .int .i64 0, .int .i64 0]) 7 56 Try.underlying45 hi hz0 hz1 hz2 rfl (by decide) _ P.length (P.flatMap orC) rfl HOA.out ⟨wr.heap.size, 0, none⟩ 1 1 [.int .i64 pc, .int .i64 po, .int .i64 pa, .bool pd, .int .i64 pr, .int .i64 pf, .int .i64 pt] rfl rfl HNW.out (by simp [Value.oneCell']) (by unfold maxLen; omega) (by omega) HBA.out.size ?_)
                intro v4 w4 hown4 hgr4 _
                rw [HFM.out] at hown4
                have HO4 : Bx (w4.ownsRow w.heap.size 53 7 v4 (P ++ [(⟨pc, po, pa, pd, pr, pf, pt⟩ : Opr)]).length ((P ++ [(⟨pc, po, pa, pd, pr, pf, pt⟩ : Opr)]).flatMap orC)) := ⟨by rw [List.length_append]; exact hown4⟩
                have HB4 : Bx (Below w.heap.size w w4) := ⟨HBA.out.grown hgr4 HBA.out.size (fun j hj => HVB.out j hj)⟩
                clear hown4 hgr4 HNW HOA HBA HFM HVB HBW
                go_wp2_with fail
                go_roundw
                case rel => exact ⟨m + 1, by omega, by go_num, P ++ [(⟨pc, po, pa, pd, pr, pf, pt⟩ : Opr)], HP2, by rw [List.length_append, List.length_singleton]; omega, HO4, HB4⟩
                case measure => simp [intOf]; omega
              · skip
                go_wp2_with (at_builtin; refine wpList_append_own _ rfl _ _ 45 rfl w.heap.size 53 i0 (.agg #[.int .i64 0, .int .i64 0, .int .i64 0, .bool false, .int .i64 0, .int .i64 0, .int .i64 0]) 7 56 Try.underlying45 hi hz0 hz1 hz2 rfl (by decide) _ P.length (P.flatMap orC) rfl HOA.out ⟨wr.heap.size, 0, none⟩ 1 1 [.int .i64 pc, .int .i64 po, .int .i64 pa, .bool true, .int .i64 pr, .int .i64 pf, .int .i64 pt] rfl rfl HNW.out (by simp [Value.oneCell']) (by unfold maxLen; omega) (by omega) HBA.out.size ?_)
                intro v4 w4 hown4 hgr4 _
                rw [HFM.out] at hown4
                have HO4 : Bx (w4.ownsRow w.heap.size 53 7 v4 (P ++ [(⟨pc, po, pa, true, pr, pf, pt⟩ : Opr)]).length ((P ++ [(⟨pc, po, pa, true, pr, pf, pt⟩ : Opr)]).flatMap orC)) := ⟨by rw [List.length_append]; exact hown4⟩
                have HB4 : Bx (Below w.heap.size w w4) := ⟨HBA.out.grown hgr4 HBA.out.size (fun j hj => HVB.out j hj)⟩
                clear hown4 hgr4 HNW HOA HBA HFM HVB HBW
                go_wp2_with fail
                go_roundw
                case rel => exact ⟨m + 1, by omega, by go_num, P ++ [(⟨pc, po, pa, true, pr, pf, pt⟩ : Opr)], HP2, by rw [List.length_append, List.length_singleton]; omega, HO4, HB4⟩
                case measure => simp [intOf]; omega
      · have hkI : ¬ (m : Int) < (len : Int) := by omega
        have HF : Bx (P = opsL l) := ⟨by have := HP.out; rw [List.drop_of_length_le (by rw [HLEN.out]; omega)] at this; simpa [refO] using this⟩
        rw [HF.out] at HOW
        go_wp2_with fail
        go_ret2
        exact ⟨_, rfl, HOW.out, HB.out⟩
  · have hq : ((chk l).2 != 0) = true := by simpa using hok
    rw [opV_no hok]
    go_enter Try.func22, Try.ntmps22
    go_wp2_with fail
    refine (refcheck_any a len cap l _ H.out).mono ?_
    rintro e w1 ⟨rfl, hb1⟩
    have HB1 := Bx.mk hb1
    clear hb1
    go_wp2_with fail
    go_ret2
    exact ⟨_, rfl, World.ownsRow_nil _ _ _ _, HB1.out⟩
end Go.Proofs.Ytbapegdmpipllaa
