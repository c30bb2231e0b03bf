/- The document's own: why there is no search, how many tries are enough, what is the same, what is tried, what ends it. -/
import Derived.Test.YtbjeeefkbmdmfaaLinMem
import Derived.Test.YtbjeeefkbmdmfaaRCThr
import Derived.BigQuiet
import Derived.Deep.CutRange
namespace Go.Proofs.Ytbjeeefkbmdmfaa
open Go.RowKit
set_option linter.unusedVariables false

set_option maxHeartbeats 4000000 in
set_option maxRecDepth 100000 in
theorem refcheck18_any (aL a : Option Addr) (nL cL n c : Nat) (l : List Ic) (fu bu : Int) (ops : List Opr) (w : World) (hI : Ics w aL nL cL l) (h : Ors w a n c ops) :
    Calls Try.prog 12 #[.slice aL nL cL, .int .i64 fu, .int .i64 bu, .slice a n c] w fun e w' => e = .returned (.int .i64 (linE l fu bu ops)) ∧ Below w.heap.size w w' := by
  have H := Bx.mk h
  have HI := Bx.mk hI
  have HLEN : Bx (ops.length = n) := ⟨h.len_eq⟩
  have hn := Nat.le_trans h.le_cap h.cap_le
  unfold maxLen at hn
  have HE : Bx (linE l fu bu ops = if (thr l).2.2 ≠ 0 then (thr l).2.2 else if fu < 0 ∨ 10000 < fu ∨ bu < 0 ∨ 1073741824 < bu then 2 else if 64 < ops.length then 5 else if (List.range ops.length).any (fun i => befO (opN ops i) (opN ops i)) = true then 17 else 0) := ⟨rfl⟩
  obtain ⟨R, HR⟩ : ∃ R, Bx (linE l fu bu ops = R) := ⟨_, ⟨rfl⟩⟩
  rw [HR.out] at HE ⊢
  clear h hI HR
  go_enter Try.func12, Try.ntmps12
  go_wp2_with fail
  refine (refcheck15_any aL nL cL l _ HI.out).mono ?_
  rintro e w1 ⟨rfl, hb1⟩
  have HB1 := Bx.mk hb1
  clear hb1
  generalize (thr l).2.1 = p1
  by_cases hok : (thr l).2.2 = 0
  · rw [if_neg (fun k => k hok)] at HE
    rw [hok]
    clear hok
    by_cases hf1 : fu < 0
    · have HF : Bx (R = 2) := ⟨by rw [HE.out, if_pos (.inl hf1)]⟩
      have hd : decide (fu < 0) = true := decide_eq_true hf1
      clear hf1
      go_wp2_with fail
      go_ret
      exact ⟨by rw [HF.out]; rfl, HB1.out⟩
    have hd1 : decide (fu < 0) = false := decide_eq_false hf1
    by_cases hf2 : 10000 < fu
    · have HF : Bx (R = 2) := ⟨by rw [HE.out, if_pos (.inr (.inl hf2))]⟩
      have hd : decide (10000 < fu) = true := decide_eq_true hf2
      clear hf1 hf2
      go_wp2_with fail
      go_ret
      exact ⟨by rw [HF.out]; rfl, HB1.out⟩
    have hd2 : decide (10000 < fu) = false := decide_eq_false hf2
    by_cases hf3 : bu < 0
    · have HF : Bx (R = 2) := ⟨by rw [HE.out, if_pos (.inr (.inr (.inl hf3)))]⟩
      have hd : decide (bu < 0) = true := decide_eq_true hf3
      clear hf1 hf2 hf3
      go_wp2_with fail
      go_ret
      exact ⟨by rw [HF.out]; rfl, HB1.out⟩
    have hd3 : decide (bu < 0) = false := decide_eq_false hf3
    by_cases hf4 : 1073741824 < bu
    · have HF : Bx (R = 2) := ⟨by rw [HE.out, if_pos (.inr (.inr (.inr hf4)))]⟩
      have hd : decide (1073741824 < bu) = true := decide_eq_true hf4
      clear hf1 hf2 hf3 hf4
      go_wp2_with fail
      go_ret
      exact ⟨by rw [HF.out]; rfl, HB1.out⟩
    have hd4 : decide (1073741824 < bu) = false := decide_eq_false hf4
    rw [if_neg (by omega), HLEN.out] at HE
    clear hf1 hf2 hf3 hf4
    by_cases hf5 : 64 < n
    · have HF : Bx (R = 5) := ⟨by rw [HE.out, if_pos hf5]⟩
      have hf5I : (64 : Int) < (n : Int) := by omega
      go_wp2_with fail
      go_ret
      exact ⟨by rw [HF.out]; rfl, HB1.out⟩
    have hf5I : ¬ (64 : Int) < (n : Int) := by omega
    rw [if_neg hf5] at HE
    go_wp2_with fail
    go_loopw [11] (fun i wr => ∃ k : Nat, k ≤ n ∧ i = .int .i64 k ∧ Bx (∀ j, j < k → befO (opN ops j) (opN ops j) = false) ∧ Bx (Below w.heap.size w wr)) (fun i _ => n - (intOf i).toNat)
    case atStart => exact ⟨0, Nat.zero_le _, rfl, ⟨fun j hj => absurd hj (Nat.not_lt_zero _)⟩, HB1⟩
    case round =>
      clear HB1
      obtain ⟨k, hk0, rfl, HA, HB⟩ := hrel
      by_cases hlt : k < n
      · have hkI : (k : Int) < (n : Int) := by omega
        have HKL : Bx (k < ops.length) := ⟨by rw [HLEN.out]; exact hlt⟩
        obtain ⟨b2, o2, rfl, _, _⟩ := H.out.spot (by omega)
        obtain ⟨X, HXE⟩ : ∃ X, Bx (ops.getD k op0 = X) := ⟨_, ⟨rfl⟩⟩
        obtain ⟨t, HBF⟩ : ∃ t, Bx (befO X X = t) := ⟨_, ⟨rfl⟩⟩
        have HBT : Bx (befO (opN ops k) (opN ops k) = t) := ⟨by unfold opN; rw [HXE.out]; exact HBF.out⟩
        obtain ⟨Qt, HQ0⟩ : ∃ Qt : World → Prop, Bx (Qt = fun W => Ors W (some ⟨b2, o2, none⟩) n c ops) := ⟨_, ⟨rfl⟩⟩
        have HQT : Bx (∀ W, Qt W → Ors W (some ⟨b2, o2, none⟩) n c ops) := ⟨fun W h => by rw [HQ0.out] at h; exact h⟩
        have HHK : Bx (HX Qt w wr.drew) := ⟨⟨HB.out.drew, by rw [HQ0.out]; exact up_ors', by rw [HQ0.out]; exact H.out.below HB.out.drew⟩⟩
        clear HQ0
        go_upto_region 11 with fail
        have hk := HHK.out
        clear HHK HB
        refine wp_region_held_drew (S := fun W => HX Qt w W) (by kernel_rfl) hk (fun _ => ?_)
        generalize wr.drew = wk at hk ⊢
        refine wpAnyH_take (i := 0) (oi := { dst := some 43, op := Op.move (Operand.tmp 3), type := 23, pos := "ref.go:48", after := #[], guard := none }) (v := ?vrlc111) rfl (by kernel_rfl) (by kernel_rfl) (by kernel_rfl) (fun _ _ _ h => h) (Or.inl ⟨by rfl, ?yrlc111⟩) hk ?rrlc111
        case yrlc111 => (intro w hSw; (try dsimp only at hSw); go_simp; first | done | with_reducible rfl)
        simp only [Act.put, List.setIfInBounds_toArray, List.set_cons_zero, List.set_cons_succ]
        refine wpAnyH_take (i := 1) (oi := { dst := some 44, op := Op.move (Operand.tmp 11), type := 3, pos := "ref.go:48", after := #[], guard := none }) (v := ?vrlc112) rfl (by kernel_rfl) (by kernel_rfl) (by kernel_rfl) (fun _ _ _ h => h) (Or.inl ⟨by rfl, ?yrlc112⟩) hk ?rrlc112
        case yrlc112 => (intro w hSw; (try dsimp only at hSw); go_simp; first | done | with_reducible rfl)
        simp only [Act.put, List.setIfInBounds_toArray, List.set_cons_zero, List.set_cons_succ]
        refine wpAnyH_take (i := 2) (oi := { dst := some 45, op := Op.indexAddr 23 (Operand.tmp 43) (Operand.tmp 44), type := 0, pos := "ref.go:48", after := #[{ on := 0, ground := Ground.data }, { on := 1, ground := Ground.data }], guard := none }) (v := ?vrlc113) rfl (by kernel_rfl) (by kernel_rfl) (by kernel_rfl) (fun _ _ _ h => h) (Or.inl ⟨by rfl, ?yrlc113⟩) hk ?rrlc113
        case yrlc113 => (intro w hSw; (try dsimp only at hSw); go_simp; first | done | with_reducible rfl)
        simp only [Act.put, List.setIfInBounds_toArray, List.set_cons_zero, List.set_cons_succ]
        refine wpAnyH_take (i := 3) (oi := { dst := some 46, op := Op.load 35 (Operand.tmp 45), type := 35, pos := "ref.go:48", after := #[{ on := 2, ground := Ground.data }], guard := none }) (v := .agg #[.int .i64 X.c, .int .i64 X.o, .int .i64 X.a, .bool X.d, .int .i64 X.r, .int .i64 X.f, .int .i64 X.t]) rfl (by kernel_rfl) (by kernel_rfl) (by kernel_rfl) (fun _ _ _ h => h) (Or.inl ⟨by rfl, ?yrlc114⟩) hk ?rrlc114
        case yrlc114 => (intro w hSw; obtain ⟨q0, q1, q2, q3, q4, q5, q6⟩ := or_spot (HQT.out _ hSw.q) k hlt HXE.out; clear hSw; go_simp; first | done | with_reducible rfl)
        simp only [Act.put, List.setIfInBounds_toArray, List.set_cons_zero, List.set_cons_succ]
        refine wpAnyH_take (i := 4) (oi := { dst := some 47, op := Op.move (Operand.tmp 3), type := 23, pos := "ref.go:48", after := #[], guard := none }) (v := ?vrlc115) rfl (by kernel_rfl) (by kernel_rfl) (by kernel_rfl) (fun _ _ _ h => h) (Or.inl ⟨by rfl, ?yrlc115⟩) hk ?rrlc115
        case yrlc115 => (intro w hSw; (try dsimp only at hSw); go_simp; first | done | with_reducible rfl)
        simp only [Act.put, List.setIfInBounds_toArray, List.set_cons_zero, List.set_cons_succ]
        refine wpAnyH_take (i := 5) (oi := { dst := some 48, op := Op.move (Operand.tmp 11), type := 3, pos := "ref.go:48", after := #[], guard := none }) (v := ?vrlc116) rfl (by kernel_rfl) (by kernel_rfl) (by kernel_rfl) (fun _ _ _ h => h) (Or.inl ⟨by rfl, ?yrlc116⟩) hk ?rrlc116
        case yrlc116 => (intro w hSw; (try dsimp only at hSw); go_simp; first | done | with_reducible rfl)
        simp only [Act.put, List.setIfInBounds_toArray, List.set_cons_zero, List.set_cons_succ]
        refine wpAnyH_take (i := 6) (oi := { dst := some 49, op := Op.indexAddr 23 (Operand.tmp 47) (Operand.tmp 48), type := 0, pos := "ref.go:48", after := #[{ on := 4, ground := Ground.data }, { on := 5, ground := Ground.data }], guard := none }) (v := ?vrlc117) rfl (by kernel_rfl) (by kernel_rfl) (by kernel_rfl) (fun _ _ _ h => h) (Or.inl ⟨by rfl, ?yrlc117⟩) hk ?rrlc117
        case yrlc117 => (intro w hSw; (try dsimp only at hSw); go_simp; first | done | with_reducible rfl)
        simp only [Act.put, List.setIfInBounds_toArray, List.set_cons_zero, List.set_cons_succ]
        refine wpAnyH_take (i := 7) (oi := { dst := some 50, op := Op.load 35 (Operand.tmp 49), type := 35, pos := "ref.go:48", after := #[{ on := 6, ground := Ground.data }], guard := none }) (v := .agg #[.int .i64 X.c, .int .i64 X.o, .int .i64 X.a, .bool X.d, .int .i64 X.r, .int .i64 X.f, .int .i64 X.t]) rfl (by kernel_rfl) (by kernel_rfl) (by kernel_rfl) (fun _ _ _ h => h) (Or.inl ⟨by rfl, ?yrlc118⟩) hk ?rrlc118
        case yrlc118 => (intro w hSw; obtain ⟨q0, q1, q2, q3, q4, q5, q6⟩ := or_spot (HQT.out _ hSw.q) k hlt HXE.out; clear hSw; go_simp; first | done | with_reducible rfl)
        simp only [Act.put, List.setIfInBounds_toArray, List.set_cons_zero, List.set_cons_succ]
        refine wpAnyH_ready (rs := [8]) (by decide +kernel) (by simp) ?_
        refine AllReadyH.cons (o := { dst := some 51, op := Op.call { callee := Callee.value (Operand.func 37), args := #[Operand.tmp 46, Operand.tmp 50], argTypes := #[35, 35] }, type := 4, pos := "ref.go:48", after := #[{ on := 3, ground := Ground.data }, { on := 7, ground := Ground.data }], guard := none }) rfl (fun K hK => ?_) AllReadyH.nil
        go_simp
        refine (refbefore_any X X _).mono ?_
        rintro e1 wk ⟨rfl, hb1⟩
        rw [HBF.out]
        replace hk := hk.step hb1
        clear hb1
        refine hK.out _ _ hk (fun _ => ?_)
        clear hK K
        try simp only [Act.put, List.setIfInBounds_toArray, List.set_cons_zero, List.set_cons_succ]
        refine wpAnyH_done (by decide +kernel) ?_ _
        have HB8 := Bx.mk hk.low
        clear hk
        cases t with
        | true =>
          have HF : Bx (R = 17) := ⟨by rw [HE.out, if_pos (by rw [← HLEN.out]; exact lin_bad HKL.out HBT.out)]⟩
          go_wp2_with fail
          go_ret
          exact ⟨by rw [HF.out]; rfl, HB8.out⟩
        | false =>
          have HA2 : Bx (∀ j, j < k + 1 → befO (opN ops j) (opN ops j) = false) := ⟨fun j hj => by
            by_cases e : j = k
            · subst e; exact HBT.out
            · exact HA.out j (by omega)⟩
          go_wp2_with fail
          go_roundw
          case rel => exact ⟨k + 1, by omega, by go_num, HA2, HB8⟩
          case measure => simp [intOf]; omega
      · have hkI : ¬ (k : Int) < (n : Int) := by omega
        have HF : Bx (R = 0) := ⟨by rw [HE.out, ← HLEN.out, if_neg (by rw [lin_good fun i hi => HA.out i (by rw [HLEN.out] at hi; omega)]; decide)]⟩
        go_wp2_with fail
        go_ret
        exact ⟨by rw [HF.out]; rfl, HB.out⟩
  · have HF : Bx (R = (thr l).2.2) := ⟨by rw [HE.out, if_pos hok]⟩
    have hq : ((thr l).2.2 != 0) = true := by simpa using hok
    obtain ⟨er, HER⟩ : ∃ er, Bx ((thr l).2.2 = er) := ⟨_, ⟨rfl⟩⟩
    rw [HER.out] at hq HF ⊢
    clear hok
    go_wp2_with fail
    go_ret
    exact ⟨by rw [HF.out]; rfl, HB1.out⟩
end Go.Proofs.Ytbjeeefkbmdmfaa
