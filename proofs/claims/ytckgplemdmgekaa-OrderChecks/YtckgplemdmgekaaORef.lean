/- What the document's own Check answers. -/
import Derived.Test.YtckgplemdmgekaaORDoes
import Derived.Test.YtckgplemdmgekaaRCThr
import Derived.BigQuiet
namespace Go.Proofs.Ytckgplemdmgekaa
open Go.RowKit
set_option linter.unusedVariables false

set_option maxRecDepth 100000 in
theorem count_snoc {L : List Int} {k : Nat} (h : k < L.length) (x : Int) : (L.take (k + 1)).count x = (L.take k).count x + if L.getD k 0 = x then 1 else 0 := by
  rw [take_iv L k h, List.count_append, List.count_singleton]
  by_cases e : L.getD k 0 = x
  · rw [if_pos e, if_pos (by simpa using e)]
  · rw [if_neg e, if_neg (by simpa using e)]
set_option maxRecDepth 100000 in
theorem count_le (L : List Int) (k : Nat) (x : Int) : (L.take k).count x ≤ k := Nat.le_trans List.count_le_length (by rw [List.length_take]; omega)
set_option maxRecDepth 100000 in
theorem count_has (L : List Int) (x : Int) : L.contains x = decide (0 < L.count x) := by
  rw [List.contains_eq_mem, decide_eq_decide]; exact List.count_pos_iff.symm
set_option maxHeartbeats 4000000 in
set_option maxRecDepth 100000 in
theorem count17_any (a : Option Addr) (n c : Nat) (L : List Int) (x : Int) (w : World) (h : Ivs w a n c L) :
    Calls Try.prog 24 #[.slice a n c, .int .i64 x] w fun e w' => e = .returned (.int .i64 (L.count x : Nat)) ∧ w' = w := by
  have H := Bx.mk h
  have HLEN : Bx (L.length = n) := ⟨h.len_eq⟩
  have hm := Nat.le_trans h.le_cap h.cap_le
  unfold maxLen at hm
  clear h
  go_enter Try.func24, Try.ntmps24
  go_wp2_with fail
  go_loop [5, 6] (fun p i => ∃ m q : Nat, m ≤ n ∧ q ≤ m ∧ i = .int .i64 m ∧ p = .int .i64 q ∧ Bx (q = (L.take m).count x)) (fun _ i => n - (intOf i).toNat)
  case atStart => exact ⟨0, 0, Nat.zero_le _, Nat.zero_le _, rfl, rfl, ⟨rfl⟩⟩
  case round =>
    obtain ⟨m, q, hmn, hqm, rfl, rfl, HQ⟩ := hrel
    by_cases hlt : m < n
    · have hkI : (m : Int) < (n : Int) := by omega
      have hmL : m < L.length := by rw [HLEN.out]; omega
      obtain ⟨b, off, rfl, hbl, x0⟩ := H.out.iv m (by omega) 0
      have HCN := Bx.mk (count_snoc hmL x)
      rw [← HQ.out] at HCN
      generalize L.getD m 0 = y at x0 HCN
      by_cases hxy : y = x
      · have hq : (y == x) = true := by simpa using hxy
        rw [if_pos hxy] at HCN
        clear hxy
        go_wp2_with fail
        go_round
        case rel => exact ⟨m + 1, q + 1, by omega, by omega, by go_num, by go_num, ⟨HCN.out.symm⟩⟩
        case measure => simp [intOf]; omega
      · have hq : (y == x) = false := by simpa using hxy
        rw [if_neg hxy] at HCN
        clear hxy
        go_wp2_with fail
        go_round
        case rel => exact ⟨m + 1, q, by omega, by omega, by go_num, by go_num, ⟨HCN.out.symm⟩⟩
        case measure => simp [intOf]; omega
    · have hkI : ¬ (m : Int) < (n : Int) := by omega
      have HF : Bx (q = L.count x) := ⟨by rw [HQ.out, List.take_of_length_le (by rw [HLEN.out]; omega)]⟩
      go_wp2_with fail
      go_ret
      exact ⟨by rw [← HF.out]; rfl, rfl⟩
set_option maxHeartbeats 4000000 in
set_option maxRecDepth 100000 in
theorem refcheck17_any (aL a b : Option Addr) (nL cL n c m d : Nat) (l : List Ic) (fu : Int) (ops : List Opr) (o : List Int) (w : World) (hI : Ics w aL nL cL l) (hl : IcsK l) (hf : V64 fu) (h : Ors w a n c ops) (hO : OrsK ops) (h2 : Ivs w b m d o) :
    Calls Try.prog 11 #[.slice aL nL cL, .int .i64 fu, .slice a n c, .slice b m d] w fun e w' => e = .returned (.int .i64 (ordE l fu ops o)) ∧ Below w.heap.size w w' := by
  have H := Bx.mk h
  have H2 := Bx.mk h2
  have HI := Bx.mk hI
  have HL := Bx.mk hl
  have HOR := Bx.mk hO
  have HFU := Bx.mk hf
  have HLEN : Bx (ops.length = n) := ⟨h.len_eq⟩
  have HLO : Bx (o.length = m) := ⟨h2.len_eq⟩
  have hn := Nat.le_trans h.le_cap h.cap_le
  have hm := Nat.le_trans h2.le_cap h2.cap_le
  have hmd := h2.le_cap
  unfold maxLen at hn hm
  have HE : Bx (ordE l fu ops o = if (thr l).2.2 ≠ 0 then (thr l).2.2 else if fu < 0 ∨ 10000 < fu then 2 else if 64 < ops.length then 5 else if ordA ops.length o = false then 2 else if ordN ops o = true then 9 else if ordT ops o = true then 17 else doesF l fu ops o Z4) := ⟨rfl⟩
  obtain ⟨R, HR⟩ : ∃ R, Bx (ordE l fu ops o = R) := ⟨_, ⟨rfl⟩⟩
  rw [HR.out] at HE ⊢
  clear h h2 hI hl hO hf HR
  go_enter Try.func11, Try.ntmps11
  go_wp2_with fail
  refine (refcheck15_any aL nL cL l _ HI.out).mono ?_
  rintro e w1 ⟨rfl, hb1⟩
  have HB1 := Bx.mk hb1
  clear hb1
  generalize (thr l).2.1 = p1
  by_cases hok : (thr l).2.2 = 0
  · have HOK := Bx.mk hok
    rw [if_neg (fun k => k hok)] at HE
    rw [hok]
    clear hok
    by_cases hf1 : fu < 0
    · have HF : Bx (R = 2) := ⟨by rw [HE.out, if_pos (.inl hf1)]⟩
      go_wp2_with fail
      go_ret
      exact ⟨by rw [HF.out]; rfl, HB1.out⟩
    have hf1d : decide (fu < 0) = false := by simpa using hf1
    by_cases hf2 : 10000 < fu
    · have HF : Bx (R = 2) := ⟨by rw [HE.out, if_pos (.inr hf2)]⟩
      go_wp2_with fail
      go_ret
      exact ⟨by rw [HF.out]; rfl, HB1.out⟩
    have hf2d : decide (10000 < fu) = false := by simpa using hf2
    rw [if_neg (by omega)] at HE
    by_cases hf3 : 64 < n
    · have HF : Bx (R = 5) := ⟨by rw [HE.out, if_pos (by rw [HLEN.out]; exact hf3)]⟩
      have hf3I : (64 : Int) < (n : Int) := by omega
      go_wp2_with fail
      go_ret
      exact ⟨by rw [HF.out]; rfl, HB1.out⟩
    have hf3I : ¬ (64 : Int) < (n : Int) := by omega
    rw [if_neg (by rw [HLEN.out]; exact hf3), HLEN.out] at HE
    go_wp2_with fail
    go_loopw [11] (fun i wr => ∃ k : Nat, k ≤ m ∧ i = .int .i64 k ∧ Bx ((List.range k).all (okN n o) = true) ∧ Bx (Below w.heap.size w wr)) (fun i _ => m - (intOf i).toNat)
    case atStart => exact ⟨0, Nat.zero_le _, rfl, ⟨rfl⟩, HB1⟩
    case round =>
      clear HB1
      obtain ⟨k, hk, rfl, HOKA, HB⟩ := hrel
      by_cases hlt : k < m
      · have hkI : (k : Int) < (m : Int) := by omega
        have hmL : k < o.length := by rw [HLO.out]; exact hlt
        obtain ⟨b1, off, rfl, _, x0⟩ := (H2.out.below HB.out).iv k hlt 0
        have HBAD : Bx (okN n o k = false → ordA n o = false) := ⟨ordA_bad hmL⟩
        have HOKN : Bx (okN n o k = (decide (0 ≤ o.getD k 0) && decide (o.getD k 0 < (n : Int)) && !(o.take k).contains (o.getD k 0))) := ⟨rfl⟩
        generalize o.getD k 0 = x at x0 HOKN
        by_cases hx1 : x < 0
        · have HF : Bx (R = 2) := ⟨by rw [HE.out, if_pos (HBAD.out (by rw [HOKN.out, decide_eq_false (by omega)]; rfl))]⟩
          have hd1 : decide (x < 0) = true := by simpa using hx1
          go_wp2_with fail
          go_quiet (fail)
          go_wp2_with fail
          go_ret
          exact ⟨by rw [HF.out]; rfl, below_drewN HB.out _⟩
        · have hd1 : decide (x < 0) = false := by simpa using hx1
          by_cases hx2 : (n : Int) ≤ x
          · have HF : Bx (R = 2) := ⟨by rw [HE.out, if_pos (HBAD.out (by rw [HOKN.out, decide_eq_false (show ¬ (x < (n : Int)) by omega), Bool.and_false]; rfl))]⟩
            have hd2 : decide ((n : Int) ≤ x) = true := by simpa using hx2
            clear hx1 hx2
            go_wp2_with fail
            go_quiet (fail)
            go_wp2_with fail
            go_ret
            exact ⟨by rw [HF.out]; rfl, below_drewN HB.out _⟩
          · have hd2 : decide ((n : Int) ≤ x) = false := by simpa using hx2
            have hsl := ivs_cut b1 off m d k (by omega)
            have HT := Bx.mk ((H2.out.below HB.out).take k (by omega))
            have HCT : Bx (∀ q, Calls Try.prog 24 #[.slice (some ⟨b1, off, none⟩) k d, .int .i64 x] (wr.drewN q) fun e w' => e = .returned (.int .i64 ((o.take k).count x : Nat)) ∧ w' = wr.drewN q) := ⟨fun q => count17_any _ _ _ _ _ _ (HT.out.drewN q)⟩
            have HCH := Bx.mk (count_has (o.take k) x)
            have HX12 : Bx (0 ≤ x ∧ x < (n : Int)) := ⟨by omega⟩
            generalize (o.take k).count x = cn at HCT HCH
            clear hx1 hx2
            by_cases hcn : 0 < cn
            · have HF : Bx (R = 2) := ⟨by rw [HE.out, if_pos (HBAD.out (by rw [HOKN.out, HCH.out, decide_eq_true hcn]; simp))]⟩
              have hcI : decide ((0 : Int) < (cn : Int)) = true := decide_eq_true (by omega)
              have hcJ : decide (0 < cn) = true := decide_eq_true hcn
              go_wp2_with fail
              go_quiet ((go_at_call 24; exact Calls.quiet_of_same (HCT.out _)))
              go_wp2_with fail
              go_ret
              exact ⟨by rw [HF.out]; rfl, below_drewN HB.out _⟩
            · have HOK2 : Bx ((List.range (k + 1)).all (okN n o) = true) := ⟨all_snoc HOKA.out (by rw [HOKN.out, HCH.out, decide_eq_false hcn, decide_eq_true HX12.out.1, decide_eq_true HX12.out.2]; rfl)⟩
              obtain rfl : cn = 0 := by omega
              clear hcn
              go_wp2_with fail
              go_quiet ((go_at_call 24; exact Calls.quiet_of_same (HCT.out _)))
              go_wp2_with fail
              go_roundw
              case rel => exact ⟨k + 1, by omega, by go_num, HOK2, ⟨below_drewN HB.out _⟩⟩
              case measure => simp [intOf]; omega
      · have hkI : ¬ (k : Int) < (m : Int) := by omega
        have HA : Bx (ordA n o = true) := ⟨by
          have hml2 : k = o.length := by rw [HLO.out]; omega
          unfold ordA; rw [← hml2]; exact HOKA.out⟩
        have HPL : Bx (PlN ops.length o) := ⟨by rw [HLEN.out]; exact pln_of HA.out⟩
        rw [if_neg (by rw [HA.out]; decide)] at HE
        clear HOKA HA
        go_wp2_with fail
        go_loopw [12] (fun i wr => ∃ k : Nat, k ≤ n ∧ i = .int .i64 k ∧ Bx (∀ j, j < k → (ops.getD j op0).d = true → o.contains (j : Int) = true) ∧ Bx (Below w.heap.size w wr)) (fun i _ => n - (intOf i).toNat)
        case atStart => exact ⟨0, Nat.zero_le _, rfl, ⟨fun j hj => absurd hj (Nat.not_lt_zero _)⟩, HB⟩
        case round =>
          clear HB
          obtain ⟨k, hk, rfl, HA, HB⟩ := hrel
          by_cases hlt : k < n
          · have hkI : (k : Int) < (n : Int) := by omega
            have HKL : Bx (k < ops.length) := ⟨by rw [HLEN.out]; exact hlt⟩
            obtain ⟨b1, o1, rfl, _, _, _, _, x3, _, _, _⟩ := (H.out.below HB.out).or k hlt
            obtain ⟨X, HXE⟩ : ∃ X, Bx (ops.getD k op0 = X) := ⟨_, ⟨rfl⟩⟩
            rw [HXE.out] at x3
            obtain ⟨xc, xo, xa, xd, xr, xf, xt⟩ := X
            simp only at x3
            cases xd with
            | false =>
              have HA2 : Bx (∀ j, j < k + 1 → (ops.getD j op0).d = true → o.contains (j : Int) = true) := ⟨fun j hj hd => by
                by_cases e : j = k
                · subst e; rw [HXE.out] at hd; cases hd
                · exact HA.out j (by omega) hd⟩
              go_wp2_with fail
              go_roundw
              case rel => exact ⟨k + 1, by omega, by go_num, HA2, HB⟩
              case measure => simp [intOf]; omega
            | true =>
              have HI2 := Bx.mk (H2.out.below HB.out)
              have HCH := Bx.mk (count_has o (k : Int))
              go_wp2_with fail
              refine (count17_any b m d o (k : Int) _ HI2.out).mono ?_
              rintro e w2 ⟨rfl, hw2⟩
              subst hw2
              generalize o.count (k : Int) = cn at HCH ⊢
              by_cases hcn : 0 < cn
              · have hcI : ((cn : Int) == 0) = false := beq_false_of_ne (by omega)
                have HA2 : Bx (∀ j, j < k + 1 → (ops.getD j op0).d = true → o.contains (j : Int) = true) := ⟨fun j hj hd => by
                  by_cases e : j = k
                  · subst e; rw [HCH.out]; exact decide_eq_true hcn
                  · exact HA.out j (by omega) hd⟩
                go_wp2_with fail
                go_roundw
                case rel => exact ⟨k + 1, by omega, by go_num, HA2, HB⟩
                case measure => simp [intOf]; omega
              · obtain rfl : cn = 0 := by omega
                have HF : Bx (R = 9) := ⟨by rw [HE.out, if_pos (ordN_yes HKL.out (by rw [HXE.out]) (by rw [HCH.out]; rfl))]⟩
                go_wp2_with fail
                go_ret
                exact ⟨by rw [HF.out]; rfl, HB.out⟩
          · have hkI : ¬ (k : Int) < (n : Int) := by omega
            have HN : Bx (ordN ops o = false) := ⟨ordN_no fun i hi hd => HA.out i (by rw [HLEN.out] at hi; omega) hd⟩
            rw [if_neg (by rw [HN.out]; decide)] at HE
            clear HA HN
            go_wp2_with fail
            go_loopw [13] (fun i wr => ∃ k : Nat, k ≤ m ∧ i = .int .i64 k ∧ Bx (∀ i j, i < k → i < j → j < m → befO (opAt ops (o.getD j 0)) (opAt ops (o.getD i 0)) = false) ∧ Bx (Below w.heap.size w wr)) (fun i _ => m - (intOf i).toNat)
            case atStart => exact ⟨0, Nat.zero_le _, rfl, ⟨fun i j hi => absurd hi (Nat.not_lt_zero _)⟩, HB⟩
            case round =>
              clear HB
              obtain ⟨k, hk, rfl, HA, HB⟩ := hrel
              by_cases hlt : k < m
              · have hkI : (k : Int) < (m : Int) := by omega
                have HKL : Bx (k < o.length) := ⟨by rw [HLO.out]; exact hlt⟩
                obtain ⟨r, hre, hrl⟩ := HPL.out.nat HKL.out
                have HRE := Bx.mk hre
                have hrn : r < n := by rw [← HLEN.out]; exact hrl
                have hrI : (r : Int) < (n : Int) := by omega
                clear hre hrl
                go_wp2_with fail
                go_loopw [14] (fun i wr => ∃ q : Nat, q ≤ m ∧ k < q ∧ i = .int .i64 q ∧ Bx (∀ j, k < j → j < q → befO (opAt ops (o.getD j 0)) (opAt ops (r : Int)) = false) ∧ Bx (Below w.heap.size w wr)) (fun i _ => m - (intOf i).toNat)
                case atStart => exact ⟨k + 1, by omega, by omega, by go_num, ⟨fun j h1 h2 => by omega⟩, HB⟩
                case round =>
                  clear HB
                  obtain ⟨q, hq, hkq, rfl, HQA, HB⟩ := hrel
                  by_cases hqk : q < m
                  · have hqI : (q : Int) < (m : Int) := by omega
                    have HQL : Bx (q < o.length) := ⟨by rw [HLO.out]; exact hqk⟩
                    obtain ⟨p, hpe, hpl⟩ := HPL.out.nat HQL.out
                    have HPE := Bx.mk hpe
                    have hpn : p < n := by rw [← HLEN.out]; exact hpl
                    have hpI : (p : Int) < (n : Int) := by omega
                    obtain ⟨b1, o1, rfl, _⟩ := H2.out.spot (by omega)
                    obtain ⟨b2, o2, rfl, _⟩ := H.out.spot (by omega)
                    obtain ⟨X, HXE⟩ : ∃ X, Bx (ops.getD p op0 = X) := ⟨_, ⟨rfl⟩⟩
                    obtain ⟨Y, HYE⟩ : ∃ Y, Bx (ops.getD r op0 = Y) := ⟨_, ⟨rfl⟩⟩
                    obtain ⟨t, HBF⟩ : ∃ t, Bx (befO X Y = t) := ⟨_, ⟨rfl⟩⟩
                    have HBT : Bx (befO (opAt ops (o.getD q 0)) (opAt ops (r : Int)) = t) := ⟨by rw [HPE.out, opAt_nat, opAt_nat, HXE.out, HYE.out, HBF.out]⟩
                    obtain ⟨Qt, HQ0⟩ : ∃ Qt : World → Prop, Bx (Qt = fun W => Ors W (some ⟨b2, o2, none⟩) n c ops ∧ Ivs W (some ⟨b1, o1, none⟩) m d o) := ⟨_, ⟨rfl⟩⟩
                    have HQT : Bx (∀ W, Qt W → Ors W (some ⟨b2, o2, none⟩) n c ops ∧ Ivs W (some ⟨b1, o1, none⟩) m d o) := ⟨fun W h => by rw [HQ0.out] at h; exact h⟩
                    have HHK : Bx (HX Qt w wr.drew) := ⟨⟨HB.out.drew, by rw [HQ0.out]; exact up_ors.and (fun W W' h hb => h.below hb), by rw [HQ0.out]; exact ⟨H.out.below HB.out.drew, H2.out.below HB.out.drew⟩⟩⟩
                    clear HQ0 hpe hpl
                    go_upto_region 24 with fail
                    have hk := HHK.out
                    clear HHK HB
                    refine wp_region_held_drew (S := fun W => HX Qt w W) (by kernel_rfl) hk (fun _ => ?_)
                    generalize wr.drew = wk at hk ⊢
                    refine wpAnyH_take (i := 0) (oi := { dst := some 94, op := Op.move (Operand.tmp 2), type := 23, pos := "ref.go:57", after := #[], guard := none }) (v := ?vorf241) rfl (by kernel_rfl) (by kernel_rfl) (by kernel_rfl) (fun _ _ _ h => h) (Or.inl ⟨by rfl, ?yorf241⟩) hk ?rorf241
                    case yorf241 => (intro w hSw; (try dsimp only at hSw); go_simp; first | done | with_reducible rfl)
                    simp only [Act.put, List.setIfInBounds_toArray, List.set_cons_zero, List.set_cons_succ]
                    refine wpAnyH_take (i := 1) (oi := { dst := some 95, op := Op.move (Operand.tmp 3), type := 24, pos := "ref.go:57", after := #[], guard := none }) (v := ?vorf242) rfl (by kernel_rfl) (by kernel_rfl) (by kernel_rfl) (fun _ _ _ h => h) (Or.inl ⟨by rfl, ?yorf242⟩) hk ?rorf242
                    case yorf242 => (intro w hSw; (try dsimp only at hSw); go_simp; first | done | with_reducible rfl)
                    simp only [Act.put, List.setIfInBounds_toArray, List.set_cons_zero, List.set_cons_succ]
                    refine wpAnyH_take (i := 2) (oi := { dst := some 96, op := Op.move (Operand.tmp 14), type := 3, pos := "ref.go:57", after := #[], guard := none }) (v := ?vorf243) rfl (by kernel_rfl) (by kernel_rfl) (by kernel_rfl) (fun _ _ _ h => h) (Or.inl ⟨by rfl, ?yorf243⟩) hk ?rorf243
                    case yorf243 => (intro w hSw; (try dsimp only at hSw); go_simp; first | done | with_reducible rfl)
                    simp only [Act.put, List.setIfInBounds_toArray, List.set_cons_zero, List.set_cons_succ]
                    refine wpAnyH_take (i := 3) (oi := { dst := some 97, op := Op.indexAddr 24 (Operand.tmp 95) (Operand.tmp 96), type := 0, pos := "ref.go:57", after := #[{ on := 1, ground := Ground.data }, { on := 2, ground := Ground.data }], guard := none }) (v := ?vorf244) rfl (by kernel_rfl) (by kernel_rfl) (by kernel_rfl) (fun _ _ _ h => h) (Or.inl ⟨by rfl, ?yorf244⟩) hk ?rorf244
                    case yorf244 => (intro w hSw; (try dsimp only at hSw); go_simp; first | done | with_reducible rfl)
                    simp only [Act.put, List.setIfInBounds_toArray, List.set_cons_zero, List.set_cons_succ]
                    refine wpAnyH_take (i := 4) (oi := { dst := some 98, op := Op.load 3 (Operand.tmp 97), type := 3, pos := "ref.go:57", after := #[{ on := 3, ground := Ground.data }], guard := none }) (v := ?vorf245) rfl (by kernel_rfl) (by kernel_rfl) (by kernel_rfl) (fun _ _ _ h => h) (Or.inl ⟨by rfl, ?yorf245⟩) hk ?rorf245
                    case yorf245 => (intro w hSw; have hcw := iv_cell (HQT.out _ hSw.q).2 q hqk HPE.out; clear hSw; go_simp; first | done | with_reducible rfl)
                    simp only [Act.put, List.setIfInBounds_toArray, List.set_cons_zero, List.set_cons_succ]
                    refine wpAnyH_take (i := 5) (oi := { dst := some 99, op := Op.indexAddr 23 (Operand.tmp 94) (Operand.tmp 98), type := 0, pos := "ref.go:57", after := #[{ on := 0, ground := Ground.data }, { on := 4, ground := Ground.data }], guard := none }) (v := ?vorf246) rfl (by kernel_rfl) (by kernel_rfl) (by kernel_rfl) (fun _ _ _ h => h) (Or.inl ⟨by rfl, ?yorf246⟩) hk ?rorf246
                    case yorf246 => (intro w hSw; (try dsimp only at hSw); go_simp; first | done | with_reducible rfl)
                    simp only [Act.put, List.setIfInBounds_toArray, List.set_cons_zero, List.set_cons_succ]
                    refine wpAnyH_take (i := 6) (oi := { dst := some 100, op := Op.load 38 (Operand.tmp 99), type := 38, pos := "ref.go:57", after := #[{ on := 5, ground := Ground.data }], guard := none }) (v := .agg #[.int .i64 X.c, .int .i64 X.o, .int .i64 X.a, .bool X.d, .int .i64 X.r, .int .i64 X.f, .int .i64 X.t]) rfl (by kernel_rfl) (by kernel_rfl) (by kernel_rfl) (fun _ _ _ h => h) (Or.inl ⟨by rfl, ?yorf247⟩) hk ?rorf247
                    case yorf247 => (intro w hSw; obtain ⟨q0, q1, q2, q3, q4, q5, q6⟩ := or_cells (HQT.out _ hSw.q).1 p hpn HXE.out; clear hSw; go_simp; first | done | with_reducible rfl)
                    simp only [Act.put, List.setIfInBounds_toArray, List.set_cons_zero, List.set_cons_succ]
                    refine wpAnyH_take (i := 7) (oi := { dst := some 101, op := Op.move (Operand.tmp 2), type := 23, pos := "ref.go:57", after := #[], guard := none }) (v := ?vorf248) rfl (by kernel_rfl) (by kernel_rfl) (by kernel_rfl) (fun _ _ _ h => h) (Or.inl ⟨by rfl, ?yorf248⟩) hk ?rorf248
                    case yorf248 => (intro w hSw; (try dsimp only at hSw); go_simp; first | done | with_reducible rfl)
                    simp only [Act.put, List.setIfInBounds_toArray, List.set_cons_zero, List.set_cons_succ]
                    refine wpAnyH_take (i := 8) (oi := { dst := some 102, op := Op.move (Operand.tmp 3), type := 24, pos := "ref.go:57", after := #[], guard := none }) (v := ?vorf249) rfl (by kernel_rfl) (by kernel_rfl) (by kernel_rfl) (fun _ _ _ h => h) (Or.inl ⟨by rfl, ?yorf249⟩) hk ?rorf249
                    case yorf249 => (intro w hSw; (try dsimp only at hSw); go_simp; first | done | with_reducible rfl)
                    simp only [Act.put, List.setIfInBounds_toArray, List.set_cons_zero, List.set_cons_succ]
                    refine wpAnyH_take (i := 9) (oi := { dst := some 103, op := Op.move (Operand.tmp 13), type := 3, pos := "ref.go:57", after := #[], guard := none }) (v := ?vorf2410) rfl (by kernel_rfl) (by kernel_rfl) (by kernel_rfl) (fun _ _ _ h => h) (Or.inl ⟨by rfl, ?yorf2410⟩) hk ?rorf2410
                    case yorf2410 => (intro w hSw; (try dsimp only at hSw); go_simp; first | done | with_reducible rfl)
                    simp only [Act.put, List.setIfInBounds_toArray, List.set_cons_zero, List.set_cons_succ]
                    refine wpAnyH_take (i := 10) (oi := { dst := some 104, op := Op.indexAddr 24 (Operand.tmp 102) (Operand.tmp 103), type := 0, pos := "ref.go:57", after := #[{ on := 8, ground := Ground.data }, { on := 9, ground := Ground.data }], guard := none }) (v := ?vorf2411) rfl (by kernel_rfl) (by kernel_rfl) (by kernel_rfl) (fun _ _ _ h => h) (Or.inl ⟨by rfl, ?yorf2411⟩) hk ?rorf2411
                    case yorf2411 => (intro w hSw; (try dsimp only at hSw); go_simp; first | done | with_reducible rfl)
                    simp only [Act.put, List.setIfInBounds_toArray, List.set_cons_zero, List.set_cons_succ]
                    refine wpAnyH_take (i := 11) (oi := { dst := some 105, op := Op.load 3 (Operand.tmp 104), type := 3, pos := "ref.go:57", after := #[{ on := 10, ground := Ground.data }], guard := none }) (v := ?vorf2412) rfl (by kernel_rfl) (by kernel_rfl) (by kernel_rfl) (fun _ _ _ h => h) (Or.inl ⟨by rfl, ?yorf2412⟩) hk ?rorf2412
                    case yorf2412 => (intro w hSw; have hcw := iv_cell (HQT.out _ hSw.q).2 k hlt HRE.out; clear hSw; go_simp; first | done | with_reducible rfl)
                    simp only [Act.put, List.setIfInBounds_toArray, List.set_cons_zero, List.set_cons_succ]
                    refine wpAnyH_take (i := 12) (oi := { dst := some 106, op := Op.indexAddr 23 (Operand.tmp 101) (Operand.tmp 105), type := 0, pos := "ref.go:57", after := #[{ on := 7, ground := Ground.data }, { on := 11, ground := Ground.data }], guard := none }) (v := ?vorf2413) rfl (by kernel_rfl) (by kernel_rfl) (by kernel_rfl) (fun _ _ _ h => h) (Or.inl ⟨by rfl, ?yorf2413⟩) hk ?rorf2413
                    case yorf2413 => (intro w hSw; (try dsimp only at hSw); go_simp; first | done | with_reducible rfl)
                    simp only [Act.put, List.setIfInBounds_toArray, List.set_cons_zero, List.set_cons_succ]
                    refine wpAnyH_take (i := 13) (oi := { dst := some 107, op := Op.load 38 (Operand.tmp 106), type := 38, pos := "ref.go:57", after := #[{ on := 12, ground := Ground.data }], guard := none }) (v := .agg #[.int .i64 Y.c, .int .i64 Y.o, .int .i64 Y.a, .bool Y.d, .int .i64 Y.r, .int .i64 Y.f, .int .i64 Y.t]) rfl (by kernel_rfl) (by kernel_rfl) (by kernel_rfl) (fun _ _ _ h => h) (Or.inl ⟨by rfl, ?yorf2414⟩) hk ?rorf2414
                    case yorf2414 => (intro w hSw; obtain ⟨q0, q1, q2, q3, q4, q5, q6⟩ := or_cells (HQT.out _ hSw.q).1 r hrn HYE.out; clear hSw; go_simp; first | done | with_reducible rfl)
                    simp only [Act.put, List.setIfInBounds_toArray, List.set_cons_zero, List.set_cons_succ]
                    refine wpAnyH_ready (rs := [14]) (by decide +kernel) (by simp) ?_
                    refine AllReadyH.cons (o := { dst := some 108, op := Op.call { callee := Callee.value (Operand.func 25), args := #[Operand.tmp 100, Operand.tmp 107], argTypes := #[38, 38] }, type := 4, pos := "ref.go:57", after := #[{ on := 6, ground := Ground.data }, { on := 13, ground := Ground.data }], guard := none }) rfl (fun K hK => ?_) AllReadyH.nil
                    go_simp
                    refine (refbefore_any X Y _).mono ?_
                    rintro e1 wk ⟨rfl, hb1⟩
                    rw [HBF.out]
                    replace hk := hk.step hb1
                    clear hb1
                    refine hK.out _ _ hk (fun _ => ?_)
                    clear hK K
                    try simp only [Act.put, List.setIfInBounds_toArray, List.set_cons_zero, List.set_cons_succ]
                    refine wpAnyH_done (by decide +kernel) ?_ _
                    have HB8 := Bx.mk hk.low
                    clear hk
                    cases t with
                    | true =>
                      have HF : Bx (R = 17) := ⟨by rw [HE.out, if_pos (ordT_yes hkq HQL.out (by rw [HRE.out]; exact HBT.out))]⟩
                      go_wp2_with fail
                      go_ret
                      exact ⟨by rw [HF.out]; rfl, HB8.out⟩
                    | false =>
                      have HQ2 : Bx (∀ j, k < j → j < q + 1 → befO (opAt ops (o.getD j 0)) (opAt ops (r : Int)) = false) := ⟨fun j h1 h2 => by
                        by_cases e : j = q
                        · subst e; exact HBT.out
                        · exact HQA.out j h1 (by omega)⟩
                      go_wp2_with fail
                      go_roundw
                      case rel => exact ⟨q + 1, by omega, by omega, by go_num, HQ2, HB8⟩
                      case measure => simp [intOf]; omega
                  · have hqI : ¬ (q : Int) < (m : Int) := by omega
                    have HA2 : Bx (∀ i j, i < k + 1 → i < j → j < m → befO (opAt ops (o.getD j 0)) (opAt ops (o.getD i 0)) = false) := ⟨fun i j hi hij hj => by
                      by_cases e : i = k
                      · subst e; rw [HRE.out]; exact HQA.out j hij (by omega)
                      · exact HA.out i j (by omega) hij hj⟩
                    go_wp2_with fail
                    go_roundw
                    case rel => exact ⟨k + 1, by omega, by go_num, HA2, HB⟩
                    case measure => simp [intOf]; omega
              · have hkI : ¬ (k : Int) < (m : Int) := by omega
                have HT : Bx (ordT ops o = false) := ⟨ordT_iff.2 fun i j hij hj => HA.out i j (by rw [HLO.out] at hj; omega) hij (by rw [HLO.out] at hj; exact hj)⟩
                rw [if_neg (by rw [HT.out]; decide)] at HE
                have HI4 := Bx.mk (HI.out.below HB.out)
                have HO4 := Bx.mk (H.out.below HB.out)
                have HJ4 := Bx.mk (H2.out.below HB.out)
                clear HA HT
                go_wp2_with fail
                refine (refdoes_any aL nL cL l fu a b n c m d ops o _ HI4.out HOK.out HL.out HFU.out HO4.out HOR.out HJ4.out HPL.out).mono ?_
                rintro e w5 ⟨rfl, hb5⟩
                rw [← HE.out]
                have HB5 := Bx.mk (bstep HB.out hb5)
                clear hb5
                go_wp2_with fail
                go_ret
                exact ⟨rfl, HB5.out⟩
  · have HF : Bx (R = (thr l).2.2) := ⟨by rw [HE.out, if_pos hok]⟩
    have hq : ((thr l).2.2 != 0) = true := by simpa using hok
    obtain ⟨er, HER⟩ : ∃ er, Bx ((thr l).2.2 = er) := ⟨_, ⟨rfl⟩⟩
    rw [HER.out] at hq HF ⊢
    clear hok
    go_wp2_with fail
    go_ret
    exact ⟨by rw [HF.out]; rfl, HB1.out⟩
end Go.Proofs.Ytckgplemdmgekaa
