/- What the document's own Check answers. -/
import Derived.Test.YtbapegdmpipllaaHCheck
namespace Go.Proofs.Ytbapegdmpipllaa
open Go.RowKit
set_option linter.unusedVariables false

set_option maxRecDepth 100000 in
theorem cOf_take_le (l : List Ev) (m : Nat) : cOf (l.take m) ≤ m := by
  rw [← ops_len]
  induction m with
  | zero => simp [opsL, opsF]
  | succ m ih =>
    by_cases h : m < l.length
    · rw [opsL_snoc l m h]
      unfold stpO
      split
      · rw [List.length_append, List.length_singleton]; omega
      · unfold setO; rw [List.length_map]; omega
    · rw [List.take_of_length_le (by omega)]
      rw [List.take_of_length_le (by omega)] at ih
      omega
set_option maxHeartbeats 400000 in
theorem calls_any (a : Option Addr) (len cap : Nat) (l : List Ev) (n : Nat) (hn : n ≤ len) (w : World) (h : Evs w a len cap l) :
    Calls Try.prog 28 #[.slice a len cap, .int .i64 n] w fun e w' => e = .returned (.int .i64 (cOf (l.take n))) ∧ w' = w := by
  have H := Bx.mk h
  have HLEN : Bx (l.length = len) := ⟨h.len_eq⟩
  have hm := Nat.le_trans h.le_cap h.cap_le
  unfold maxLen at hm
  clear h
  go_enter Try.func28, Try.ntmps28
  go_wp2_with fail
  go_loop [5, 6] (fun p i => ∃ m q : Nat, m ≤ n ∧ q ≤ m ∧ i = .int .i64 m ∧ p = .int .i64 q ∧ Bx (q = cOf (l.take m))) (fun _ i => n - (intOf i).toNat)
  case atStart => exact ⟨0, 0, Nat.zero_le _, Nat.zero_le _, rfl, rfl, ⟨rfl⟩⟩
  case round =>
    obtain ⟨m, q, hmn, hqm, rfl, rfl, HQ⟩ := hrel
    by_cases hlt : m < n
    · have hkI : (m : Int) < (n : Int) := by omega
      have hmL : m < l.length := by rw [HLEN.out]; omega
      obtain ⟨b, off, rfl, hbl, x0, x1, x2, x3⟩ := H.out.ev m (by omega)
      have HCN : Bx (cOf (l.take (m + 1)) = cntK q (l.getD m ev0)) := ⟨by rw [take_snoc l m hmL, cOf_snoc, HQ.out]⟩
      generalize l.getD m ev0 = x at x0 x1 x2 x3 HCN
      obtain ⟨c, k, o, v⟩ := x
      simp only at x0 x1 x2 x3
      cases k with
      | true =>
        go_wp2_with fail
        go_round
        case rel => exact ⟨m + 1, q + 1, by omega, by omega, by go_num, by go_num, ⟨HCN.out.symm⟩⟩
        case measure => simp [intOf]; omega
      | false =>
        go_wp2_with fail
        go_round
        case rel => exact ⟨m + 1, q, by omega, by omega, by go_num, by go_num, ⟨HCN.out.symm⟩⟩
        case measure => simp [intOf]; omega
    · obtain rfl : m = n := by omega
      have hkI : ¬ (m : Int) < (m : Int) := by omega
      go_wp2_with fail
      go_ret
      exact ⟨ret_int (by rw [HQ.out]), rfl⟩
set_option maxHeartbeats 400000 in
theorem last_any (a : Option Addr) (len cap : Nat) (l : List Ev) (n : Nat) (hn : n ≤ len) (c : Int) (w : World) (h : Evs w a len cap l) :
    Calls Try.prog 29 #[.slice a len cap, .int .i64 n, .int .i64 c] w fun e w' => e = .returned (.bool (wOf (l.take n) c)) ∧ w' = w := by
  have H := Bx.mk h
  have HLEN : Bx (l.length = len) := ⟨h.len_eq⟩
  have hm := Nat.le_trans h.le_cap h.cap_le
  unfold maxLen at hm
  clear h
  go_enter Try.func29, Try.ntmps29
  go_wp2_with fail
  go_loop [7] (fun i => ∃ m : Nat, m ≤ n ∧ i = .int .i64 ((m : Int) - 1) ∧ Bx (wOf (l.take m) c = wOf (l.take n) c)) (fun i => (intOf i + 1).toNat)
  case atStart => exact ⟨n, Nat.le_refl _, by go_num, ⟨rfl⟩⟩
  case round =>
    obtain ⟨m, hmn, rfl, HQ⟩ := hrel
    by_cases hlt : 1 ≤ m
    · obtain ⟨m, rfl⟩ : ∃ r, m = r + 1 := ⟨m - 1, by omega⟩
      have e1 : (((m + 1 : Nat) : Int) - 1) = (m : Int) := by omega
      rw [e1]
      clear e1
      have hmL : m < l.length := by rw [HLEN.out]; omega
      obtain ⟨b, off, rfl, hbl, x0, x1, x2, x3⟩ := H.out.ev m (by omega)
      have HUP : Bx (wOf (l.take (m + 1)) c = updW (wOf (l.take m)) (l.getD m ev0) c) := ⟨by rw [take_snoc l m hmL, wOf_snoc]⟩
      generalize l.getD m ev0 = x at x0 x1 x2 x3 HUP
      obtain ⟨d, k, o, v⟩ := x
      simp only at x0 x1 x2 x3
      by_cases he : d = c
      · have HF : Bx (wOf (l.take n) c = k) := ⟨by rw [← HQ.out, HUP.out]; show (if c = d then k else _) = k; rw [if_pos he.symm]⟩
        have hq : (d == c) = true := by simpa using he
        clear he
        go_wp2_with fail
        go_ret
        exact ⟨ret_bool HF.out.symm, rfl⟩
      · have HF : Bx (wOf (l.take m) c = wOf (l.take n) c) := ⟨by rw [← HQ.out, HUP.out]; show _ = (if c = d then k else _); rw [if_neg (fun e => he e.symm)]⟩
        have hq : (d == c) = false := by simpa using he
        clear he
        go_wp2_with fail
        go_round
        case rel => exact ⟨m, by omega, rfl, HF⟩
        case measure => simp [intOf]
    · obtain rfl : m = 0 := by omega
      go_wp2_with fail
      go_ret
      exact ⟨ret_bool (by rw [← HQ.out]; rfl), rfl⟩
/-- not one call too many -/
def NBig (k : Bool) (p : Nat) : Prop := ¬ (k = true ∧ p = 64)
set_option maxHeartbeats 2000000 in
theorem refcheck_any (a : Option Addr) (len cap : Nat) (l : List Ev) (w : World) (h : Evs w a len cap l) :
    Calls Try.prog 11 #[.slice a len cap] w fun e w' => e = .returned (.tuple #[.int .i64 (chk l).1, .int .i64 (chk l).2]) ∧ Below w.heap.size w w' := by
  have H := Bx.mk h
  have HLEN : Bx (l.length = len) := ⟨h.len_eq⟩
  have hm := Nat.le_trans h.le_cap h.cap_le
  unfold maxLen at hm
  clear h
  go_enter Try.func11, Try.ntmps11
  go_wp2_with fail
  go_loopw [4] (fun i wr => ∃ m : Nat, m ≤ len ∧ i = .int .i64 m ∧ Bx (Below w.heap.size w wr) ∧ Bx (chkR l m = chk l)) (fun i _ => len - (intOf i).toNat)
  case atStart => exact ⟨0, Nat.zero_le _, rfl, ⟨Below.refl _ _⟩, ⟨rfl⟩⟩
  case round =>
    obtain ⟨m, hml, rfl, HB, HC⟩ := hrel
    by_cases hlt : m < len
    · have hkI : (m : Int) < (len : Int) := by omega
      have hmL : m < l.length := by rw [HLEN.out]; exact hlt
      obtain ⟨p, HPN⟩ : ∃ p, Bx (p = cOf (l.take m)) := ⟨_, ⟨rfl⟩⟩
      have hpm : p ≤ m := by rw [HPN.out]; exact cOf_take_le l m
      have hE0 := H.out.below HB.out
      obtain ⟨b, off, rfl, hbl, x0, x1, x2, x3⟩ := hE0.ev m hlt
      have HBAD : Bx (errE l m ≠ 0 → chk l = (m, errE l m)) := ⟨fun he => by rw [← HC.out]; exact chkR_bad l m hmL he⟩
      have HGO : Bx (errE l m = 0 → chkR l (m + 1) = chk l) := ⟨fun he => by rw [← HC.out]; exact (chkR_next l m hmL he).symm⟩
      have HER : Bx (errE l m = stpE (wOf (l.take m)) p (l.getD m ev0)) := ⟨by rw [HPN.out]; rfl⟩
      obtain ⟨W, HWE⟩ : ∃ W, Bx (wOf (l.take m) = W) := ⟨_, ⟨rfl⟩⟩
      rw [HWE.out] at HER
      generalize l.getD m ev0 = x at x0 x1 x2 x3 HER
      obtain ⟨c, k, o, v⟩ := x
      simp only at x0 x1 x2 x3
      obtain ⟨g5, HG5⟩ : ∃ g5, Bx (g5 = wr.heap.size) := ⟨_, ⟨rfl⟩⟩
      have hba : Below wr.heap.size wr (wr.alloc (.cells #[.int .i64 c, .bool k, .int .i64 o, .int .i64 v] 55)) := (Below.refl _ _).alloc (Nat.le_refl _) _
      have hra := heap_alloc_new wr (.cells #[.int .i64 c, .bool k, .int .i64 o, .int .i64 v] 55)
      rw [← HG5.out] at hra
      have y0 := cell_of_row _ g5 0 _ _ (0, 0) hra
      have y1 := cell_of_row _ g5 1 _ _ (0, 0) hra
      have y2 := cell_of_row _ g5 2 _ _ (0, 0) hra
      have HB1 := Bx.mk (bstep HB.out hba)
      have HE1 := Bx.mk (hE0.below hba)
      clear hba hra HC HB hE0
      by_cases hcan : canE ⟨c, k, o, v⟩ = true
      · have hcc := (canE_iff _).1 hcan
        simp only at hcc
        have h0 : 0 ≤ c := hcc.1.1
        have h1 : c ≤ 15 := hcc.1.2
        have hco := hcc.2
        have HCC := Bx.mk hcan
        clear hcc hcan
        by_cases hbig : k = true ∧ p = 64
        · have HF2 : Bx (chk l = (m, 5)) := ⟨by have := HER.out; rw [stpE_big HCC.out hbig.1 hbig.2] at this; rw [HBAD.out (by rw [this]; decide), this]⟩
          obtain ⟨rfl, hp64⟩ := hbig
          rw [if_pos rfl] at hco
          obtain ⟨h2, h3⟩ := hco
          have hq64 : ((p : Int) == 64) = true := by simp; omega
          clear hp64
          go_wp2_with fail
          rw [← HG5.out]
          generalize wr.alloc (.cells #[.int .i64 c, .bool true, .int .i64 o, .int .i64 v] 55) = w1 at y0 y1 y2 HB1 HE1 ⊢
          go_wp2_with (go_at_call 28; refine (calls_any _ len cap l m (by omega) _ HE1.out).mono ?_; rintro e wc ⟨rfl, rfl⟩; rw [← HPN.out])
          go_ret2
          exact ⟨chk_ret HF2.out, HB1.out⟩
        · have HBIG : Bx (NBig k p) := ⟨hbig⟩
          cases k with
          | true =>
            have hgb : ((p : Int) == 64) = false := by have : p ≠ 64 := fun e => hbig ⟨rfl, e⟩; simp; omega
            rw [if_pos rfl] at hco
            obtain ⟨h2, h3⟩ := hco
            clear hbig
            go_wp2_with fail
            rw [← HG5.out]
            generalize wr.alloc (.cells #[.int .i64 c, .bool true, .int .i64 o, .int .i64 v] 55) = w1 at y0 y1 y2 HB1 HE1 ⊢
            by_cases hst : true = W c
            · have HF : Bx (chk l = (m, 20)) := ⟨by have := HER.out; rw [stpE_state HCC.out HBIG.out hst] at this; rw [HBAD.out (by rw [this]; decide), this]⟩
              have hq : (true == W c) = true := by rw [← hst]; rfl
              have HLA : Bx (∀ q, Calls Try.prog 29 #[.slice (some ⟨b, off, none⟩) len cap, .int .i64 m, .int .i64 c] (w1.drewN q) fun e w' => e = .returned (.bool (W c)) ∧ w' = w1.drewN q) := ⟨fun q => by rw [← HWE.out]; exact last_any _ len cap l m (by omega) c _ (HE1.out.drewN q)⟩
              generalize W c = kw at HLA hq
              clear hst
              go_wp2_with (go_at_call 28; refine (calls_any _ len cap l m (by omega) _ HE1.out).mono ?_; rintro e wc ⟨rfl, rfl⟩; rw [← HPN.out])
              go_quiet ((go_at_call 29; exact Calls.quiet_of_same (HLA.out _)))
              go_wp2_with fail
              go_ret2
              exact ⟨chk_ret HF.out, below_drewN HB1.out _⟩
            · have HE : Bx (errE l m = 0) := ⟨by rw [HER.out]; exact stpE_ok HCC.out HBIG.out hst⟩
              have HC2 : Bx (chkR l (m + 1) = chk l) := ⟨HGO.out HE.out⟩
              have hq : (true == W c) = false := by simpa using hst
              have HLA : Bx (∀ q, Calls Try.prog 29 #[.slice (some ⟨b, off, none⟩) len cap, .int .i64 m, .int .i64 c] (w1.drewN q) fun e w' => e = .returned (.bool (W c)) ∧ w' = w1.drewN q) := ⟨fun q => by rw [← HWE.out]; exact last_any _ len cap l m (by omega) c _ (HE1.out.drewN q)⟩
              generalize W c = kw at HLA hq
              clear hst
              go_wp2_with (go_at_call 28; refine (calls_any _ len cap l m (by omega) _ HE1.out).mono ?_; rintro e wc ⟨rfl, rfl⟩; rw [← HPN.out])
              go_quiet ((go_at_call 29; exact Calls.quiet_of_same (HLA.out _)))
              go_wp2_with fail
              go_roundw
              case rel => exact ⟨m + 1, by omega, by go_num, ⟨below_drewN HB1.out _⟩, HC2⟩
              case measure => simp [intOf]; omega
          | false =>
            obtain rfl : o = 0 := hco
            clear hbig
            go_wp2_with fail
            rw [← HG5.out]
            generalize wr.alloc (.cells #[.int .i64 c, .bool false, .int .i64 0, .int .i64 v] 55) = w1 at y0 y1 y2 HB1 HE1 ⊢
            by_cases hst : false = W c
            · have HF : Bx (chk l = (m, 20)) := ⟨by have := HER.out; rw [stpE_state HCC.out HBIG.out hst] at this; rw [HBAD.out (by rw [this]; decide), this]⟩
              have hq : (false == W c) = true := by rw [← hst]; rfl
              have HLA : Bx (∀ q, Calls Try.prog 29 #[.slice (some ⟨b, off, none⟩) len cap, .int .i64 m, .int .i64 c] (w1.drewN q) fun e w' => e = .returned (.bool (W c)) ∧ w' = w1.drewN q) := ⟨fun q => by rw [← HWE.out]; exact last_any _ len cap l m (by omega) c _ (HE1.out.drewN q)⟩
              generalize W c = kw at HLA hq
              clear hst
              go_wp2_with fail
              go_quiet ((go_at_call 29; exact Calls.quiet_of_same (HLA.out _)))
              go_wp2_with fail
              go_ret2
              exact ⟨chk_ret HF.out, below_drewN HB1.out _⟩
            · have HE : Bx (errE l m = 0) := ⟨by rw [HER.out]; exact stpE_ok HCC.out HBIG.out hst⟩
              have HC2 : Bx (chkR l (m + 1) = chk l) := ⟨HGO.out HE.out⟩
              have hq : (false == W c) = false := by simpa using hst
              have HLA : Bx (∀ q, Calls Try.prog 29 #[.slice (some ⟨b, off, none⟩) len cap, .int .i64 m, .int .i64 c] (w1.drewN q) fun e w' => e = .returned (.bool (W c)) ∧ w' = w1.drewN q) := ⟨fun q => by rw [← HWE.out]; exact last_any _ len cap l m (by omega) c _ (HE1.out.drewN q)⟩
              generalize W c = kw at HLA hq
              clear hst
              go_wp2_with fail
              go_quiet ((go_at_call 29; exact Calls.quiet_of_same (HLA.out _)))
              go_wp2_with fail
              go_roundw
              case rel => exact ⟨m + 1, by omega, by go_num, ⟨below_drewN HB1.out _⟩, HC2⟩
              case measure => simp [intOf]; omega
      · have HF2 : Bx (chk l = (m, 2)) := ⟨by have := HER.out; rw [stpE_can (Bool.eq_false_iff.2 hcan)] at this; rw [HBAD.out (by rw [this]; decide), this]⟩
        by_cases h0 : 0 ≤ c
        · by_cases h1 : c ≤ 15
          · cases k with
            | true =>
              by_cases h2 : 0 ≤ o
              · have h3 : ¬ o ≤ 15 := fun h3 => hcan ((canE_iff _).2 ⟨⟨h0, h1⟩, by simp only [if_true]; exact ⟨h2, h3⟩⟩)
                clear hcan
                go_wp2_with fail
                go_ret2
                exact ⟨chk_ret HF2.out, HB1.out⟩
              · clear hcan
                go_wp2_with fail
                go_ret2
                exact ⟨chk_ret HF2.out, HB1.out⟩
            | false =>
              have h2 : (o == 0) = false := by
                rw [beq_eq_false_iff_ne]
                exact fun h3 => hcan ((canE_iff _).2 ⟨⟨h0, h1⟩, by simp only [Bool.false_eq_true, if_false]; exact h3⟩)
              clear hcan
              go_wp2_with fail
              go_ret2
              exact ⟨chk_ret HF2.out, HB1.out⟩
          · clear hcan
            go_wp2_with fail
            go_ret2
            exact ⟨chk_ret HF2.out, HB1.out⟩
        · clear hcan
          go_wp2_with fail
          go_ret2
          exact ⟨chk_ret HF2.out, HB1.out⟩
    · have HF : Bx (chk l = (0, 0)) := ⟨by rw [← HC.out]; exact chkR_end l m (by rw [HLEN.out]; omega)⟩
      have hkI : ¬ (m : Int) < (len : Int) := by omega
      go_wp2_with fail
      go_ret2
      exact ⟨chk_ret (a := 0) HF.out, HB.out⟩
end Go.Proofs.Ytbapegdmpipllaa
