/- What readFrames answers. -/
import Derived.Test.YtigaciflbgbolaaWalRead
namespace Go.Proofs.Ytigaciflbgbolaa
open Go.RowKit
set_option linter.unusedVariables false

/-- what is read of a disk's bytes -/
def RFP (F : List (List Int)) (w : World) (e : Ending) (w' : World) : Prop := Below w.heap.size w w' ∧ (rdF F = none → e = .returned (.tuple #[.slice none 0 0, .int .i64 0, .int .i64 13])) ∧
  ∀ T p, rdF F = some (T, p) → TOk T ∧ T.length ≤ p ∧ p ≤ F.length ∧ ∃ v, e = .returned (.tuple #[v, .int .i64 (p : Int), .int .i64 0]) ∧ TL w' (fun k => w.heap.size ≤ k ∧ k < w'.heap.size) v T
set_option maxRecDepth 100000 in
theorem RFP.no {F : List (List Int)} {w w' : World} (hb : Below w.heap.size w w') (h : none = rdF F) : RFP F w (.returned (.tuple #[.slice none 0 0, .int .i64 0, .int .i64 13])) w' :=
  ⟨hb, fun _ => rfl, fun T p h2 => by rw [← h] at h2; cases h2⟩
set_option maxRecDepth 100000 in
theorem RFP.yes {F : List (List Int)} {w w' : World} {v : Value} {T : List (List Int)} {p : Nat} (hb : Below w.heap.size w w') (h : some (T, p) = rdF F) (h1 : TOk T) (h2 : T.length ≤ p) (h3 : p ≤ F.length) (ht : TL w' (fun k => w.heap.size ≤ k ∧ k < w'.heap.size) v T) : RFP F w (.returned (.tuple #[v, .int .i64 (p : Int), .int .i64 0])) w' :=
  ⟨hb, (fun h4 => by rw [← h] at h4; cases h4), fun T' p' h4 => by rw [← h] at h4; cases h4; exact ⟨h1, h2, h3, v, rfl, ht⟩⟩
set_option maxRecDepth 100000 in
theorem rfr_end {F : List (List Int)} {u p : Nat} {T : List (List Int)} (hu : F.length < u + p) (hp : p ≤ F.length) (h : ¬ (p < F.length ∧ F.getD p [] ≠ s0)) : rfr F u p T = some (T, p) := by
  obtain ⟨u, rfl⟩ : ∃ v, u = v + 1 := ⟨u - 1, by omega⟩
  rw [rfr, if_neg h]
set_option maxRecDepth 100000 in
theorem rfr_bad {F : List (List Int)} {u p : Nat} {T : List (List Int)} (hu : F.length < u + p) (hp : p < F.length) (h : F.getD p [] ≠ s0) (hb : ¬ (rdE (flat (F.drop p)) = 0 ∧ rdS (flat (F.drop p)) = (T.length : Int) + 1)) : rfr F u p T = none := by
  obtain ⟨u, rfl⟩ : ∃ v, u = v + 1 := ⟨u - 1, by omega⟩
  rw [rfr, if_pos ⟨hp, h⟩, if_neg hb]
set_option maxRecDepth 100000 in
theorem rfr_go {F : List (List Int)} {u p : Nat} {T : List (List Int)} (hu : F.length < u + p) (hp : p < F.length) (h : F.getD p [] ≠ s0) (hb : rdE (flat (F.drop p)) = 0) (hc : rdS (flat (F.drop p)) = (T.length : Int) + 1) : ∃ v, u = v + 1 ∧ rfr F u p T = rfr F v (p + ns (rdN (flat (F.drop p)))) (T ++ [rdT (flat (F.drop p))]) := by
  obtain ⟨u, rfl⟩ : ∃ v, u = v + 1 := ⟨u - 1, by omega⟩
  exact ⟨u, rfl, by rw [rfr, if_pos ⟨hp, h⟩, if_pos ⟨hb, hc⟩]⟩
set_option maxRecDepth 100000 in
set_option maxHeartbeats 1000000 in
theorem frames_any (F : List (List Int)) (a : Option Addr) (len cap : Nat) (w : World) (hsx : Sxl F) (hn : F.length ≤ 4096) (h : Bts w a len cap (flat F)) :
    Calls Try.prog 42 #[.slice a len cap] w (RFP F w) := by
  have hl := h.len_eq
  rw [flat_len hsx] at hl
  have hlc := h.le_cap
  have hcm := h.cap_le
  unfold maxLen at hcm
  have HB : Bx (Bts w a len cap (flat F)) := ⟨h⟩
  have HSX : Bx (Sxl F) := ⟨hsx⟩
  clear h hsx
  obtain ⟨N, hN⟩ : ∃ N, N = w.heap.size := ⟨_, rfl⟩
  have HN : Hid (N = w.heap.size) := hN
  clear hN
  obtain ⟨n, HNL⟩ : ∃ n, Bx (n = F.length) := ⟨_, ⟨rfl⟩⟩
  rw [← HNL.out] at hn hl
  have hst : ∃ u, n < u + 0 ∧ Bx (rfr F u 0 [] = rdF F) ∧ TL w (fun k => N ≤ k) (.slice none 0 0) [] ∧ Below N w w := ⟨n + 1, by omega, ⟨by rw [HNL.out]; rfl⟩, TL.nil _ _, Below.refl _ _⟩
  go_enter Try.func42, Try.ntmps42
  go_wp2
  go_loopw [5, 6] (fun v i wr => ∃ (p : Nat) (T : List (List Int)) (u : Nat), p ≤ n ∧ i = .int .i64 p ∧ T.length ≤ p ∧ Bx (TOk T) ∧ n < u + p ∧ Bx (rfr F u p T = rdF F) ∧ TL wr (fun k => N ≤ k) v T ∧ Below N w wr) (fun _ i _ => n - (intOf i).toNat)
  case atStart =>
    obtain ⟨u, h1, h2, h3, h4⟩ := hst
    exact ⟨0, [], u, Nat.zero_le _, rfl, Nat.le_refl _, ⟨TOk.nil⟩, h1, h2, h3, h4⟩
  case round =>
    clear hst
    obtain ⟨p, T, u, hp, rfl, hTp, HTO, hu, HR, hT, hlow⟩ := hrel
    obtain ⟨vT, hvT⟩ : ∃ vT, vT = u5 := ⟨_, rfl⟩
    subst hvT
    have hbw : Below w.heap.size w wr := by rw [← HN.out]; exact hlow
    have hT8 : TL wr (fun k => w.heap.size ≤ k ∧ k < wr.heap.size) vT T := hT.keep (fun _ _ _ => rfl) (Nat.le_refl _) (fun k hk ho => ⟨by rw [← HN.out]; exact ho, hk⟩)
    by_cases hlt : p < n
    · have hlt' : p < F.length := by rw [← HNL.out]; exact hlt
      have g1 : (p : Int) * 64 < (len : Int) := by omega
      have hbt := HB.out.below hbw
      have HSE : Bx (((flat F).drop (64 * p)).take 64 = F.getD p []) := ⟨flat_sec HSX.out p hlt'⟩
      by_cases hz : F.getD p [] = s0
      · have HY : Bx (some (T, p) = rdF F) := ⟨by rw [← HR.out]; exact (rfr_end (by rw [← HNL.out]; exact hu) (by rw [← HNL.out]; exact hp) (fun hh => hh.2 hz)).symm⟩
        have HZ : Bx (F.getD p [] = s0) := ⟨hz⟩
        have HPF : Bx (p ≤ F.length) := ⟨by rw [← HNL.out]; exact hp⟩
        clear hz hT hlow hlt'
        go_wp2_with fail
        refine (noughts_any a len cap p (flat F) _ hbt (by omega) (by omega)).mono ?_
        rintro e w' ⟨rfl, rfl⟩
        rw [HSE.out, decide_eq_true HZ.out]
        clear hbt
        go_wp2
        exact bodyPost_ret (v := .tuple #[vT, .int .i64 (p : Int), .int .i64 0]) (by simp [results, Try.results42, go_sem]) rfl (RFP.yes hbw HY.out HTO.out hTp HPF.out hT8)
      · have HZ : Bx (F.getD p [] ≠ s0) := ⟨hz⟩
        have HFD : Bx ((flat F).drop (64 * p) = flat (F.drop p)) := ⟨flat_drop HSX.out p⟩
        have HXB : Bx (Byt (flat (F.drop p))) := ⟨flat_byt (HSX.out.drop p)⟩
        have HXL : Bx ((flat (F.drop p)).length = len - p * 64) := ⟨by rw [flat_len (HSX.out.drop p), List.length_drop, ← HNL.out]; omega⟩
        obtain ⟨b, off, rfl, _, _⟩ := hbt.spot (by omega)
        have hpt := hbt.part (p * 64) (len - p * 64) (cap - p * 64) (by omega) (by omega) (by unfold maxLen; omega)
        rw [List.take_of_length_le (by rw [List.length_drop, hbt.len_eq]; exact Nat.le_refl _), show p * 64 = 64 * p from Nat.mul_comm _ _, HFD.out, show 64 * p = p * 64 from Nat.mul_comm _ _] at hpt
        have HBAD : Bx (¬ (rdE (flat (F.drop p)) = 0 ∧ rdS (flat (F.drop p)) = (T.length : Int) + 1) → none = rdF F) := ⟨fun hb => by rw [← HR.out]; exact (rfr_bad (by rw [← HNL.out]; exact hu) hlt' HZ.out hb).symm⟩
        have HGO : Bx (rdE (flat (F.drop p)) = 0 → rdS (flat (F.drop p)) = (T.length : Int) + 1 → ∃ v, u = v + 1 ∧ rfr F v (p + ns (rdN (flat (F.drop p)))) (T ++ [rdT (flat (F.drop p))]) = rdF F) := ⟨fun h1 h2 => by
          obtain ⟨v, e1, e2⟩ := rfr_go (by rw [← HNL.out]; exact hu) hlt' HZ.out h1 h2
          exact ⟨v, e1, by rw [← e2]; exact HR.out⟩⟩
        have HBT : Bx _ := ⟨hbt⟩
        obtain ⟨av, cv, hvf, hcv⟩ := hT.form
        subst hvf
        clear hz hT8 hbt hlt'
        go_wp2_with fail
        refine (noughts_any _ len cap p (flat F) _ HBT.out (by omega) (by omega)).mono ?_
        rintro e w' ⟨rfl, rfl⟩
        rw [HSE.out, decide_eq_false HZ.out]
        have g2 : (p : Int) * 64 ≤ (len : Int) := by omega
        have g3 : ¬ cap = p * 64 := by omega
        clear HBT
        generalize flat (F.drop p) = X at HXB HXL HBAD HGO hpt
        go_wp2_with fail
        refine (read8_any _ _ _ _ _ hpt).mono ?_
        rintro e w3 ⟨v3, rfl, hown3, hb3⟩
        have hlow3 : Below N w w3 := hlow.trans (hb3.mono (by rw [HN.out]; exact hbw.size))
        have hbw3 : Below w.heap.size w w3 := by rw [← HN.out]; exact hlow3
        by_cases he0 : rdE X = 0
        · obtain ⟨r1, r2, r3, r4, r5⟩ := rdN_le HXB.out he0
          rw [HXL.out] at r1
          obtain ⟨a3, c3, rfl, hm3⟩ := Bts.of_owns hown3 (rdT_byt HXB.out)
          rw [he0]
          by_cases hs1 : rdS X = (T.length : Int) + 1
          · obtain ⟨u', hu', HR'⟩ := HGO.out he0 hs1
            have HFAR : Bx (0 < (rdT X).length → ∀ q, a3 = some q → N ≤ q.block ∧ (Value.slice av T.length cv).ownBlock ≠ some q.block) := ⟨fun _ q e => by
              have h1 := own_ge hown3 q e
              refine ⟨by have := hbw.size; rw [HN.out]; omega, fun e2 => ?_⟩
              obtain ⟨xs, ho, _⟩ := hT.row
              have := (ho.lt q.block e2).2
              omega⟩
            have HTO' : Bx (TOk (T ++ [rdT X])) := ⟨HTO.out.snoc r3 hm3.byt⟩
            have hs3 : N ≤ w3.heap.size := by rw [HN.out]; exact hbw3.size
            have HVB : Bx (∀ j, (Value.slice av T.length cv).ownBlock = some j → N ≤ j) := ⟨fun j hj => hT.ob j hj⟩
            obtain ⟨xs, hown, HTA⟩ := (hT.below hb3).open
            have HRR : Bx _ := ⟨HR'⟩
            have hns : ns (rdN X) ≤ n - p := by unfold ns; omega
            have hns1 : 1 ≤ ns (rdN X) := by unfold ns; omega
            have hrn : rdN X ≤ 1000000 := by omega
            have hu2 : n < u' + (p + ns (rdN X)) := by omega
            have hsb : (rdS X != (T.length : Int) + 1) = false := by rw [hs1]; simp
            have HM3 : Bx _ := ⟨hm3⟩
            have HLOW : Bx _ := ⟨hlow3⟩
            obtain ⟨i0, hi, hz0, hz1, hz2⟩ := info_parts Try.info22
            have hTl : T.length ≤ 4096 := by omega
            clear HGO HBAD hT hown3 hb3 hm3 hbw hlow hlow3 hbw3 hpt he0 HR' r1 r2 r3 r4 r5 hu' hs1
            generalize rdS X = S at hsb ⊢
            generalize hrt : rdT X = t at HFAR HTO' HM3 HRR ⊢
            clear hrt
            generalize hrn2 : rdN X = m at hns hns1 hrn hu2 HRR ⊢
            clear hrn2
            generalize ht1 : t.length = tl at HFAR HM3 ⊢
            clear ht1
            go_wp2_with fail
            refine (number_any _ _ _ _ hTl).mono ?_
            rintro e w' ⟨rfl, rfl⟩
            have HKT : ∃ k, Bx (k = T.length) := ⟨_, ⟨rfl⟩⟩
            obtain ⟨k, HKT⟩ := HKT
            rw [← HKT.out] at hTp hown HFAR HVB hTl hsb HTA ⊢
            go_wp2_with (at_builtin; refine wpList_append_lies _ rfl (.tmp 40) (.tmp 42) 60 rfl 0 38 i0 (.slice none 0 0) 1 24 Try.underlying60 hi hz0 hz1 hz2 rfl (by decide) _ k xs rfl (hown.alloc _) ⟨w3.heap.size, 0, none⟩ 1 1 [.slice a3 tl c3] rfl rfl (cell_one_new _ _ _) (by simp [Value.oneCell']) (by decide) (by unfold maxLen; omega) (by omega) (Nat.zero_le _) _ rfl ?_; intro g4 cap4 w4 hown4 hgr4 hl4 _)
            have hbig : (w3.alloc (.cells #[.slice a3 tl c3] 38)).heap.size = w3.heap.size + 1 := by simp
            have hg4 : N ≤ g4 := by
              rcases hl4 with h1 | h1
              · exact HVB.out g4 h1
              · rw [h1, hbig]; omega
            have hT4 := HTA.out.done HKT.out HM3.out HFAR.out hown4 hgr4 hl4 (fun _ h => h) hg4
            have hK4 : Below N w w4 := (HLOW.out.alloc hs3 _).grown hgr4 (by rw [hbig]; omega) HVB.out
            have HLN : Bx ((T ++ [t]).length ≤ p + ns m) := ⟨by rw [List.length_append, ← HKT.out]; show k + 1 ≤ _; omega⟩
            clear hown4 hgr4 hl4 hown hi hz0 hz1 hz2 hbig hg4
            go_wp2_with fail
            refine (wsec_any m _ hrn).mono ?_
            rintro e w' ⟨rfl, rfl⟩
            generalize ns m = q at hns hns1 hu2 HRR HLN ⊢
            go_wp2
            go_roundw
            case rel => exact ⟨p + q, T ++ [t], u', by omega, by go_num, HLN.out, HTO', hu2, HRR, hT4, hK4⟩
            case measure => simp [intOf]; omega
          · have HNO := HBAD.out (fun hh => hs1 hh.2)
            have hsb : (rdS X != (T.length : Int) + 1) = true := by simpa using hs1
            have hTl : T.length ≤ 4096 := by omega
            have HNO' : Bx _ := ⟨HNO⟩
            clear HGO HBAD hT hown3 hb3 hm3 hbw hlow hlow3 hpt he0 r1 r2 r3 r4 r5 hs1 HNO
            generalize rdS X = S at hsb ⊢
            generalize (rdT X).length = tl
            generalize rdN X = m
            go_wp2_with fail
            refine (number_any _ _ _ _ hTl).mono ?_
            rintro e w' ⟨rfl, rfl⟩
            go_wp2
            exact bodyPost_ret (v := .tuple #[.slice none 0 0, .int .i64 0, .int .i64 13]) (by simp [results, Try.results42, go_sem]) rfl (RFP.no hbw3 HNO'.out)
        · have HNO := HBAD.out (fun hh => he0 hh.1)
          have heb : (rdE X != 0) = true := by simpa using he0
          have HNO' : Bx _ := ⟨HNO⟩
          clear HGO HBAD hT hown3 hb3 hbw hlow hlow3 hpt he0 HNO
          generalize rdS X = S
          generalize rdN X = m
          generalize rdE X = E at heb ⊢
          go_wp2
          exact bodyPost_ret (v := .tuple #[.slice none 0 0, .int .i64 0, .int .i64 13]) (by simp [results, Try.results42, go_sem]) rfl (RFP.no hbw3 HNO'.out)
    · have hpn : p = n := by omega
      have HY : Bx (some (T, p) = rdF F) := ⟨by rw [← HR.out]; exact (rfr_end (by rw [← HNL.out]; exact hu) (by rw [← HNL.out]; exact hp) (fun hh => hlt (by rw [HNL.out]; exact hh.1))).symm⟩
      have g1 : ¬ (p : Int) * 64 < (len : Int) := by omega
      have HPF : Bx (p ≤ F.length) := ⟨by rw [← HNL.out]; exact hp⟩
      clear hT hlow hpn
      go_wp2
      exact bodyPost_ret (v := .tuple #[vT, .int .i64 (p : Int), .int .i64 0]) (by simp [results, Try.results42, go_sem]) rfl (RFP.yes hbw HY.out HTO.out hTp HPF.out hT8)
end Go.Proofs.Ytigaciflbgbolaa
