/- What readDisk and readFrames answer. What readFrames answers. What wipe answers, and Open. What Open answers. -/
import Derived.Test.YtjnjokbdoendkaaGreatSwt
namespace Go.Proofs.YtjnjokbdoendkaaGreat
open Go.RowKit
set_option linter.unusedVariables false

set_option maxRecDepth 100000 in
theorem rd_at {s : DS} (h : s.off = false) (k : Nat) (hk : k < s.F.length) : s.rdE k = 0 ∧ s.rdL k = s.now.getD k [] := by
  have e : (decide (0 ≤ (k : Int)) && decide ((k : Int) < (s.F.length : Int))) = true := by simp; omega
  unfold DS.rdE DS.rdL
  rw [h, e]; exact ⟨rfl, rfl⟩
set_option maxRecDepth 100000 in
theorem now_len (s : DS) : s.now.length = s.F.length := app_len _ _
set_option maxRecDepth 100000 in
theorem now_sx {s : DS} (h : s.Ok) : Sxl s.now := app_sx h.f h.o
set_option maxRecDepth 100000 in
set_option maxHeartbeats 1000000 in
theorem rdisk_on (g : Nat) (own : Nat → Prop) (s : DS) (w : World) (h : Dsk w g own s) (hoff : s.off = false) :
    Calls Tryz.prog 58 #[.pointer (some ⟨g, 0, none⟩)] w fun e w' => ∃ v, e = .returned (.tuple #[v, .int .i64 0]) ∧ w'.ownsRow w.heap.size 5 1 v (64 * s.F.length) (bv (flat s.now)) ∧ Below w.heap.size w w' := by
  have hn2 := h.ok.n2
  have HNOW : Bx (s.now.length = s.F.length) := ⟨now_len s⟩
  have HSX : Bx (∀ k : Nat, k < s.F.length → (s.rdL k).length = 64 ∧ s.rdL k = s.now.getD k [] ∧ s.rdE k = 0 ∧ Byt (s.now.getD k [])) := ⟨fun k hk => by
    obtain ⟨e1, e2⟩ := rd_at hoff k hk
    have h1 := (now_sx h.ok).getD k (by rw [now_len]; exact hk)
    exact ⟨by rw [e2]; exact h1.1, e2, e1, h1.2⟩⟩
  have HD : Bx (Dsk w g own s) := ⟨h⟩
  clear h hoff
  obtain ⟨N, hN⟩ : ∃ N, N = w.heap.size := ⟨_, rfl⟩
  have HN : Hid (N = w.heap.size) := hN
  clear hN
  have hst : w.ownsRow N 5 1 (.slice none 0 0) (64 * 0) (bv (flat (s.now.take 0))) ∧ Below N w w := ⟨World.ownsRow_nil _ _ _ _, Below.refl _ _⟩
  obtain ⟨n, HNL⟩ : ∃ n, Bx (n = s.F.length) := ⟨_, ⟨rfl⟩⟩
  rw [← HNL.out] at hn2 HNOW HSX ⊢
  go_enter Tryz.func58, Tryz.ntmps58
  go_wp2_with fail
  refine (sectors_any g own s _ HD.out).mono ?_
  rintro e w' ⟨rfl, rfl⟩
  rw [← HNL.out]
  go_wp2
  go_loopw [4, 10] (fun v i wr => ∃ k : Nat, k ≤ n ∧ i = .int .i64 k ∧ wr.ownsRow N 5 1 v (64 * k) (bv (flat (s.now.take k))) ∧ Below N w wr) (fun _ i _ => n - (intOf i).toNat)
  case atStart => exact ⟨0, Nat.zero_le _, rfl, hst⟩
  case round =>
    clear hst
    obtain ⟨k, hk, rfl, hO, hlow⟩ := hrel
    have hbw : Below w.heap.size w wr := by rw [← HN.out]; exact hlow
    by_cases hlt : k < n
    · have hkI : (k : Int) < (n : Int) := by omega
      obtain ⟨e1, e2, e3, e4⟩ := HSX.out k hlt
      have hD := HD.out.below hbw
      have HMO : Bx (flat (s.now.take (k + 1)) = flat (s.now.take k) ++ s.now.getD k []) := ⟨by
        rw [take_one _ _ (by rw [HNOW.out]; exact hlt), flat_append]
        show _ ++ (_ ++ []) = _
        rw [List.append_nil]⟩
      go_wp2_with fail
      refine (read_any g own s k _ hD).mono ?_
      rintro e w3 ⟨v3, rfl, hown3, hb3⟩
      rw [e1, e2] at hown3
      rw [e3]
      obtain ⟨a3, c3, rfl, hm3⟩ := Bts.of_owns hown3 e4
      have hO3 := owns_below hO hb3
      have hlow3 : Below N w w3 := hlow.trans (hb3.mono (by rw [HN.out]; exact hbw.size))
      have hs3 : N ≤ w3.heap.size := by have := hb3.size; have := hbw.size; rw [HN.out]; omega
      have HLOW : Bx _ := ⟨hlow3⟩
      generalize s.now.getD k [] = y at hm3 HMO
      generalize flat (s.now.take k) = z at hO3 HMO
      clear hO hown3 hb3 hbw hlow hlow3 hD e1 e2 e3 e4
      go_wp2_with (at_builtin; refine wpList_append_bts rfl (.tmp 22) (.tmp 23) rfl N (64 * k) _ z rfl hO3 a3 64 c3 y rfl hm3 (by omega) hs3 ?_; intro v4 w4 hown4 hb4 _)
      rw [← HMO.out] at hown4
      have hlow4 := HLOW.out.trans hb4
      clear hb4 hO3 hm3 hs3 HLOW
      go_roundw
      case rel => exact ⟨k + 1, by omega, by go_num, hown4, hlow4⟩
      case measure => simp [intOf]; omega
    · have hkn : k = n := by omega
      have hO9 : wr.ownsRow w.heap.size 5 1 u4 (64 * n) (bv (flat s.now)) := by
        rw [hkn, List.take_of_length_le (by rw [HNOW.out]; exact Nat.le_refl _), HN.out] at hO
        exact hO
      clear hO hkn
      go_wp2
      go_ret2
      exact ⟨_, rfl, hO9, hbw⟩
end Go.Proofs.YtjnjokbdoendkaaGreat
namespace Go.Proofs.YtjnjokbdoendkaaGreat
open Go.RowKit
set_option linter.unusedVariables false

/-- what is read of a disk's bytes -/
def RFP (F : List (List Int)) (w : World) (e : Ending) (w' : World) : Prop := Below w.heap.size w w' ∧ (rdF F = none → e = .returned (.tuple #[.slice none 0 0, .int .i64 0, .int .i64 13])) ∧
  ∀ T p, rdF F = some (T, p) → TOk T ∧ T.length ≤ p ∧ p ≤ F.length ∧ ∃ v, e = .returned (.tuple #[v, .int .i64 (p : Int), .int .i64 0]) ∧ TL w' (fun k => w.heap.size ≤ k ∧ k < w'.heap.size) v T
set_option maxRecDepth 100000 in
theorem RFP.no {F : List (List Int)} {w w' : World} (hb : Below w.heap.size w w') (h : none = rdF F) : RFP F w (.returned (.tuple #[.slice none 0 0, .int .i64 0, .int .i64 13])) w' :=
  ⟨hb, fun _ => rfl, fun T p h2 => by rw [← h] at h2; cases h2⟩
set_option maxRecDepth 100000 in
theorem RFP.yes {F : List (List Int)} {w w' : World} {v : Value} {T : List (List Int)} {p : Nat} (hb : Below w.heap.size w w') (h : some (T, p) = rdF F) (h1 : TOk T) (h2 : T.length ≤ p) (h3 : p ≤ F.length) (ht : TL w' (fun k => w.heap.size ≤ k ∧ k < w'.heap.size) v T) : RFP F w (.returned (.tuple #[v, .int .i64 (p : Int), .int .i64 0])) w' :=
  ⟨hb, (fun h4 => by rw [← h] at h4; cases h4), fun T' p' h4 => by rw [← h] at h4; cases h4; exact ⟨h1, h2, h3, v, rfl, ht⟩⟩
set_option maxRecDepth 100000 in
theorem rfr_end {F : List (List Int)} {u p : Nat} {T : List (List Int)} (hu : F.length < u + p) (hp : p ≤ F.length) (h : ¬ (p < F.length ∧ F.getD p [] ≠ s0)) : rfr F u p T = some (T, p) := by
  obtain ⟨u, rfl⟩ : ∃ v, u = v + 1 := ⟨u - 1, by omega⟩
  rw [rfr, if_neg h]
set_option maxRecDepth 100000 in
theorem rfr_bad {F : List (List Int)} {u p : Nat} {T : List (List Int)} (hu : F.length < u + p) (hp : p < F.length) (h : F.getD p [] ≠ s0) (hb : ¬ (rdE (flat (F.drop p)) = 0 ∧ rdS (flat (F.drop p)) = (T.length : Int) + 1)) : rfr F u p T = none := by
  obtain ⟨u, rfl⟩ : ∃ v, u = v + 1 := ⟨u - 1, by omega⟩
  rw [rfr, if_pos ⟨hp, h⟩, if_neg hb]
set_option maxRecDepth 100000 in
theorem rfr_go {F : List (List Int)} {u p : Nat} {T : List (List Int)} (hu : F.length < u + p) (hp : p < F.length) (h : F.getD p [] ≠ s0) (hb : rdE (flat (F.drop p)) = 0) (hc : rdS (flat (F.drop p)) = (T.length : Int) + 1) : ∃ v, u = v + 1 ∧ rfr F u p T = rfr F v (p + ns (rdN (flat (F.drop p)))) (T ++ [rdT (flat (F.drop p))]) := by
  obtain ⟨u, rfl⟩ : ∃ v, u = v + 1 := ⟨u - 1, by omega⟩
  exact ⟨u, rfl, by rw [rfr, if_pos ⟨hp, h⟩, if_pos ⟨hb, hc⟩]⟩
set_option maxRecDepth 100000 in
set_option maxHeartbeats 1000000 in
theorem frames_any (F : List (List Int)) (a : Option Addr) (len cap : Nat) (w : World) (hsx : Sxl F) (hn : F.length ≤ 4096) (h : Bts w a len cap (flat F)) :
    Calls Tryz.prog 59 #[.slice a len cap] w (RFP F w) := by
  have hl := h.len_eq
  rw [flat_len hsx] at hl
  have hlc := h.le_cap
  have hcm := h.cap_le
  unfold maxLen at hcm
  have HB : Bx (Bts w a len cap (flat F)) := ⟨h⟩
  have HSX : Bx (Sxl F) := ⟨hsx⟩
  clear h hsx
  obtain ⟨N, hN⟩ : ∃ N, N = w.heap.size := ⟨_, rfl⟩
  have HN : Hid (N = w.heap.size) := hN
  clear hN
  obtain ⟨n, HNL⟩ : ∃ n, Bx (n = F.length) := ⟨_, ⟨rfl⟩⟩
  rw [← HNL.out] at hn hl
  have hst : ∃ u, n < u + 0 ∧ Bx (rfr F u 0 [] = rdF F) ∧ TL w (fun k => N ≤ k) (.slice none 0 0) [] ∧ Below N w w := ⟨n + 1, by omega, ⟨by rw [HNL.out]; rfl⟩, TL.nil _ _, Below.refl _ _⟩
  go_enter Tryz.func59, Tryz.ntmps59
  go_wp2
  go_loopw [5, 6] (fun v i wr => ∃ (p : Nat) (T : List (List Int)) (u : Nat), p ≤ n ∧ i = .int .i64 p ∧ T.length ≤ p ∧ Bx (TOk T) ∧ n < u + p ∧ Bx (rfr F u p T = rdF F) ∧ TL wr (fun k => N ≤ k) v T ∧ Below N w wr) (fun _ i _ => n - (intOf i).toNat)
  case atStart =>
    obtain ⟨u, h1, h2, h3, h4⟩ := hst
    exact ⟨0, [], u, Nat.zero_le _, rfl, Nat.le_refl _, ⟨TOk.nil⟩, h1, h2, h3, h4⟩
  case round =>
    clear hst
    obtain ⟨p, T, u, hp, rfl, hTp, HTO, hu, HR, hT, hlow⟩ := hrel
    obtain ⟨vT, hvT⟩ : ∃ vT, vT = u5 := ⟨_, rfl⟩
    subst hvT
    have hbw : Below w.heap.size w wr := by rw [← HN.out]; exact hlow
    have hT8 : TL wr (fun k => w.heap.size ≤ k ∧ k < wr.heap.size) vT T := hT.keep (fun _ _ _ => rfl) (Nat.le_refl _) (fun k hk ho => ⟨by rw [← HN.out]; exact ho, hk⟩)
    by_cases hlt : p < n
    · have hlt' : p < F.length := by rw [← HNL.out]; exact hlt
      have g1 : (p : Int) * 64 < (len : Int) := by omega
      have hbt := HB.out.below hbw
      have HSE : Bx (((flat F).drop (64 * p)).take 64 = F.getD p []) := ⟨flat_sec HSX.out p hlt'⟩
      by_cases hz : F.getD p [] = s0
      · have HY : Bx (some (T, p) = rdF F) := ⟨by rw [← HR.out]; exact (rfr_end (by rw [← HNL.out]; exact hu) (by rw [← HNL.out]; exact hp) (fun hh => hh.2 hz)).symm⟩
        have HZ : Bx (F.getD p [] = s0) := ⟨hz⟩
        have HPF : Bx (p ≤ F.length) := ⟨by rw [← HNL.out]; exact hp⟩
        clear hz hT hlow hlt'
        go_wp2_with fail
        refine (noughts_any a len cap p (flat F) _ hbt (by omega) (by omega)).mono ?_
        rintro e w' ⟨rfl, rfl⟩
        rw [HSE.out, decide_eq_true HZ.out]
        clear hbt
        go_wp2
        exact bodyPost_ret (v := .tuple #[vT, .int .i64 (p : Int), .int .i64 0]) (by simp [results, Tryz.results59, go_sem]) rfl (RFP.yes hbw HY.out HTO.out hTp HPF.out hT8)
      · have HZ : Bx (F.getD p [] ≠ s0) := ⟨hz⟩
        have HFD : Bx ((flat F).drop (64 * p) = flat (F.drop p)) := ⟨flat_drop HSX.out p⟩
        have HXB : Bx (Byt (flat (F.drop p))) := ⟨flat_byt (HSX.out.drop p)⟩
        have HXL : Bx ((flat (F.drop p)).length = len - p * 64) := ⟨by rw [flat_len (HSX.out.drop p), List.length_drop, ← HNL.out]; omega⟩
        obtain ⟨b, off, rfl, _, _⟩ := hbt.spot (by omega)
        have hpt := hbt.part (p * 64) (len - p * 64) (cap - p * 64) (by omega) (by omega) (by unfold maxLen; omega)
        rw [List.take_of_length_le (by rw [List.length_drop, hbt.len_eq]; exact Nat.le_refl _), show p * 64 = 64 * p from Nat.mul_comm _ _, HFD.out, show 64 * p = p * 64 from Nat.mul_comm _ _] at hpt
        have HBAD : Bx (¬ (rdE (flat (F.drop p)) = 0 ∧ rdS (flat (F.drop p)) = (T.length : Int) + 1) → none = rdF F) := ⟨fun hb => by rw [← HR.out]; exact (rfr_bad (by rw [← HNL.out]; exact hu) hlt' HZ.out hb).symm⟩
        have HGO : Bx (rdE (flat (F.drop p)) = 0 → rdS (flat (F.drop p)) = (T.length : Int) + 1 → ∃ v, u = v + 1 ∧ rfr F v (p + ns (rdN (flat (F.drop p)))) (T ++ [rdT (flat (F.drop p))]) = rdF F) := ⟨fun h1 h2 => by
          obtain ⟨v, e1, e2⟩ := rfr_go (by rw [← HNL.out]; exact hu) hlt' HZ.out h1 h2
          exact ⟨v, e1, by rw [← e2]; exact HR.out⟩⟩
        have HBT : Bx _ := ⟨hbt⟩
        obtain ⟨av, cv, hvf, hcv⟩ := hT.form
        subst hvf
        clear hz hT8 hbt hlt'
        go_wp2_with fail
        refine (noughts_any _ len cap p (flat F) _ HBT.out (by omega) (by omega)).mono ?_
        rintro e w' ⟨rfl, rfl⟩
        rw [HSE.out, decide_eq_false HZ.out]
        have g2 : (p : Int) * 64 ≤ (len : Int) := by omega
        have g3 : ¬ cap = p * 64 := by omega
        clear HBT
        generalize flat (F.drop p) = X at HXB HXL HBAD HGO hpt
        go_wp2_with fail
        refine (read8_any _ _ _ _ _ hpt).mono ?_
        rintro e w3 ⟨v3, rfl, hown3, hb3⟩
        have hlow3 : Below N w w3 := hlow.trans (hb3.mono (by rw [HN.out]; exact hbw.size))
        have hbw3 : Below w.heap.size w w3 := by rw [← HN.out]; exact hlow3
        by_cases he0 : rdE X = 0
        · obtain ⟨r1, r2, r3, r4, r5⟩ := rdN_le HXB.out he0
          rw [HXL.out] at r1
          obtain ⟨a3, c3, rfl, hm3⟩ := Bts.of_owns hown3 (rdT_byt HXB.out)
          rw [he0]
          by_cases hs1 : rdS X = (T.length : Int) + 1
          · obtain ⟨u', hu', HR'⟩ := HGO.out he0 hs1
            have HFAR : Bx (0 < (rdT X).length → ∀ q, a3 = some q → N ≤ q.block ∧ (Value.slice av T.length cv).ownBlock ≠ some q.block) := ⟨fun _ q e => by
              have h1 := own_ge hown3 q e
              refine ⟨by have := hbw.size; rw [HN.out]; omega, fun e2 => ?_⟩
              obtain ⟨xs, ho, _⟩ := hT.row
              have := (ho.lt q.block e2).2
              omega⟩
            have HTO' : Bx (TOk (T ++ [rdT X])) := ⟨HTO.out.snoc r3 hm3.byt⟩
            have hs3 : N ≤ w3.heap.size := by rw [HN.out]; exact hbw3.size
            have HVB : Bx (∀ j, (Value.slice av T.length cv).ownBlock = some j → N ≤ j) := ⟨fun j hj => hT.ob j hj⟩
            obtain ⟨xs, hown, HTA⟩ := (hT.below hb3).open
            have HRR : Bx _ := ⟨HR'⟩
            have hns : ns (rdN X) ≤ n - p := by unfold ns; omega
            have hns1 : 1 ≤ ns (rdN X) := by unfold ns; omega
            have hrn : rdN X ≤ 1000000 := by omega
            have hu2 : n < u' + (p + ns (rdN X)) := by omega
            have hsb : (rdS X != (T.length : Int) + 1) = false := by rw [hs1]; simp
            have HM3 : Bx _ := ⟨hm3⟩
            have HLOW : Bx _ := ⟨hlow3⟩
            obtain ⟨i0, hi, hz0, hz1, hz2⟩ := info_parts Tryz.info22
            have hTl : T.length ≤ 4096 := by omega
            clear HGO HBAD hT hown3 hb3 hm3 hbw hlow hlow3 hbw3 hpt he0 HR' r1 r2 r3 r4 r5 hu' hs1
            generalize rdS X = S at hsb ⊢
            generalize hrt : rdT X = t at HFAR HTO' HM3 HRR ⊢
            clear hrt
            generalize hrn2 : rdN X = m at hns hns1 hrn hu2 HRR ⊢
            clear hrn2
            generalize ht1 : t.length = tl at HFAR HM3 ⊢
            clear ht1
            go_wp2_with fail
            refine (number_any _ _ _ _ hTl).mono ?_
            rintro e w' ⟨rfl, rfl⟩
            have HKT : ∃ k, Bx (k = T.length) := ⟨_, ⟨rfl⟩⟩
            obtain ⟨k, HKT⟩ := HKT
            rw [← HKT.out] at hTp hown HFAR HVB hTl hsb HTA ⊢
            go_wp2_with (at_builtin; refine wpList_append_lies _ rfl (.tmp 40) (.tmp 42) 57 rfl 0 46 i0 (.slice none 0 0) 1 24 Tryz.underlying57 hi hz0 hz1 hz2 rfl (by decide) _ k xs rfl (hown.alloc _) ⟨w3.heap.size, 0, none⟩ 1 1 [.slice a3 tl c3] rfl rfl (cell_one_new _ _ _) (by simp [Value.oneCell']) (by decide) (by unfold maxLen; omega) (by omega) (Nat.zero_le _) _ rfl ?_; intro g4 cap4 w4 hown4 hgr4 hl4 _)
            have hbig : (w3.alloc (.cells #[.slice a3 tl c3] 46)).heap.size = w3.heap.size + 1 := by simp
            have hg4 : N ≤ g4 := by
              rcases hl4 with h1 | h1
              · exact HVB.out g4 h1
              · rw [h1, hbig]; omega
            have hT4 := HTA.out.done HKT.out HM3.out HFAR.out hown4 hgr4 hl4 (fun _ h => h) hg4
            have hK4 : Below N w w4 := (HLOW.out.alloc hs3 _).grown hgr4 (by rw [hbig]; omega) HVB.out
            have HLN : Bx ((T ++ [t]).length ≤ p + ns m) := ⟨by rw [List.length_append, ← HKT.out]; show k + 1 ≤ _; omega⟩
            clear hown4 hgr4 hl4 hown hi hz0 hz1 hz2 hbig hg4
            go_wp2_with fail
            refine (wsec_any m _ hrn).mono ?_
            rintro e w' ⟨rfl, rfl⟩
            generalize ns m = q at hns hns1 hu2 HRR HLN ⊢
            go_wp2
            go_roundw
            case rel => exact ⟨p + q, T ++ [t], u', by omega, by go_num, HLN.out, HTO', hu2, HRR, hT4, hK4⟩
            case measure => simp [intOf]; omega
          · have HNO := HBAD.out (fun hh => hs1 hh.2)
            have hsb : (rdS X != (T.length : Int) + 1) = true := by simpa using hs1
            have hTl : T.length ≤ 4096 := by omega
            have HNO' : Bx _ := ⟨HNO⟩
            clear HGO HBAD hT hown3 hb3 hm3 hbw hlow hlow3 hpt he0 r1 r2 r3 r4 r5 hs1 HNO
            generalize rdS X = S at hsb ⊢
            generalize (rdT X).length = tl
            generalize rdN X = m
            go_wp2_with fail
            refine (number_any _ _ _ _ hTl).mono ?_
            rintro e w' ⟨rfl, rfl⟩
            go_wp2
            exact bodyPost_ret (v := .tuple #[.slice none 0 0, .int .i64 0, .int .i64 13]) (by simp [results, Tryz.results59, go_sem]) rfl (RFP.no hbw3 HNO'.out)
        · have HNO := HBAD.out (fun hh => he0 hh.1)
          have heb : (rdE X != 0) = true := by simpa using he0
          have HNO' : Bx _ := ⟨HNO⟩
          clear HGO HBAD hT hown3 hb3 hbw hlow hlow3 hpt he0 HNO
          generalize rdS X = S
          generalize rdN X = m
          generalize rdE X = E at heb ⊢
          go_wp2
          exact bodyPost_ret (v := .tuple #[.slice none 0 0, .int .i64 0, .int .i64 13]) (by simp [results, Tryz.results59, go_sem]) rfl (RFP.no hbw3 HNO'.out)
    · have hpn : p = n := by omega
      have HY : Bx (some (T, p) = rdF F) := ⟨by rw [← HR.out]; exact (rfr_end (by rw [← HNL.out]; exact hu) (by rw [← HNL.out]; exact hp) (fun hh => hlt (by rw [HNL.out]; exact hh.1))).symm⟩
      have g1 : ¬ (p : Int) * 64 < (len : Int) := by omega
      have HPF : Bx (p ≤ F.length) := ⟨by rw [← HNL.out]; exact hp⟩
      clear hT hlow hpn
      go_wp2
      exact bodyPost_ret (v := .tuple #[vT, .int .i64 (p : Int), .int .i64 0]) (by simp [results, Tryz.results59, go_sem]) rfl (RFP.yes hbw HY.out HTO.out hTp HPF.out hT8)
end Go.Proofs.YtjnjokbdoendkaaGreat
namespace Go.Proofs.YtjnjokbdoendkaaGreat
open Go.RowKit
set_option linter.unusedVariables false

set_option maxRecDepth 100000 in
theorem bts_nil (w : World) : Bts w none 0 0 [] := ⟨rfl, Byt.nil, Nat.le_refl _, Nat.zero_le _, fun _ => rfl, fun hp => absurd hp (Nat.lt_irrefl _)⟩
set_option maxRecDepth 100000 in
theorem wr_O {s : DS} (x : Int) (b : List Int) : (s.wr x b).O.length ≤ s.O.length + 1 := by
  unfold DS.wr
  split
  · omega
  · split
    · split
      · show s.O.length ≤ _; omega
      · show (s.O ++ _).length ≤ _; simp
    · omega
set_option maxRecDepth 100000 in
theorem wipL_z {N : List (List Int)} {p j : Nat} {s : DS} {b : Bool} (h : N.getD (p + j) [] = s0) : wipL N p (j + 1) s b = wipL N p j s b := by rw [wipL, if_pos h]
set_option maxRecDepth 100000 in
theorem wipL_w {N : List (List Int)} {p j : Nat} {s : DS} {b : Bool} (h : N.getD (p + j) [] ≠ s0) (he : s.wrE ((p + j : Nat) : Int) [] = 0) : wipL N p (j + 1) s b = wipL N p j (s.wr ((p + j : Nat) : Int) []) true := by rw [wipL, if_neg h, if_pos he]
set_option maxRecDepth 100000 in
theorem wipL_e {N : List (List Int)} {p j : Nat} {s : DS} {b : Bool} (h : N.getD (p + j) [] ≠ s0) (he : s.wrE ((p + j : Nat) : Int) [] ≠ 0) : wipL N p (j + 1) s b = (s.wr ((p + j : Nat) : Int) [], b, s.wrE ((p + j : Nat) : Int) []) := by rw [wipL, if_neg h, if_neg he]
set_option maxRecDepth 100000 in
set_option maxHeartbeats 1000000 in
theorem wipe_any (g : Nat) (own : Nat → Prop) (s : DS) (p : Nat) (a : Option Addr) (len cap : Nat) (w : World) (hD : Dsk w g own s) (hbt : Bts w a len cap (flat s.now)) (hfar : 0 < len → ∀ q, a = some q → ¬ own q.block) (hp : p ≤ s.F.length) (hO : s.O.length ≤ 900000) :
    Calls Tryz.prog 60 #[.pointer (some ⟨g, 0, none⟩), .slice a len cap, .int .i64 (p : Int)] w fun e w' => e = .returned (.int .i64 (s.wipE p)) ∧ ∃ own', Dsk w' g own' (s.wipS p) ∧ Did own w w' own' := by
  have hn2 := hD.ok.n2
  have hsx := now_sx hD.ok
  have hl := hbt.len_eq
  rw [flat_len hsx, now_len] at hl
  have HSE : Bx (∀ k, k < s.F.length → ((flat s.now).drop (64 * k)).take 64 = s.now.getD k []) := ⟨fun k hk => flat_sec hsx k (by rw [now_len]; exact hk)⟩
  have HBT : Bx (∀ W, Kept own w W → Bts W a len cap (flat s.now)) := ⟨fun W hW => hbt.keep (fun hp q e => hW.block _ (hbt.lt hp e) (hfar hp q e)) hW.size⟩
  have HD : Bx (Dsk w g own s) := ⟨hD⟩
  have HR0 : Bx (wipL s.now p (s.F.length - p) s false = s.wipR p) := ⟨rfl⟩
  have HOs : Bx (s.O.length ≤ 900000) := ⟨hO⟩
  clear hD hsx hbt hfar hO
  obtain ⟨n, HNL⟩ : ∃ n, Bx (n = s.F.length) := ⟨_, ⟨rfl⟩⟩
  rw [← HNL.out] at hp hn2 hl HSE HR0
  obtain ⟨N, hN⟩ : ∃ N, N = s.now := ⟨_, rfl⟩
  rw [← hN] at HSE HBT HR0
  clear hN
  go_enter Tryz.func60, Tryz.ntmps60
  go_wp2_with fail
  refine (sectors_any g own s _ HD.out).mono ?_
  rintro e w' ⟨rfl, rfl⟩
  rw [← HNL.out]
  go_wp2
  go_loopw [7, 8] (fun v i wr => ∃ (j : Nat) (b : Bool) (s1 : DS) (own1 : Nat → Prop), j ≤ n - p ∧ v = .bool b ∧ i = .int .i64 ((p : Int) + (j : Int) - 1) ∧ Bx (wipL N p j s1 b = s.wipR p) ∧ Bx (s1.F.length = n) ∧ Bx (s1.O.length + j ≤ 900000 + n) ∧ Dsk wr g own1 s1 ∧ Did own w wr own1) (fun _ i _ => (intOf i + 1).toNat)
  case atStart => exact ⟨n - p, false, s, own, Nat.le_refl _, rfl, by congr 1; omega, HR0, ⟨HNL.out.symm⟩, ⟨by have := HOs.out; omega⟩, HD.out, Did.same (Kept.refl _ _)⟩
  case round =>
    obtain ⟨j, b, s1, own1, hj, rfl, rfl, HR, HF1, HO1, hD1, hdid⟩ := hrel
    clear HR0 HD
    have HD1 : Bx (Dsk wr g own1 s1) := ⟨hD1⟩
    have HDI : Bx (Did own w wr own1) := ⟨hdid⟩
    by_cases hj0 : j = 0
    · subst hj0
      have hge : decide ((p : Int) + ((0 : Nat) : Int) - 1 ≥ (p : Int)) = false := decide_eq_false (by omega)
      have HRR : Bx (s.wipR p = (s1, b, 0)) := ⟨HR.out.symm⟩
      clear HR hD1 hdid
      cases b with
      | false =>
        have HE := wip_no HRR.out rfl rfl
        have HE' : Bx _ := ⟨HE⟩
        clear HE HRR
        go_wp2
        go_ret
        exact ⟨ret_int HE'.out.1.symm, own1, by rw [HE'.out.2]; exact HD1.out, HDI.out⟩
      | true =>
        have HE := wip_sy HRR.out rfl rfl
        have HE' : Bx _ := ⟨HE⟩
        clear HE HRR
        go_wp2_with fail
        refine (sync_any g own1 s1 _ HD1.out (by have := HO1.out; omega)).mono ?_
        rintro e w3 ⟨rfl, hD3, hk3⟩
        rw [show s1.syE = s.wipE p from HE'.out.1.symm]
        have HD3 : Bx (Dsk w3 g own1 (s.wipS p)) := ⟨by rw [HE'.out.2]; exact hD3⟩
        have HDI3 : Bx _ := ⟨HDI.out.trans (Did.same hk3)⟩
        clear hD3 hk3
        go_wp2
        go_ret
        exact ⟨rfl, own1, HD3.out, HDI3.out⟩
    · obtain ⟨j, rfl⟩ : ∃ i, j = i + 1 := ⟨j - 1, by omega⟩
      have hat : (p : Int) + ((j + 1 : Nat) : Int) - 1 = ((p + j : Nat) : Int) := by omega
      rw [hat]
      clear hat hj0
      have hge : decide (p ≤ p + j) = true := decide_eq_true (by omega)
      have hbt := HBT.out wr hdid.kept
      have hse := HSE.out (p + j) (by omega)
      clear hD1 hdid
      obtain ⟨x, hx⟩ : ∃ x, x = p + j := ⟨_, rfl⟩
      rw [← hx] at hge hse ⊢
      have hxn : x < n := by omega
      have hdec : IntKind.i64.wrap ((x : Int) - 1) = (x : Int) - 1 := IntWalk.i64_in _ (by omega)
      have HX : Bx (x = p + j) := ⟨hx⟩
      clear hx
      go_wp2_with fail
      refine (noughts_any a len cap x (flat N) _ hbt (by omega) (by omega)).mono ?_
      rintro e w' ⟨rfl, rfl⟩
      rw [hse]
      clear hbt hse
      by_cases hz : N.getD x [] = s0
      · rw [decide_eq_true hz]
        have HR' : Bx (wipL N p j s1 b = s.wipR p) := ⟨by rw [← HR.out]; exact (wipL_z (by rw [← HX.out]; exact hz)).symm⟩
        clear hz HR
        go_wp2
        go_roundw
        case rel => exact ⟨j, b, s1, own1, by omega, rfl, by have := HX.out; congr 1; omega, HR', HF1, ⟨by have := HO1.out; omega⟩, HD1.out, HDI.out⟩
        case measure => simp [intOf]
      · rw [decide_eq_false hz]
        go_wp2_with fail
        refine (write_any g own1 s1 x none 0 0 [] _ HD1.out (bts_nil _) (fun hp => absurd hp (Nat.lt_irrefl _)) (by have := HO1.out; omega)).mono ?_
        rintro e w3 ⟨rfl, own3, hD3, hdid3⟩
        have HD3 : Bx _ := ⟨hD3⟩
        have HDI3 : Bx _ := ⟨HDI.out.trans hdid3⟩
        clear hD3 hdid3
        by_cases he : s1.wrE (x : Int) [] = 0
        · have HR' : Bx (wipL N p j (s1.wr (x : Int) []) true = s.wipR p) := ⟨by rw [← HR.out, HX.out]; exact (wipL_w (by rw [← HX.out]; exact hz) (by rw [← HX.out]; exact he)).symm⟩
          have HF' : Bx ((s1.wr (x : Int) []).F.length = n) := ⟨by rw [wr_same]; exact HF1.out⟩
          have HO' : Bx ((s1.wr (x : Int) []).O.length + j ≤ 900000 + n) := ⟨by have := HO1.out; have := wr_O (s := s1) (x : Int) []; omega⟩
          rw [he]
          clear hz HR he
          generalize s1.wr (x : Int) [] = s2 at HD3 HR' HF' HO'
          go_wp2
          go_roundw
          case rel => exact ⟨j, true, s2, own3, by omega, rfl, by have := HX.out; congr 1; omega, HR', HF', HO', HD3.out, HDI3.out⟩
          case measure => simp [intOf]
        · have HRR : s.wipR p = (s1.wr (x : Int) [], b, s1.wrE (x : Int) []) := by rw [← HR.out, HX.out]; exact wipL_e (by rw [← HX.out]; exact hz) (by rw [← HX.out]; exact he)
          have HE := wip_err HRR he
          have HE' : Bx _ := ⟨HE⟩
          have heb : (s1.wrE (x : Int) [] != 0) = true := by simpa using he
          clear hz HR he HE HRR
          generalize s1.wrE (x : Int) [] = E at heb HE' ⊢
          go_wp2
          go_ret
          exact ⟨ret_int HE'.out.1.symm, own3, by rw [HE'.out.2]; exact HD3.out, HDI3.out⟩
end Go.Proofs.YtjnjokbdoendkaaGreat
namespace Go.Proofs.YtjnjokbdoendkaaGreat
open Go.RowKit
set_option linter.unusedVariables false

set_option maxRecDepth 100000 in
theorem wopen_lg {w2 w3 : World} {g p N : Nat} {a2 : Option Addr} {c2 : Nat} {own own3 : Nat → Prop} {T : List (List Int)} (t1 : TOk T) (t2 : T.length ≤ p) (t3 : p ≤ 4096) (hT : TL w2 (fun k => N ≤ k ∧ k < w2.heap.size) (.slice a2 T.length c2) T) (hlt : ∀ k, own k → k < N) (hdid : Did own w2 w3 own3) (hs : N ≤ w2.heap.size) :
    Lg (w3.alloc (.cells #[.pointer (some ⟨g, 0, none⟩), .slice a2 T.length c2, .int .i64 (p : Int), .bool false] 121)) w3.heap.size (fun k => (N ≤ k ∧ k < w2.heap.size) ∨ k = w3.heap.size) g ⟨T, p, false⟩ := by
  have hk := hdid.kept
  have hT3 := hT.kept hk (fun k hk ho => by have := hlt k ho; omega)
  have hb : Below w3.heap.size w3 (w3.alloc (.cells #[.pointer (some ⟨g, 0, none⟩), .slice a2 T.length c2, .int .i64 (p : Int), .bool false] 121)) := (Below.refl _ _).alloc (Nat.le_refl _) _
  refine ⟨_, ⟨heap_alloc_new _ _, (hT3.below hb).keep (fun _ _ _ => rfl) (Nat.le_refl _) (fun k _ ho => ⟨.inl ho, by have := hk.size; omega⟩), .inr rfl, fun k hk2 => ?_, t1, t2, t3⟩⟩
  have hz : (w3.alloc (.cells #[.pointer (some ⟨g, 0, none⟩), .slice a2 T.length c2, .int .i64 (p : Int), .bool false] 121)).heap.size = w3.heap.size + 1 := by simp
  rw [hz]
  have := hk.size
  rcases hk2 with h | h <;> omega
set_option maxRecDepth 100000 in
set_option maxHeartbeats 1000000 in
theorem wopen_ok (g : Nat) (own : Nat → Prop) (s : DS) (w : World) (T : List (List Int)) (p : Nat) (hD : Dsk w g own s) (hoff : s.off = false) (hr : rdF s.now = some (T, p)) (hO : s.O.length ≤ 900000) (hE : s.wipE p = 0) :
    Calls Tryz.prog 34 #[.pointer (some ⟨g, 0, none⟩)] w fun e w' => ∃ gl, e = .returned (.tuple #[.pointer (some ⟨gl, 0, none⟩), .int .i64 0]) ∧ ∃ own' ownL, Dsk w' g own' (s.wipS p) ∧ Did own w w' own' ∧ Lg w' gl ownL g ⟨T, p, false⟩ ∧ (∀ k, ownL k → w.heap.size ≤ k) ∧ (∀ k, ownL k → ¬ own' k) := by
  have hn1 := hD.ok.n1
  have hn2 := hD.ok.n2
  have hsx := now_sx hD.ok
  have hnl := now_len s
  have HD : Bx (Dsk w g own s) := ⟨hD⟩
  have HLT : Bx (∀ k, own k → k < w.heap.size) := ⟨hD.lt⟩
  have hq : ((s.F.length : Int) == 0) = false := beq_eq_false_iff_ne.2 (by omega)
  clear hD
  go_enter Tryz.func34, Tryz.ntmps34
  go_wp2_with fail
  refine (sectors_any g own s _ HD.out).mono ?_
  rintro e w' ⟨rfl, rfl⟩
  go_wp2_with fail
  refine (rdisk_on g own s _ HD.out hoff).mono ?_
  rintro e w1 ⟨v1, rfl, hown1, hb1⟩
  have hby := flat_byt hsx
  obtain ⟨a1, c1, rfl, hm1⟩ := Bts.of_owns hown1 hby
  have HBT : Bx _ := ⟨hm1⟩
  have HFAR : Bx (0 < 64 * s.F.length → ∀ q, a1 = some q → ¬ own q.block) := ⟨fun _ q e ho => by have h1 := (own_ge hown1 q e).1; have := HLT.out _ ho; omega⟩
  clear hown1 hm1 hby
  go_wp2_with fail
  refine (frames_any s.now a1 _ c1 _ hsx (by rw [hnl]; exact hn2) HBT.out).mono ?_
  rintro e w2 ⟨hb2, r1, r2⟩
  obtain ⟨t1, t2, t3, v2, rfl, hT⟩ := r2 T p hr
  rw [hnl] at t3
  have hb := bstep hb1 hb2
  have HB : Bx _ := ⟨hb⟩
  have hD2 := HD.out.below hb
  have hbt2 := HBT.out.below hb2
  obtain ⟨a2, c2, rfl, _⟩ := hT.form
  have hT' : TL w2 (fun k => w.heap.size ≤ k ∧ k < w2.heap.size) (.slice a2 T.length c2) T := hT.keep (fun _ _ _ => rfl) (Nat.le_refl _) (fun k _ ho => ⟨by have := hb1.size; omega, ho.2⟩)
  have HTT : Bx _ := ⟨hT'⟩
  have HTO : Bx _ := ⟨t1⟩
  clear r1 r2 hb1 hb2 hb HBT hT hT' t1
  go_wp2_with fail
  refine (wipe_any g own s p a1 _ c1 _ hD2 hbt2 HFAR.out t3 hO).mono ?_
  rintro e w3 ⟨rfl, own3, hD3, hdid⟩
  have HD3 : Bx (Dsk w3 g own3 (s.wipS p)) := ⟨hD3⟩
  have HDI : Bx _ := ⟨hdid⟩
  rw [hE]
  have HLG : Bx _ := ⟨wopen_lg (g := g) HTO.out t2 (Nat.le_trans t3 hn2) HTT.out HLT.out hdid HB.out.size⟩
  clear hD2 hbt2 hD3 hdid hE hr
  generalize hTl : T.length = m at HLG t2 ⊢
  clear hTl
  go_wp2
  go_ret2
  have hba : Below w3.heap.size w3 (w3.alloc (.cells #[.pointer (some ⟨g, 0, none⟩), .slice a2 m c2, .int .i64 (p : Int), .bool false] 121)) := (Below.refl _ _).alloc (Nat.le_refl _) _
  have hsz := HDI.out.kept.size
  have hsb := HB.out.size
  refine ⟨_, rfl, own3, _, HD3.out.below hba, ((Did.same (Kept.of_below HB.out)).trans HDI.out).below hba, HLG.out, fun k hk => ?_, fun k hk ho => ?_⟩
  · rcases hk with h | h
    · exact h.1
    · omega
  · rcases hk with h | h
    · rcases HDI.out.new k ho with h2 | h2
      · have := HLT.out k h2; omega
      · omega
    · have := HD3.out.lt k ho
      omega
end Go.Proofs.YtjnjokbdoendkaaGreat
