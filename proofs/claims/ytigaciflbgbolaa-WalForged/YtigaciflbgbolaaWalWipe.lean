/- What wipe answers, and Open. -/
import Derived.Test.YtigaciflbgbolaaWalFrames
namespace Go.Proofs.Ytigaciflbgbolaa
open Go.RowKit
set_option linter.unusedVariables false

set_option maxRecDepth 100000 in
theorem bts_nil (w : World) : Bts w none 0 0 [] := ⟨rfl, Byt.nil, Nat.le_refl _, Nat.zero_le _, fun _ => rfl, fun hp => absurd hp (Nat.lt_irrefl _)⟩
set_option maxRecDepth 100000 in
theorem wr_O {s : DS} (x : Int) (b : List Int) : (s.wr x b).O.length ≤ s.O.length + 1 := by
  unfold DS.wr
  split
  · omega
  · split
    · split
      · show s.O.length ≤ _; omega
      · show (s.O ++ _).length ≤ _; simp
    · omega
set_option maxRecDepth 100000 in
theorem wipL_z {N : List (List Int)} {p j : Nat} {s : DS} {b : Bool} (h : N.getD (p + j) [] = s0) : wipL N p (j + 1) s b = wipL N p j s b := by rw [wipL, if_pos h]
set_option maxRecDepth 100000 in
theorem wipL_w {N : List (List Int)} {p j : Nat} {s : DS} {b : Bool} (h : N.getD (p + j) [] ≠ s0) (he : s.wrE ((p + j : Nat) : Int) [] = 0) : wipL N p (j + 1) s b = wipL N p j (s.wr ((p + j : Nat) : Int) []) true := by rw [wipL, if_neg h, if_pos he]
set_option maxRecDepth 100000 in
theorem wipL_e {N : List (List Int)} {p j : Nat} {s : DS} {b : Bool} (h : N.getD (p + j) [] ≠ s0) (he : s.wrE ((p + j : Nat) : Int) [] ≠ 0) : wipL N p (j + 1) s b = (s.wr ((p + j : Nat) : Int) [], b, s.wrE ((p + j : Nat) : Int) []) := by rw [wipL, if_neg h, if_neg he]
set_option maxRecDepth 100000 in
set_option maxHeartbeats 1000000 in
theorem wipe_any (g : Nat) (own : Nat → Prop) (s : DS) (p : Nat) (a : Option Addr) (len cap : Nat) (w : World) (hD : Dsk w g own s) (hbt : Bts w a len cap (flat s.now)) (hfar : 0 < len → ∀ q, a = some q → ¬ own q.block) (hp : p ≤ s.F.length) (hO : s.O.length ≤ 900000) :
    Calls Try.prog 43 #[.pointer (some ⟨g, 0, none⟩), .slice a len cap, .int .i64 (p : Int)] w fun e w' => e = .returned (.int .i64 (s.wipE p)) ∧ ∃ own', Dsk w' g own' (s.wipS p) ∧ Did own w w' own' := by
  have hn2 := hD.ok.n2
  have hsx := now_sx hD.ok
  have hl := hbt.len_eq
  rw [flat_len hsx, now_len] at hl
  have HSE : Bx (∀ k, k < s.F.length → ((flat s.now).drop (64 * k)).take 64 = s.now.getD k []) := ⟨fun k hk => flat_sec hsx k (by rw [now_len]; exact hk)⟩
  have HBT : Bx (∀ W, Kept own w W → Bts W a len cap (flat s.now)) := ⟨fun W hW => hbt.keep (fun hp q e => hW.block _ (hbt.lt hp e) (hfar hp q e)) hW.size⟩
  have HD : Bx (Dsk w g own s) := ⟨hD⟩
  have HR0 : Bx (wipL s.now p (s.F.length - p) s false = s.wipR p) := ⟨rfl⟩
  have HOs : Bx (s.O.length ≤ 900000) := ⟨hO⟩
  clear hD hsx hbt hfar hO
  obtain ⟨n, HNL⟩ : ∃ n, Bx (n = s.F.length) := ⟨_, ⟨rfl⟩⟩
  rw [← HNL.out] at hp hn2 hl HSE HR0
  obtain ⟨N, hN⟩ : ∃ N, N = s.now := ⟨_, rfl⟩
  rw [← hN] at HSE HBT HR0
  clear hN
  go_enter Try.func43, Try.ntmps43
  go_wp2_with fail
  refine (sectors_any g own s _ HD.out).mono ?_
  rintro e w' ⟨rfl, rfl⟩
  rw [← HNL.out]
  go_wp2
  go_loopw [7, 8] (fun v i wr => ∃ (j : Nat) (b : Bool) (s1 : DS) (own1 : Nat → Prop), j ≤ n - p ∧ v = .bool b ∧ i = .int .i64 ((p : Int) + (j : Int) - 1) ∧ Bx (wipL N p j s1 b = s.wipR p) ∧ Bx (s1.F.length = n) ∧ Bx (s1.O.length + j ≤ 900000 + n) ∧ Dsk wr g own1 s1 ∧ Did own w wr own1) (fun _ i _ => (intOf i + 1).toNat)
  case atStart => exact ⟨n - p, false, s, own, Nat.le_refl _, rfl, by congr 1; omega, HR0, ⟨HNL.out.symm⟩, ⟨by have := HOs.out; omega⟩, HD.out, Did.same (Kept.refl _ _)⟩
  case round =>
    obtain ⟨j, b, s1, own1, hj, rfl, rfl, HR, HF1, HO1, hD1, hdid⟩ := hrel
    clear HR0 HD
    have HD1 : Bx (Dsk wr g own1 s1) := ⟨hD1⟩
    have HDI : Bx (Did own w wr own1) := ⟨hdid⟩
    by_cases hj0 : j = 0
    · subst hj0
      have hge : decide ((p : Int) + ((0 : Nat) : Int) - 1 ≥ (p : Int)) = false := decide_eq_false (by omega)
      have HRR : Bx (s.wipR p = (s1, b, 0)) := ⟨HR.out.symm⟩
      clear HR hD1 hdid
      cases b with
      | false =>
        have HE := wip_no HRR.out rfl rfl
        have HE' : Bx _ := ⟨HE⟩
        clear HE HRR
        go_wp2
        go_ret
        exact ⟨ret_int HE'.out.1.symm, own1, by rw [HE'.out.2]; exact HD1.out, HDI.out⟩
      | true =>
        have HE := wip_sy HRR.out rfl rfl
        have HE' : Bx _ := ⟨HE⟩
        clear HE HRR
        go_wp2_with fail
        refine (sync_any g own1 s1 _ HD1.out (by have := HO1.out; omega)).mono ?_
        rintro e w3 ⟨rfl, hD3, hk3⟩
        rw [show s1.syE = s.wipE p from HE'.out.1.symm]
        have HD3 : Bx (Dsk w3 g own1 (s.wipS p)) := ⟨by rw [HE'.out.2]; exact hD3⟩
        have HDI3 : Bx _ := ⟨HDI.out.trans (Did.same hk3)⟩
        clear hD3 hk3
        go_wp2
        go_ret
        exact ⟨rfl, own1, HD3.out, HDI3.out⟩
    · obtain ⟨j, rfl⟩ : ∃ i, j = i + 1 := ⟨j - 1, by omega⟩
      have hat : (p : Int) + ((j + 1 : Nat) : Int) - 1 = ((p + j : Nat) : Int) := by omega
      rw [hat]
      clear hat hj0
      have hge : decide (p ≤ p + j) = true := decide_eq_true (by omega)
      have hbt := HBT.out wr hdid.kept
      have hse := HSE.out (p + j) (by omega)
      clear hD1 hdid
      obtain ⟨x, hx⟩ : ∃ x, x = p + j := ⟨_, rfl⟩
      rw [← hx] at hge hse ⊢
      have hxn : x < n := by omega
      have hdec : IntKind.i64.wrap ((x : Int) - 1) = (x : Int) - 1 := IntWalk.i64_in _ (by omega)
      have HX : Bx (x = p + j) := ⟨hx⟩
      clear hx
      go_wp2_with fail
      refine (noughts_any a len cap x (flat N) _ hbt (by omega) (by omega)).mono ?_
      rintro e w' ⟨rfl, rfl⟩
      rw [hse]
      clear hbt hse
      by_cases hz : N.getD x [] = s0
      · rw [decide_eq_true hz]
        have HR' : Bx (wipL N p j s1 b = s.wipR p) := ⟨by rw [← HR.out]; exact (wipL_z (by rw [← HX.out]; exact hz)).symm⟩
        clear hz HR
        go_wp2
        go_roundw
        case rel => exact ⟨j, b, s1, own1, by omega, rfl, by have := HX.out; congr 1; omega, HR', HF1, ⟨by have := HO1.out; omega⟩, HD1.out, HDI.out⟩
        case measure => simp [intOf]
      · rw [decide_eq_false hz]
        go_wp2_with fail
        refine (write_any g own1 s1 x none 0 0 [] _ HD1.out (bts_nil _) (fun hp => absurd hp (Nat.lt_irrefl _)) (by have := HO1.out; omega)).mono ?_
        rintro e w3 ⟨rfl, own3, hD3, hdid3⟩
        have HD3 : Bx _ := ⟨hD3⟩
        have HDI3 : Bx _ := ⟨HDI.out.trans hdid3⟩
        clear hD3 hdid3
        by_cases he : s1.wrE (x : Int) [] = 0
        · have HR' : Bx (wipL N p j (s1.wr (x : Int) []) true = s.wipR p) := ⟨by rw [← HR.out, HX.out]; exact (wipL_w (by rw [← HX.out]; exact hz) (by rw [← HX.out]; exact he)).symm⟩
          have HF' : Bx ((s1.wr (x : Int) []).F.length = n) := ⟨by rw [wr_same]; exact HF1.out⟩
          have HO' : Bx ((s1.wr (x : Int) []).O.length + j ≤ 900000 + n) := ⟨by have := HO1.out; have := wr_O (s := s1) (x : Int) []; omega⟩
          rw [he]
          clear hz HR he
          generalize s1.wr (x : Int) [] = s2 at HD3 HR' HF' HO'
          go_wp2
          go_roundw
          case rel => exact ⟨j, true, s2, own3, by omega, rfl, by have := HX.out; congr 1; omega, HR', HF', HO', HD3.out, HDI3.out⟩
          case measure => simp [intOf]
        · have HRR : s.wipR p = (s1.wr (x : Int) [], b, s1.wrE (x : Int) []) := by rw [← HR.out, HX.out]; exact wipL_e (by rw [← HX.out]; exact hz) (by rw [← HX.out]; exact he)
          have HE := wip_err HRR he
          have HE' : Bx _ := ⟨HE⟩
          have heb : (s1.wrE (x : Int) [] != 0) = true := by simpa using he
          clear hz HR he HE HRR
          generalize s1.wrE (x : Int) [] = E at heb HE' ⊢
          go_wp2
          go_ret
          exact ⟨ret_int HE'.out.1.symm, own3, by rw [HE'.out.2]; exact HD3.out, HDI3.out⟩
end Go.Proofs.Ytigaciflbgbolaa
