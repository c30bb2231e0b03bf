/- The program's Turn. -/
import Derived.Test.YtedingegmiacmaaQMem
import Derived.Test.YtedingegmiacmaaRQueue
namespace Go.Proofs.Ytedingegmiacmaa
open Go.RowKit
set_option linter.unusedVariables false

set_option maxHeartbeats 4000000 in
set_option maxRecDepth 100000 in
theorem turn19_any (a : Option Addr) (n c : Nat) (K : List Bool) (last : Int) (w : World) (h : Bvs w a n c K) (hs : n ≤ 1000) :
    Calls Try.prog 20 #[.slice a n c, .int .i64 last] w fun e w' => e = .returned (.tuple #[.int .i64 (trI K last), .bool (trn K last).isSome]) ∧ w' = w := by
  have H := Bx.mk h
  have HLEN : Bx (K.length = n) := ⟨h.len_eq⟩
  clear h
  obtain ⟨m, HM⟩ : ∃ m, Bx (begW n last = m) := ⟨_, ⟨rfl⟩⟩
  rcases Nat.eq_zero_or_pos n with rfl | hn0
  · have HT : Bx (trI K last = 0 ∧ (trn K last).isSome = false) := ⟨tr_no19 (trn_end (by rw [HLEN.out]; exact fun i hi => absurd hi (Nat.not_lt_zero _)))⟩
    have hd : decide (last < 0) = true ∨ (decide (last < 0) = false ∧ decide (0 ≤ last) = true) := by
      by_cases h : last < 0
      · exact .inl (decide_eq_true h)
      · exact .inr ⟨decide_eq_false h, decide_eq_true (by omega)⟩
    clear HM
    rcases hd with hd | ⟨hd, hd2⟩
    · go_enter Try.func20, Try.ntmps20
      go_wp2_with fail
      go_loop [21] (fun i => i = .int .i64 0) (fun _ => 0)
      case atStart => exact rfl
      case round =>
        subst hrel
        go_wp2_with fail
        go_ret2
        exact ⟨by rw [HT.out.1, HT.out.2]; rfl, rfl⟩
    · go_enter Try.func20, Try.ntmps20
      go_wp2_with fail
      go_loop [21] (fun i => i = .int .i64 0) (fun _ => 0)
      case atStart => exact rfl
      case round =>
        subst hrel
        go_wp2_with fail
        go_ret2
        exact ⟨by rw [HT.out.1, HT.out.2]; rfl, rfl⟩
  have hm : m < n := by rw [← HM.out]; exact begW_lt hn0 last
  by_cases hr : 0 ≤ last ∧ last < (n : Int)
  · have hlm : last = (m : Int) := by rw [← HM.out]; unfold begW; rw [if_pos hr]; omega
    have hd : decide (last < 0) = false := decide_eq_false (by omega)
    have hd2 : decide ((n : Int) ≤ last) = false := decide_eq_false (by omega)
    have hmn : ¬ (n : Int) ≤ (m : Int) := by omega
    have hm0 : ¬ (m : Int) < 0 := by omega
    subst hlm
    clear hr
    obtain ⟨last, HLS⟩ : ∃ last : Int, Bx ((m : Int) = last) := ⟨_, ⟨rfl⟩⟩
    rw [HLS.out] at HM
    rw [show trI K (m : Int) = trI K last from by rw [HLS.out], show trn K (m : Int) = trn K last from by rw [HLS.out]]
    go_enter Try.func20, Try.ntmps20
    go_wp2_with fail
    go_loop [21] (fun i => ∃ k : Nat, k ≤ n ∧ i = .int .i64 k ∧ Bx (nowW K last k)) (fun i => n - (intOf i).toNat)
    case atStart => exact ⟨0, Nat.zero_le _, rfl, ⟨fun i hi => absurd hi (Nat.not_lt_zero _)⟩⟩
    case round =>
      obtain ⟨k, hk, rfl, HNW⟩ := hrel
      by_cases hlt : k < n
      · have hkI : (k : Int) < (n : Int) := by omega
        have HNS : Bx (K.getD ((m + 1 + k) % n) false = false → nowW K last (k + 1)) := ⟨fun hx => nowW_snoc HNW.out (by rw [HLEN.out, HM.out]; exact hx)⟩
        have HYS : Bx (K.getD ((m + 1 + k) % n) false = true → trn K last = some ((m + 1 + k) % n)) := ⟨fun hx => by
          have := trn_now HNW.out (by rw [HLEN.out]; exact hlt) (by rw [HLEN.out, HM.out]; exact hx)
          rwa [HLEN.out, HM.out] at this⟩
        have hpl : (m + 1 + k) % n < n := Nat.mod_lt _ hn0
        obtain ⟨p, HP⟩ : ∃ p : Nat, Bx ((m + 1 + k) % n = p) := ⟨_, ⟨rfl⟩⟩
        have hrem : ((m : Int) + 1 + (k : Int)) % (n : Int) = (p : Int) := by rw [← HP.out, Int.natCast_emod]; rfl
        rw [HP.out] at HNS HYS hpl
        have hpI : (p : Int) < (n : Int) := by omega
        obtain ⟨b1, o1, rfl, _, x0⟩ := H.out.bv p hpl
        have hnz : ((n : Int) == 0) = false := beq_false_of_ne (by omega)
        clear HP
        cases hx : K.getD p false with
        | true =>
          rw [hx] at x0
          have HT := Bx.mk (tr_yes19 (HYS.out hx))
          clear hx HYS HNS
          go_wp2_with fail
          go_ret2
          exact ⟨by rw [HT.out.1, HT.out.2]; rfl, rfl⟩
        | false =>
          rw [hx] at x0
          have HN2 := Bx.mk (HNS.out hx)
          clear hx HYS HNS
          go_wp2_with fail
          go_round
          case rel => exact ⟨k + 1, by omega, by go_num, HN2⟩
          case measure => simp [intOf]; omega
      · have hkI : ¬ (k : Int) < (n : Int) := by omega
        have HT : Bx (trI K last = 0 ∧ (trn K last).isSome = false) := ⟨tr_no19 (trn_end (by rw [HLEN.out]; (obtain rfl : k = n := by omega); exact HNW.out))⟩
        go_wp2_with fail
        go_ret2
        exact ⟨by rw [HT.out.1, HT.out.2]; rfl, rfl⟩
  · have hlm : (n : Int) - 1 = (m : Int) := by rw [← HM.out]; unfold begW; rw [if_neg hr]; omega
    have hd : decide (last < 0) = true ∨ (decide (last < 0) = false ∧ decide ((n : Int) ≤ last) = true) := by
      by_cases h : last < 0
      · exact .inl (decide_eq_true h)
      · exact .inr ⟨decide_eq_false h, decide_eq_true (by omega)⟩
    clear hr
    rcases hd with hd | ⟨hd, hd2⟩
    · go_enter Try.func20, Try.ntmps20
      go_wp2_with fail
      go_loop [21] (fun i => ∃ k : Nat, k ≤ n ∧ i = .int .i64 k ∧ Bx (nowW K last k)) (fun i => n - (intOf i).toNat)
      case atStart => exact ⟨0, Nat.zero_le _, rfl, ⟨fun i hi => absurd hi (Nat.not_lt_zero _)⟩⟩
      case round =>
        obtain ⟨k, hk, rfl, HNW⟩ := hrel
        by_cases hlt : k < n
        · have hkI : (k : Int) < (n : Int) := by omega
          have HNS : Bx (K.getD ((m + 1 + k) % n) false = false → nowW K last (k + 1)) := ⟨fun hx => nowW_snoc HNW.out (by rw [HLEN.out, HM.out]; exact hx)⟩
          have HYS : Bx (K.getD ((m + 1 + k) % n) false = true → trn K last = some ((m + 1 + k) % n)) := ⟨fun hx => by
            have := trn_now HNW.out (by rw [HLEN.out]; exact hlt) (by rw [HLEN.out, HM.out]; exact hx)
            rwa [HLEN.out, HM.out] at this⟩
          have hpl : (m + 1 + k) % n < n := Nat.mod_lt _ hn0
          obtain ⟨p, HP⟩ : ∃ p : Nat, Bx ((m + 1 + k) % n = p) := ⟨_, ⟨rfl⟩⟩
          have hrem : ((m : Int) + 1 + (k : Int)) % (n : Int) = (p : Int) := by rw [← HP.out, Int.natCast_emod]; rfl
          rw [HP.out] at HNS HYS hpl
          have hpI : (p : Int) < (n : Int) := by omega
          obtain ⟨b1, o1, rfl, _, x0⟩ := H.out.bv p hpl
          have hnz : ((n : Int) == 0) = false := beq_false_of_ne (by omega)
          clear HP
          cases hx : K.getD p false with
          | true =>
            rw [hx] at x0
            have HT := Bx.mk (tr_yes19 (HYS.out hx))
            clear hx HYS HNS
            go_wp2_with fail
            go_ret2
            exact ⟨by rw [HT.out.1, HT.out.2]; rfl, rfl⟩
          | false =>
            rw [hx] at x0
            have HN2 := Bx.mk (HNS.out hx)
            clear hx HYS HNS
            go_wp2_with fail
            go_round
            case rel => exact ⟨k + 1, by omega, by go_num, HN2⟩
            case measure => simp [intOf]; omega
        · have hkI : ¬ (k : Int) < (n : Int) := by omega
          have HT : Bx (trI K last = 0 ∧ (trn K last).isSome = false) := ⟨tr_no19 (trn_end (by rw [HLEN.out]; (obtain rfl : k = n := by omega); exact HNW.out))⟩
          go_wp2_with fail
          go_ret2
          exact ⟨by rw [HT.out.1, HT.out.2]; rfl, rfl⟩
    · go_enter Try.func20, Try.ntmps20
      go_wp2_with fail
      go_loop [21] (fun i => ∃ k : Nat, k ≤ n ∧ i = .int .i64 k ∧ Bx (nowW K last k)) (fun i => n - (intOf i).toNat)
      case atStart => exact ⟨0, Nat.zero_le _, rfl, ⟨fun i hi => absurd hi (Nat.not_lt_zero _)⟩⟩
      case round =>
        obtain ⟨k, hk, rfl, HNW⟩ := hrel
        by_cases hlt : k < n
        · have hkI : (k : Int) < (n : Int) := by omega
          have HNS : Bx (K.getD ((m + 1 + k) % n) false = false → nowW K last (k + 1)) := ⟨fun hx => nowW_snoc HNW.out (by rw [HLEN.out, HM.out]; exact hx)⟩
          have HYS : Bx (K.getD ((m + 1 + k) % n) false = true → trn K last = some ((m + 1 + k) % n)) := ⟨fun hx => by
            have := trn_now HNW.out (by rw [HLEN.out]; exact hlt) (by rw [HLEN.out, HM.out]; exact hx)
            rwa [HLEN.out, HM.out] at this⟩
          have hpl : (m + 1 + k) % n < n := Nat.mod_lt _ hn0
          obtain ⟨p, HP⟩ : ∃ p : Nat, Bx ((m + 1 + k) % n = p) := ⟨_, ⟨rfl⟩⟩
          have hrem : ((m : Int) + 1 + (k : Int)) % (n : Int) = (p : Int) := by rw [← HP.out, Int.natCast_emod]; rfl
          rw [HP.out] at HNS HYS hpl
          have hpI : (p : Int) < (n : Int) := by omega
          obtain ⟨b1, o1, rfl, _, x0⟩ := H.out.bv p hpl
          have hnz : ((n : Int) == 0) = false := beq_false_of_ne (by omega)
          clear HP
          cases hx : K.getD p false with
          | true =>
            rw [hx] at x0
            have HT := Bx.mk (tr_yes19 (HYS.out hx))
            clear hx HYS HNS
            go_wp2_with fail
            go_ret2
            exact ⟨by rw [HT.out.1, HT.out.2]; rfl, rfl⟩
          | false =>
            rw [hx] at x0
            have HN2 := Bx.mk (HNS.out hx)
            clear hx HYS HNS
            go_wp2_with fail
            go_round
            case rel => exact ⟨k + 1, by omega, by go_num, HN2⟩
            case measure => simp [intOf]; omega
        · have hkI : ¬ (k : Int) < (n : Int) := by omega
          have HT : Bx (trI K last = 0 ∧ (trn K last).isSome = false) := ⟨tr_no19 (trn_end (by rw [HLEN.out]; (obtain rfl : k = n := by omega); exact HNW.out))⟩
          go_wp2_with fail
          go_ret2
          exact ⟨by rw [HT.out.1, HT.out.2]; rfl, rfl⟩
end Go.Proofs.Ytedingegmiacmaa
