/- What the document's ReadDec answers. -/
import Derived.Test.YtpfijaojgeceeaaDoorReadMath
namespace Go.Proofs.YtpfijaojgeceeaaDoor
open Go.RowKit
set_option linter.unusedVariables false

/-- what is answered: the number and true, or 0 and false -/
def RdPT (s : ByteArray) (e : Ending) : Prop := e = .returned (.tuple #[.int .i64 ((rdv s.data.toList).getD 0), .bool (rdv s.data.toList).isSome])
set_option maxRecDepth 100000 in
theorem rd_none {s : ByteArray} {e : Ending} (h : rdv s.data.toList = none) (he : e = .returned (.tuple #[.int .i64 0, .bool false])) : RdPT s e := by
  unfold RdPT; rw [he, h]; rfl
set_option maxRecDepth 100000 in
theorem rd_some {s : ByteArray} {e : Ending} {n : Int} (h : rdv s.data.toList = some n) (he : e = .returned (.tuple #[.int .i64 n, .bool true])) : RdPT s e := by
  unfold RdPT; rw [he, h]; rfl
set_option maxRecDepth 100000 in
set_option maxHeartbeats 800000 in
set_option maxRecDepth 100000 in
theorem refread_any (s : ByteArray) (w : World) (hs : s.size ≤ 1099511627776) :
    Calls Tryd.prog 38 #[.string s] w fun e w' => RdPT s e ∧ w' = w := by
  go_enter Tryd.func38, Tryd.ntmps38
  go_wp2_with fail
  go_loop [4, 5] (fun x i => ∃ (k : Nat) (n : Int), k ≤ s.size ∧ i = .int .i64 k ∧ x = .int .i64 n ∧ rK s k = some n) (fun _ i => s.size - (intOf i).toNat)
  case atStart => exact ⟨0, 0, Nat.zero_le _, rfl, rfl, rfl⟩
  case round =>
    obtain ⟨k, n, hk, rfl, rfl, hr⟩ := hrel
    have hn := rK_bd s k n hr
    have HR : Hid (rK s k = some n) := hr
    clear hr
    by_cases hlt : k < s.size
    · have hki : (k : Int) < (s.size : Int) := by omega
      have hse : ∀ h, (((s[k]'h).toNat : Nat) : Int) = sb s k := fun h => sb_eq s k h
      have hc := sb_byt s k
      generalize hcc : sb s k = c at hse hc
      have HC : Hid (sb s k = c) := hcc
      clear hcc
      obtain ⟨d, hd⟩ : ∃ d : Int, c - 48 = d := ⟨_, rfl⟩
      have HD : Hid (c - 48 = d) := hd
      by_cases h1 : d < 0
      · have HU : Hid (rdv s.data.toList = none) := rdv_stop (k := k + 1) (by omega) (rK_stop HR.out (by rw [HC.out, HD.out]; exact .inl h1))
        go_wp2_with fail
        go_ret2
        exact ⟨rd_none HU.out rfl, rfl⟩
      · by_cases h2 : 9 < d
        · have HU : Hid (rdv s.data.toList = none) := rdv_stop (k := k + 1) (by omega) (rK_stop HR.out (by rw [HC.out, HD.out]; exact .inr (.inl h2)))
          have g2 : decide (9 < d) = true := by simpa using h2
          go_wp2_with fail
          go_ret2
          exact ⟨rd_none HU.out rfl, rfl⟩
        · have g2 : decide (9 < d) = false := by simpa using h2
          by_cases h3 : (9223372036854775807 - d) / 10 < n
          · have HU : Hid (rdv s.data.toList = none) := rdv_stop (k := k + 1) (by omega) (rK_stop HR.out (by rw [HC.out, HD.out]; exact .inr (.inr h3)))
            have g3 : decide ((9223372036854775807 - d) / 10 < n) = true := by simpa using h3
            go_wp2_with fail
            go_ret2
            exact ⟨rd_none HU.out rfl, rfl⟩
          · have g3 : decide ((9223372036854775807 - d) / 10 < n) = false := by simpa using h3
            have HN : Hid (rK s (k + 1) = some (10 * n + d)) := by
              have := rK_more HR.out (by rw [HC.out, HD.out]; omega) (by rw [HC.out, HD.out]; omega) (by rw [HC.out, HD.out]; omega)
              rw [HC.out, HD.out] at this
              exact this
            have b1 : 10 * n ≤ 9223372036854775807 := by omega
            have b2 : 10 * n + d ≤ 9223372036854775807 := by omega
            have b3 : 0 ≤ 10 * n := by omega
            have b4 : 0 ≤ 10 * n + d := by omega
            clear HR
            go_wp2_with fail
            go_round
            case rel => exact ⟨k + 1, _, by omega, by go_num, rfl, HN.out⟩
            case measure => simp [intOf]; omega
    · have hki : ¬ (k : Int) < (s.size : Int) := by omega
      have HK : Hid (rK s s.size = some n) := by
        show _ = _; rw [← HR.out]; congr 1; omega
      clear HR
      by_cases hz : s.size = 0
      · have he : s = ⟨#[]⟩ := by
          apply ba_ext
          rw [Lib.size_eq] at hz
          exact List.eq_nil_of_length_eq_zero hz
        have HU : Hid (rdv s.data.toList = none) := by show _ = _; rw [he]; rfl
        have ht : s.toList = [] := by rw [Lib.toList_data, he]
        clear he hz
        go_wp2_with fail
        go_ret2
        exact ⟨rd_none HU.out rfl, rfl⟩
      · have ht : ¬ s.toList = [] := by
          rw [Lib.toList_data]; intro h; rw [Lib.size_eq, h] at hz; exact hz rfl
        have ht2 : (s.toList == []) = false := by simpa using ht
        go_wp2_with fail
        refine (refdec_any n.natAbs n _ (Nat.le_refl _) (by omega) hn.2).mono ?_
        rintro e w' ⟨rfl, rfl⟩
        have hq := str_beq (decS n) s
        have hne : ((decS n).toList != s.toList) = !decide (decS n = s) := by rw [bne, hq]
        by_cases hy : decS n = s
        · have HU : Hid (rdv s.data.toList = some n) := rdv_yes hn.1 hn.2 hy
          rw [decide_eq_true hy] at hne hq
          clear hy
          generalize decS n = S at hne hq
          go_wp2_with fail
          go_ret2
          exact ⟨rd_some HU.out rfl, rfl⟩
        · have HU : Hid (rdv s.data.toList = none) := rdv_end HK.out hy
          rw [decide_eq_false hy] at hne hq
          clear hy
          generalize decS n = S at hne hq
          go_wp2_with fail
          go_ret2
          exact ⟨rd_none HU.out rfl, rfl⟩
end Go.Proofs.YtpfijaojgeceeaaDoor
