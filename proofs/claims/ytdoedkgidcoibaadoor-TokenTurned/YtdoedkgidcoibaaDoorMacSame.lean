/- What mac's Same answers: whether two lists of bytes are the same. -/
import Derived.Test.YtdoedkgidcoibaaDoorMacMath
import Derived.Test.YtdoedkgidcoibaaDoorSma
namespace Go.Proofs.YtdoedkgidcoibaaDoor
open Go.RowKit
set_option linter.unusedVariables false

def orr (a b : Int) : Int := ((a.toNat ||| b.toNat : Nat) : Int)
theorem or8_eq {a b : Int} (ha : 0 ≤ a ∧ a ≤ 255) (hb : 0 ≤ b ∧ b ≤ 255) : bits .or .u8 a b = orr a b := by
  have h1 := ha.1; have h2 := ha.2; have h3 := hb.1; have h4 := hb.2
  exact u8_or a b h1 (by omega) h3 (by omega)
theorem or_b {a b : Int} (ha : 0 ≤ a ∧ a ≤ 255) (hb : 0 ≤ b ∧ b ≤ 255) : 0 ≤ orr a b ∧ orr a b ≤ 255 := by
  have h1 := ha.1; have h2 := ha.2; have h3 := hb.1; have h4 := hb.2
  have := Nat.or_lt_two_pow (x := a.toNat) (y := b.toNat) (n := 8) (by omega) (by omega)
  exact ⟨by unfold orr; omega, by unfold orr; omega⟩
theorem or_zero {a b : Int} (ha : 0 ≤ a) (hb : 0 ≤ b) : orr a b = 0 ↔ a = 0 ∧ b = 0 := by
  unfold orr
  rw [show ((0 : Int)) = ((0 : Nat) : Int) from rfl, Int.ofNat_inj, Nat.or_eq_zero_iff]
  omega
theorem xr_zero {a b : Int} (ha : 0 ≤ a) (hb : 0 ≤ b) : xr a b = 0 ↔ a = b := by
  unfold xr
  rw [show ((0 : Int)) = ((0 : Nat) : Int) from rfl, Int.ofNat_inj]
  have e : a.toNat ^^^ b.toNat = 0 ↔ a.toNat = b.toNat := by
    constructor
    · intro h
      have h2 : (a.toNat ^^^ b.toNat) ^^^ b.toNat = 0 ^^^ b.toNat := by rw [h]
      rw [Nat.xor_assoc, Nat.xor_self, Nat.xor_zero, Nat.zero_xor] at h2
      exact h2
    · intro h; rw [h, Nat.xor_self]
  rw [e]
  omega
theorem take_more {la lb : List Int} {k : Nat} (ha : k < la.length) (hb : k < lb.length) : la.take (k + 1) = lb.take (k + 1) ↔ la.take k = lb.take k ∧ la.getD k 0 = lb.getD k 0 := by
  rw [take_succ_getD la k ha, take_succ_getD lb k hb]
  constructor
  · intro h
    have := List.append_inj h (by rw [List.length_take, List.length_take]; omega)
    exact ⟨this.1, by simpa using this.2⟩
  · rintro ⟨h1, h2⟩; rw [h1, h2]
theorem unlike_step {la lb : List Int} {k : Nat} {u : Int} (hu : 0 ≤ u ∧ u ≤ 255) (hA : Byt la) (hB : Byt lb) (ha : k < la.length) (hb : k < lb.length) (h : u = 0 ↔ la.take k = lb.take k) : orr u (xr (la.getD k 0) (lb.getD k 0)) = 0 ↔ la.take (k + 1) = lb.take (k + 1) := by
  have h1 := hA.getD k
  have h2 := hB.getD k
  rw [or_zero hu.1 (xr_b h1 h2).1, xr_zero h1.1 h2.1, take_more ha hb, h]

set_option maxHeartbeats 400000 in
theorem msame_any (a b : Option Addr) (n m c d : Nat) (la lb : List Int) (w : World) (ha : Bts w a n c la) (hb : Bts w b m d lb) :
    Calls Tryd.prog 44 #[.slice a n c, .slice b m d] w fun e w' => e = .returned (.bool (decide (la = lb))) ∧ w = w' := by
  have hn := Nat.le_trans ha.le_cap ha.cap_le
  have hm := Nat.le_trans hb.le_cap hb.cap_le
  unfold maxLen at hn hm
  have hla := ha.len_eq
  have hlb := hb.len_eq
  by_cases hne : n = m
  · subst hne
    have hq : ((n : Int) != (n : Int)) = false := by simp
    have HA : Hid (la.length = n) := hla
    have HB : Hid (lb.length = n) := hlb
    clear hla hlb
    go_enter Tryd.func44, Tryd.ntmps44
    go_wp2
    go_loop [5, 15] (fun v i => ∃ k : Nat, ∃ u : Int, k ≤ n ∧ i = .int .i64 k ∧ v = .int .u8 u ∧ (0 ≤ u ∧ u ≤ 255) ∧ (u = 0 ↔ la.take k = lb.take k)) (fun _ i => n - (intOf i).toNat)
    case atStart => exact ⟨0, 0, Nat.zero_le _, rfl, rfl, by decide, by simp⟩
    case round =>
      obtain ⟨k, u, hk, rfl, rfl, hu, ht⟩ := hrel
      have HT : Hid (u = 0 ↔ la.take k = lb.take k) := ht
      clear ht
      by_cases hlt : k < n
      · obtain ⟨b1, o1, rfl, _, hc1⟩ := ha.spot (by omega)
        obtain ⟨b2, o2, rfl, _, hc2⟩ := hb.spot (by omega)
        have hx := hc1 k hlt
        have hy := hc2 k hlt
        clear hc1 hc2
        have hki : (k : Int) < (n : Int) := by omega
        have HS : Hid (orr u (xr (la.getD k 0) (lb.getD k 0)) = 0 ↔ la.take (k + 1) = lb.take (k + 1)) := unlike_step hu ha.byt hb.byt (by rw [HA.out]; omega) (by rw [HB.out]; omega) HT.out
        have b1 := ha.byt.getD k
        have b2 := hb.byt.getD k
        have e1 := xr8_eq b1 b2
        have b3 := xr_b b1 b2
        generalize la.getD k 0 = av at hx HS b1 e1 b3
        generalize lb.getD k 0 = bw at hy HS b2 e1 b3
        generalize xr av bw = z at HS e1 b3
        have e2 := or8_eq hu b3
        have b4 := or_b hu b3
        generalize orr u z = y at HS e2 b4
        clear HT
        go_wp2
        go_round
        case rel => exact ⟨k + 1, y, by omega, by go_num, rfl, b4, HS.out⟩
        case measure => simp [intOf]; omega
      · have HK : Hid (u = 0 ↔ la = lb) := by
          have h1 := HT.out
          rw [List.take_of_length_le (by rw [HA.out]; omega), List.take_of_length_le (by rw [HB.out]; omega)] at h1
          exact h1
        by_cases hz : u = 0
        · have hd : (u == 0) = true := by simp [hz]
          have HR : Hid (decide (la = lb) = true) := by show _ = _; rw [decide_eq_true_iff]; exact HK.out.1 hz
          clear HT HK hz
          go_wp2
          go_ret
          exact ⟨ret_bool HR.out.symm, rfl⟩
        · have hd : (u == 0) = false := by simp [hz]
          have HR : Hid (decide (la = lb) = false) := by show _ = _; rw [decide_eq_false_iff_not]; exact fun h => hz (HK.out.2 h)
          clear HT HK hz
          go_wp2
          go_ret
          exact ⟨ret_bool HR.out.symm, rfl⟩
  · have hq : ((n : Int) != (m : Int)) = true := by simp; omega
    have hf : decide (la = lb) = false := by rw [decide_eq_false_iff_not]; intro h; rw [h] at hla; omega
    rw [hf]
    go_enter Tryd.func44, Tryd.ntmps44
    go_wp2
    go_ret
    exact ⟨rfl, rfl⟩
end Go.Proofs.YtdoedkgidcoibaaDoor
