/- Where a list is cut: merkle's Split, and the document's own. -/
import Derived.Test.YtfkloilbjfleeaaDoorBase
import Derived.Test.YtfkloilbjfleeaaDoorSmd
namespace Go.Proofs.YtfkloilbjfleeaaDoor
open Go.RowKit
set_option linter.unusedVariables false

/-- how many bits a number has -/
def tb (x : Nat) : Nat := if x = 0 then 0 else Nat.log2 x + 1
theorem log2_shift {x k : Nat} (h : 2 ^ k ≤ x) : Nat.log2 x = Nat.log2 (x / 2 ^ k) + k := by
  have hp := Nat.one_le_two_pow (n := k)
  have h0 : 1 ≤ x / 2 ^ k := (Nat.le_div_iff_mul_le (by omega)).2 (by omega)
  have h1 := Nat.log2_self_le (n := x / 2 ^ k) (by omega)
  have h2 := Nat.lt_log2_self (n := x / 2 ^ k)
  refine (Nat.log2_eq_iff (by omega)).2 ⟨?_, ?_⟩
  · rw [Nat.pow_add]; exact (Nat.le_div_iff_mul_le (by omega)).1 h1
  · rw [show Nat.log2 (x / 2 ^ k) + k + 1 = (Nat.log2 (x / 2 ^ k) + 1) + k from by omega, Nat.pow_add]
    exact (Nat.div_lt_iff_lt_mul (by omega)).1 h2
theorem tb_shift (x k : Nat) (h : 2 ^ k ≤ x) : tb x = k + tb (x / 2 ^ k) := by
  have hp := Nat.one_le_two_pow (n := k)
  have h0 : 1 ≤ x / 2 ^ k := (Nat.le_div_iff_mul_le (by omega)).2 (by omega)
  unfold tb
  rw [if_neg (by omega), if_neg (by omega), log2_shift h]; omega
theorem tb_le : ∀ x : Fin 256, tb x.val ≤ 8 := by decide +kernel
theorem shr_nat (x k : Nat) (hk : k < 64) : Op.shift .shr .u64 (x : Int) .u64 (k : Int) = pure (.int .u64 ((x / 2 ^ k : Nat) : Int)) := by
  unfold Op.shift
  rw [if_neg (by omega), show min (k : Int).toNat IntKind.u64.bits = k from by simp [IntKind.bits]; omega]
  show pure (Value.int .u64 ((x : Int).fdiv (2 ^ k))) = _
  rw [Int.fdiv_eq_ediv_of_nonneg _ (Int.le_of_lt (Int.pow_pos (by decide)))]
  norm_cast
theorem idx_str (s : ByteArray) (j : Nat) (b : UInt8) (hb : s[j]? = some b) (w : World) : (Instr.index 9 (.string s) (.int .u8 (j : Int))).run Tryd.prog w = .ok (.int .u8 (b.toNat : Int)) w := by
  simp only [Instr.index, asIntOf, go_sem, part]
  simp [Tryd.underlying9, underlying, hb]
theorem idx_tab (s : ByteArray) (hs : s.size = 256) (h : ∀ j : Fin 256, (s.data.toList.getD j.val 0).toNat = tb j.val) (t : Nat) (ht : t < 256) (S : Value) (hS : Value.string s = S) : ∀ w, (Instr.index 9 S (.int .u8 (t : Int))).run Tryd.prog w = .ok (.int .u8 (tb t : Int)) w := by
  intro w
  subst hS
  have h1 := h ⟨t, ht⟩
  have h2 : t < s.data.toList.length := by rw [Array.length_toList]; show t < s.size; omega
  simp only [List.getD_eq_getElem?_getD, List.getElem?_eq_getElem h2, Option.getD_some] at h1
  have h3 : s[t]? = some (s.data.toList[t]) := by
    have h4 : t < s.size := by omega
    rw [getElem?_pos s t h4]; rfl
  rw [idx_str s t _ h3 w, h1]

set_option maxRecDepth 10000 in
theorem len64_walk (a b c : Bool) (x y z t : Nat) (w : World) (ha : decide ((x : Int) ≥ 4294967296) = a) (hb : decide ((y : Int) ≥ 65536) = b) (hc : decide ((z : Int) ≥ 256) = c)
    (sa : a = true → Op.shift .shr .u64 (x : Int) .u64 32 = pure (.int .u64 (y : Int))) (sb : b = true → Op.shift .shr .u64 (y : Int) .u64 16 = pure (.int .u64 (z : Int))) (sc : c = true → Op.shift .shr .u64 (z : Int) .u64 8 = pure (.int .u64 (t : Int)))
    (na : a = false → y = x) (nb : b = false → z = y) (nc : c = false → t = z) (ht : (t : Int) ≤ 255) :
    Calls Tryd.prog 84 #[.int .u64 x] w fun e w' => e = .returned (.int .i64 (((if a then 32 else 0) + (if b then 16 else 0) + (if c then 8 else 0) + tb t : Nat) : Int)) ∧ w = w' := by
  have h8 : (tb t : Int) ≤ 8 := by have : tb t ≤ 8 := tb_le ⟨t, by omega⟩; omega
  obtain ⟨T, hT⟩ : ∃ T, T = tb t := ⟨_, rfl⟩
  rw [← hT] at h8 ⊢
  have HT : Hid (T = tb t) := hT
  clear hT
  cases a <;> cases b <;> cases c
  all_goals
    (first | (have sa' := sa rfl) | (obtain rfl := na rfl))
    (first | (have sb' := sb rfl) | (obtain rfl := nb rfl))
    (first | (have sc' := sc rfl) | (obtain rfl := nc rfl))
    clear sa sb sc na nb nc
    go_enter Tryd.func84, Tryd.ntmps84
    generalize hS : Value.string _ = S
    have hix : ∀ w, (Instr.index 9 S (.int .u8 (t : Int))).run Tryd.prog w = .ok (.int .u8 (T : Int)) w := by rw [HT.out]; exact idx_tab _ (by decide +kernel) (by decide +kernel) t (by omega) S hS
    clear hS
    go_wp2
    go_ret
    exact ⟨ret_int (by simp), rfl⟩
theorem len64_any (x : Nat) (w : World) (h2 : x < 18446744073709551616) :
    Calls Tryd.prog 84 #[.int .u64 x] w fun e w' => e = .returned (.int .i64 (tb x : Int)) ∧ w = w' := by
  obtain ⟨y, sa, na, ea, by1⟩ : ∃ y : Nat, (decide ((x : Int) ≥ 4294967296) = true → Op.shift .shr .u64 (x : Int) .u64 32 = pure (.int .u64 (y : Int))) ∧ (decide ((x : Int) ≥ 4294967296) = false → y = x) ∧ tb x = (if decide ((x : Int) ≥ 4294967296) then 32 else 0) + tb y ∧ y < 4294967296 := by
    by_cases h : (x : Int) ≥ 4294967296
    · exact ⟨x / 2 ^ 32, fun _ => shr_nat x 32 (by decide), fun k => by simp [h] at k, by rw [if_pos (by simpa using h), ← tb_shift x 32 (by omega)], by omega⟩
    · exact ⟨x, fun k => absurd (of_decide_eq_true k) h, fun _ => rfl, by rw [if_neg (by simpa using h)]; omega, by omega⟩
  obtain ⟨z, sb, nb, eb, bz⟩ : ∃ z : Nat, (decide ((y : Int) ≥ 65536) = true → Op.shift .shr .u64 (y : Int) .u64 16 = pure (.int .u64 (z : Int))) ∧ (decide ((y : Int) ≥ 65536) = false → z = y) ∧ tb y = (if decide ((y : Int) ≥ 65536) then 16 else 0) + tb z ∧ z < 65536 := by
    by_cases h : (y : Int) ≥ 65536
    · exact ⟨y / 2 ^ 16, fun _ => shr_nat y 16 (by decide), fun k => by simp [h] at k, by rw [if_pos (by simpa using h), ← tb_shift y 16 (by omega)], by omega⟩
    · exact ⟨y, fun k => absurd (of_decide_eq_true k) h, fun _ => rfl, by rw [if_neg (by simpa using h)]; omega, by omega⟩
  obtain ⟨t, sc, nc, ec, bt⟩ : ∃ t : Nat, (decide ((z : Int) ≥ 256) = true → Op.shift .shr .u64 (z : Int) .u64 8 = pure (.int .u64 (t : Int))) ∧ (decide ((z : Int) ≥ 256) = false → t = z) ∧ tb z = (if decide ((z : Int) ≥ 256) then 8 else 0) + tb t ∧ t < 256 := by
    by_cases h : (z : Int) ≥ 256
    · exact ⟨z / 2 ^ 8, fun _ => shr_nat z 8 (by decide), fun k => by simp [h] at k, by rw [if_pos (by simpa using h), ← tb_shift z 8 (by omega)], by omega⟩
    · exact ⟨z, fun k => absurd (of_decide_eq_true k) h, fun _ => rfl, by rw [if_neg (by simpa using h)]; omega, by omega⟩
  refine (len64_walk _ _ _ x y z t w rfl rfl rfl sa sb sc na nb nc (by omega)).mono ?_
  rintro e w' ⟨rfl, rfl⟩
  exact ⟨ret_int (by rw [ea, eb, ec]; omega), rfl⟩
theorem len_any (x : Nat) (w : World) (h2 : x < 18446744073709551616) :
    Calls Tryd.prog 79 #[.int .u64 x] w fun e w' => e = .returned (.int .i64 (tb x : Int)) ∧ w = w' := by
  have hb : decide ((x : Int) ≤ 18446744073709551615) = true := by simp; omega
  go_enter Tryd.func79, Tryd.ntmps79
  go_wp2_with fail
  refine (len64_any x _ h2).mono ?_
  rintro e w' ⟨rfl, rfl⟩
  go_wp2
  go_ret
  exact ⟨rfl, rfl⟩
theorem split_any (n : Int) (w : World) (h2 : n ≤ 9223372036854775807) :
    Calls Tryd.prog 60 #[.int .i64 n] w fun e w' => e = .returned (.int .i64 (splitN n.toNat : Int)) ∧ w = w' := by
  by_cases h : n < 2
  · have HS : Hid ((splitN n.toNat : Int) = 0) := by unfold splitN; rw [if_pos (by omega)]; rfl
    go_enter Tryd.func60, Tryd.ntmps60
    go_wp2
    go_ret
    exact ⟨ret_int HS.out.symm, rfl⟩
  · have e2 : tb (n - 1).toNat = Nat.log2 (n - 1).toNat + 1 := by unfold tb; rw [if_neg (by omega)]
    have e3 : Nat.log2 (n - 1).toNat ≤ 62 := by
      have := (Nat.log2_lt (n := (n - 1).toNat) (k := 63) (by omega)).2 (by omega)
      omega
    obtain ⟨K, hK⟩ : ∃ K, K = Nat.log2 (n - 1).toNat := ⟨_, rfl⟩
    rw [← hK] at e2 e3
    have HS : Hid ((splitN n.toNat : Int) = ((2 ^ K : Nat) : Int)) := by
      show _ = _
      unfold splitN; rw [if_neg (by omega), hK, show n.toNat - 1 = (n - 1).toNat from by omega]
    have hp : 2 ^ K ≤ 2 ^ 62 := Nat.pow_le_pow_right (by decide) e3
    have HW : Hid (wrap64 (2 ^ K) = (splitN n.toNat : Int)) := by
      show _ = _
      rw [HS.out, show (2 : Int) ^ K = ((2 ^ K : Nat) : Int) from by simp]
      generalize 2 ^ K = Q at hp ⊢
      unfold wrap64; omega
    have HL : Bx (∀ w, Calls Tryd.prog 79 #[.int .u64 (n - 1)] w fun e w' => e = .returned (.int .i64 ((K : Int) + 1)) ∧ w = w') := ⟨fun w => by
      have h3 := len_any (n - 1).toNat w (by omega)
      rw [e2, show (((n - 1).toNat : Nat) : Int) = n - 1 from by omega] at h3
      exact h3⟩
    clear hK e2 HS hp
    go_enter Tryd.func60, Tryd.ntmps60
    go_wp2_with fail
    refine (HL.out _).mono ?_
    rintro e w' ⟨rfl, rfl⟩
    go_wp2
    go_ret
    exact ⟨ret_int HW.out, rfl⟩
theorem refsplit_any (n : Int) (w : World) (h2 : n ≤ 9223372036854775807) :
    Calls Tryd.prog 48 #[.int .i64 n] w fun e w' => e = .returned (.int .i64 (splitN n.toNat : Int)) ∧ w = w' := by
  by_cases h : n < 2
  · have HS : Hid ((splitN n.toNat : Int) = 0) := by unfold splitN; rw [if_pos (by omega)]; rfl
    go_enter Tryd.func48, Tryd.ntmps48
    go_wp2
    go_ret
    exact ⟨ret_int HS.out.symm, rfl⟩
  · go_enter Tryd.func48, Tryd.ntmps48
    go_wp2
    go_loop [3] (fun k => ∃ j : Nat, ∃ q : Nat, j ≤ 62 ∧ q = 2 ^ j ∧ k = .int .i64 (q : Int) ∧ n ≤ 2 * (q : Int)) (fun k => (intOf k).toNat)
    case atStart => exact ⟨62, 4611686018427387904, by decide, by decide, rfl, by omega⟩
    case round =>
      obtain ⟨j, q, hj, hq, rfl, hn⟩ := hrel
      have hq1 : 1 ≤ q := by rw [hq]; exact Nat.one_le_two_pow
      have hq2 : q ≤ 4611686018427387904 := by rw [hq]; exact Nat.pow_le_pow_right (n := 2) (j := 62) (by decide) hj
      by_cases hk : (q : Int) ≥ n
      · have hd : decide ((q : Int) ≥ n) = true := by simpa using hk
        obtain ⟨i, hi⟩ : ∃ i, j = i + 1 := ⟨j - 1, by
          cases j with
          | zero => rw [Nat.pow_zero] at hq; omega
          | succ j => rfl⟩
        have HQ : Hid (q / 2 = 2 ^ i) := by show _ = _; rw [hq, hi, Nat.pow_succ]; omega
        have HE : Hid (q = 2 * (q / 2)) := by show _ = _; rw [HQ.out, hq, hi, Nat.pow_succ]; omega
        clear hq
        go_wp2
        go_round
        case rel => exact ⟨i, q / 2, by omega, HQ.out, by go_num, by have := HE.out; omega⟩
        case measure => simp [intOf]; omega
      · have hd : decide ((q : Int) ≥ n) = false := by simpa using hk
        have HS : Hid ((splitN n.toNat : Int) = (q : Int)) := by
          show _ = _
          rw [splitN_of (j := j) (by omega) (by rw [Nat.pow_succ]; omega), hq]
        clear hq
        go_wp2
        go_ret
        exact ⟨ret_int HS.out.symm, rfl⟩
end Go.Proofs.YtfkloilbjfleeaaDoor
