/- Which number digits are. What the document's ReadDec answers. -/
import Derived.Test.YtpfijaojgeceeaaGreatDoorRefDec
import Derived.Lib.AtoiAllCases
namespace Go.Proofs.YtpfijaojgeceeaaGreatDoor
open Go.RowKit
set_option linter.unusedVariables false
open Go.Lib (decDigits nDigits itoa parseUint10 atoiAll)

/-- the number from 0 on that a text is -/
def rdv (l : List UInt8) : Option Int :=
  match atoiAll l with
  | .ok v => if 0 ≤ v ∧ itoa v = l then some v else none
  | _ => none
set_option maxRecDepth 100000 in
theorem parse_snoc (c : UInt8) : ∀ (x : List UInt8) (acc a : Nat), parseUint10 acc x = .ok a → parseUint10 acc (x ++ [c]) = parseUint10 a [c]
  | [], acc, a, h => by simp only [parseUint10] at h; cases h; rfl
  | b :: x, acc, a, h => by
    simp only [parseUint10] at h
    split at h
    · rename_i h1
      split at h
      · cases h
      · rename_i h2
        split at h
        · cases h
        · rename_i h3
          have := parse_snoc c x _ a h
          rw [List.cons_append]
          rw [parseUint10, if_pos h1, if_neg h2, if_neg h3]
          exact this
    · cases h
set_option maxRecDepth 100000 in
theorem parse_one {m d : Nat} (hd : d < 10) (h1 : m < 1844674407370955162) (h2 : m * 10 + d < 18446744073709551616) : parseUint10 m [UInt8.ofNat (48 + d)] = .ok (m * 10 + d) := by
  have e := dig_toNat hd
  simp only [parseUint10, e]
  rw [if_pos (by omega), if_neg (by omega), if_neg (by omega), show 48 + d - 48 = d by omega]
set_option maxRecDepth 100000 in
theorem parse_dec : ∀ m : Nat, m < 18446744073709551616 → parseUint10 0 (decDigits m) = .ok m := by
  intro m
  induction m using Nat.strongRecOn with
  | _ m ih =>
    intro h
    by_cases hm : m < 10
    · rw [Lib.decDigits_one hm, parse_one hm (by decide) (by omega)]; congr 1; omega
    · rw [decDigits_big hm, parse_snoc _ _ _ _ (ih (m / 10) (by omega) (by omega)), parse_one (Nat.mod_lt m (by decide)) (by omega) (by omega)]; congr 1; omega
set_option maxRecDepth 100000 in
theorem dec_head : ∀ m : Nat, ∃ c r, decDigits m = c :: r ∧ 48 ≤ c.toNat ∧ c.toNat ≤ 57 := by
  intro m
  induction m using Nat.strongRecOn with
  | _ m ih =>
    by_cases hm : m < 10
    · exact ⟨_, [], Lib.decDigits_one hm, by rw [dig_toNat hm]; omega, by rw [dig_toNat hm]; omega⟩
    · obtain ⟨c, r, e, h1, h2⟩ := ih (m / 10) (by omega)
      exact ⟨c, r ++ [UInt8.ofNat (48 + m % 10)], by rw [decDigits_big hm, e]; rfl, h1, h2⟩
set_option maxRecDepth 100000 in
theorem atoi_dec (m : Nat) (h : m ≤ 9223372036854775807) : atoiAll (decDigits m) = .ok (m : Int) := by
  obtain ⟨c, r, e, h1, h2⟩ := dec_head m
  have hp := parse_dec m (by omega)
  rw [e] at hp ⊢
  rw [Lib.atoiAll_plain c r (by omega) (by omega)]
  unfold Lib.parseMag
  rw [if_neg (by simp), hp]
  simp only [Lib.signless]
  rw [if_neg (by omega)]
set_option maxRecDepth 100000 in
theorem rdv_dec (m : Nat) (h : m ≤ 9223372036854775807) : rdv (decDigits m) = some (m : Int) := by
  unfold rdv
  rw [atoi_dec m h]
  simp only []
  rw [if_pos ⟨by omega, itoa_nat m⟩]
set_option maxRecDepth 100000 in
theorem rdv_some {l : List UInt8} {v : Int} (h : rdv l = some v) : ∃ m : Nat, v = (m : Int) ∧ m ≤ 9223372036854775807 ∧ l = decDigits m := by
  unfold rdv at h
  split at h
  · rename_i x hx
    split at h
    · rename_i hc
      cases h
      have hb := Lib.atoiAll_bounds hx
      refine ⟨v.toNat, by omega, by omega, ?_⟩
      rw [← itoa_nat, show ((v.toNat : Nat) : Int) = v by omega, hc.2]
    · cases h
  · cases h
set_option maxRecDepth 100000 in
theorem rdv_not {l : List UInt8} (h : ∀ m : Nat, m ≤ 9223372036854775807 → l ≠ decDigits m) : rdv l = none := by
  cases e : rdv l with
  | none => rfl
  | some v => obtain ⟨m, _, h1, h2⟩ := rdv_some e; exact absurd h2 (h m h1)

/-- digit by digit, of the first k -/
def rK (s : ByteArray) : Nat → Option Int
  | 0 => some 0
  | k + 1 => (rK s k).bind fun n => if (0 ≤ sb s k - 48 ∧ sb s k - 48 ≤ 9) ∧ n ≤ (9223372036854775807 - (sb s k - 48)) / 10 then some (10 * n + (sb s k - 48)) else none
set_option maxRecDepth 100000 in
theorem rK_bd (s : ByteArray) : ∀ (k : Nat) (n : Int), rK s k = some n → 0 ≤ n ∧ n ≤ 9223372036854775807
  | 0, n, h => by simp [rK] at h; omega
  | k + 1, n, h => by
    simp only [rK, Option.bind_eq_some_iff] at h
    obtain ⟨n0, h0, h1⟩ := h
    have := rK_bd s k n0 h0
    split at h1
    · cases h1; omega
    · cases h1
set_option maxRecDepth 100000 in
theorem rK_more {s : ByteArray} {k : Nat} {n : Int} (h : rK s k = some n) (h1 : 0 ≤ sb s k - 48) (h2 : sb s k - 48 ≤ 9) (h3 : n ≤ (9223372036854775807 - (sb s k - 48)) / 10) : rK s (k + 1) = some (10 * n + (sb s k - 48)) := by
  simp only [rK, h, Option.bind_some]
  rw [if_pos ⟨⟨h1, h2⟩, h3⟩]
set_option maxRecDepth 100000 in
theorem rK_stop {s : ByteArray} {k : Nat} {n : Int} (h : rK s k = some n) (h1 : sb s k - 48 < 0 ∨ 9 < sb s k - 48 ∨ (9223372036854775807 - (sb s k - 48)) / 10 < n) : rK s (k + 1) = none := by
  simp only [rK, h, Option.bind_some]
  rw [if_neg (by omega)]
set_option maxRecDepth 100000 in
theorem sb_dec {s : ByteArray} {m k : Nat} (hl : s.data.toList = decDigits m) (hk : k < s.size) : sb s k = 48 + ((m / 10 ^ (s.size - 1 - k) % 10 : Nat) : Int) := by
  have hz : s.size = nDigits m := by rw [Lib.size_eq, hl, Lib.decDigits_length]
  unfold sb
  rw [hl, Lib.decDigits_eq, List.getD_eq_getElem?_getD, List.getElem?_map, List.getElem?_range (by omega)]
  simp only [Option.map_some, Option.getD_some, Lib.dg]
  rw [dig_toNat (Nat.mod_lt _ (by decide)), ← hz]
  omega
set_option maxRecDepth 100000 in
theorem rK_dec {s : ByteArray} {m : Nat} (hm : m ≤ 9223372036854775807) (hl : s.data.toList = decDigits m) : ∀ k, k ≤ s.size → rK s k = some ((m / 10 ^ (s.size - k) : Nat) : Int)
  | 0, _ => by
    have hz : s.size = nDigits m := by rw [Lib.size_eq, hl, Lib.decDigits_length]
    have := Lib.lt_pow_nDigits m
    rw [Nat.sub_zero, hz, Nat.div_eq_of_lt this]; rfl
  | k + 1, hk => by
    have ih := rK_dec hm hl k (by omega)
    have hd := sb_dec hl (show k < s.size by omega)
    have hlt := Nat.mod_lt (m / 10 ^ (s.size - 1 - k)) (show 0 < 10 by decide)
    have e1 : m / 10 ^ (s.size - k) = m / 10 ^ (s.size - 1 - k) / 10 := by
      rw [Nat.div_div_eq_div_mul, ← Nat.pow_succ, show (s.size - 1 - k).succ = s.size - k by omega]
    have e2 : s.size - (k + 1) = s.size - 1 - k := by omega
    have hle : m / 10 ^ (s.size - 1 - k) ≤ m := Nat.div_le_self _ _
    rw [e1] at ih
    rw [e2]
    generalize m / 10 ^ (s.size - 1 - k) = x at ih hd hlt hle
    rw [rK_more ih (by omega) (by omega) (by omega)]
    congr 1
    omega
set_option maxRecDepth 100000 in
theorem rdv_stop {s : ByteArray} {k : Nat} (hk : k ≤ s.size) (h : rK s k = none) : rdv s.data.toList = none := by
  apply rdv_not
  intro m hm hl
  rw [rK_dec hm hl k hk] at h
  cases h
set_option maxRecDepth 100000 in
theorem rdv_end {s : ByteArray} {n : Int} (h : rK s s.size = some n) (hne : decS n ≠ s) : rdv s.data.toList = none := by
  apply rdv_not
  intro m hm hl
  rw [rK_dec hm hl s.size (Nat.le_refl _), Nat.sub_self, Nat.pow_zero, Nat.div_one] at h
  cases h
  apply hne
  apply ba_ext
  rw [hl]
  show itoa (m : Int) = _
  exact itoa_nat m
set_option maxRecDepth 100000 in
theorem rdv_yes {s : ByteArray} {n : Int} (h0 : 0 ≤ n) (h1 : n ≤ 9223372036854775807) (h : decS n = s) : rdv s.data.toList = some n := by
  have e : s.data.toList = decDigits n.toNat := by
    rw [← h]
    show itoa n = _
    rw [← itoa_nat, show ((n.toNat : Nat) : Int) = n by omega]
  rw [e, rdv_dec _ (by omega), show ((n.toNat : Nat) : Int) = n by omega]
set_option maxRecDepth 100000 in
theorem rdv_nil : rdv [] = none := rfl
set_option maxRecDepth 100000 in
theorem str_beq (s t : ByteArray) : (s.toList == t.toList) = decide (s = t) := by
  rw [Bool.eq_iff_iff]
  simp only [beq_iff_eq, decide_eq_true_eq, Lib.toList_data]
  exact ⟨ba_ext, fun h => by rw [h]⟩
end Go.Proofs.YtpfijaojgeceeaaGreatDoor
namespace Go.Proofs.YtpfijaojgeceeaaGreatDoor
open Go.RowKit
set_option linter.unusedVariables false

/-- what is answered: the number and true, or 0 and false -/
def RdPT (s : ByteArray) (e : Ending) : Prop := e = .returned (.tuple #[.int .i64 ((rdv s.data.toList).getD 0), .bool (rdv s.data.toList).isSome])
set_option maxRecDepth 100000 in
theorem rd_none {s : ByteArray} {e : Ending} (h : rdv s.data.toList = none) (he : e = .returned (.tuple #[.int .i64 0, .bool false])) : RdPT s e := by
  unfold RdPT; rw [he, h]; rfl
set_option maxRecDepth 100000 in
theorem rd_some {s : ByteArray} {e : Ending} {n : Int} (h : rdv s.data.toList = some n) (he : e = .returned (.tuple #[.int .i64 n, .bool true])) : RdPT s e := by
  unfold RdPT; rw [he, h]; rfl
end Go.Proofs.YtpfijaojgeceeaaGreatDoor
