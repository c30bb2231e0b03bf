/- The document's own chunks: counts, two, sized. -/
import Derived.Test.YtjlclgmbenhakaaChunkMath2
import Derived.Test.YtjlclgmbenhakaaSlc
import Derived.Test.YtjlclgmbenhakaaTBase
namespace Go.Proofs.Ytjlclgmbenhakaa
open Go.RowKit
set_option linter.unusedVariables false

/-- the digits -/
def hexS : ByteArray := ⟨#[48, 49, 50, 51, 52, 53, 54, 55, 56, 57, 97, 98, 99, 100, 101, 102]⟩
set_option maxRecDepth 100000 in
theorem hexS_dgt : ∀ k, k < 16 → dgt (sb hexS k) = k := by decide
set_option maxRecDepth 100000 in
theorem dgt_hexS {b : Int} (h : dgt b ≠ 16) : sb hexS (dgt b) = b := by
  unfold dgt at h ⊢
  split
  · rename_i h1
    obtain ⟨n, rfl⟩ : ∃ n : Nat, b = (n : Int) := ⟨b.toNat, by omega⟩
    have : ∀ n : Nat, n < 58 → 48 ≤ n → sb hexS ((n : Int) - 48).toNat = (n : Int) := by decide
    exact this n (by omega) (by omega)
  · rename_i h1
    split
    · rename_i h2
      obtain ⟨n, rfl⟩ : ∃ n : Nat, b = (n : Int) := ⟨b.toNat, by omega⟩
      have : ∀ n : Nat, n < 103 → 97 ≤ n → sb hexS ((n : Int) - 87).toNat = (n : Int) := by decide
      exact this n (by omega) (by omega)
    · rename_i h2
      rw [if_neg h1, if_neg h2] at h; exact absurd rfl h
set_option maxRecDepth 100000 in
theorem idx_const (s : ByteArray) (j : Nat) (hj : j < s.size) (S : Value) (hS : Value.string s = S) : ∀ w, (Instr.index 9 S (.int .i64 (j : Int))).run Try.prog w = .ok (.int .u8 (sb s j)) w := by
  intro w
  subst hS
  have hb : s[j]? = some (s[j]'hj) := getElem?_pos s j hj
  simp only [Instr.index, asIntOf, go_sem, part]
  simp [Try.underlying9, underlying, hb]
  exact sb_eq s j hj
set_option maxHeartbeats 400000 in
theorem counts_any (b : Int) (w : World) (h : 0 ≤ b ∧ b ≤ 255) :
    Calls Try.prog 22 #[.int .u8 b] w fun e w' => e = .returned (.int .i64 (dgt b : Int)) ∧ w = w' := by
  have hdl := dgt_le b
  have HD : Bx (∀ k, k < 16 → (sb hexS k = b ↔ k = dgt b)) := ⟨fun k hk => ⟨fun e => by rw [← e, hexS_dgt k hk], fun e => by rw [e]; exact dgt_hexS (by omega)⟩⟩
  go_enter Try.func22, Try.ntmps22
  generalize hS : Value.string _ = SV
  have HIX : Bx (∀ k : Nat, k < 16 → ∀ w, (Instr.index 9 SV (.int .i64 (k : Int))).run Try.prog w = .ok (.int .u8 (sb hexS k)) w) := ⟨fun k hk => idx_const hexS k hk SV hS⟩
  clear hS
  obtain ⟨d, HDE⟩ : ∃ d, Bx (d = dgt b) := ⟨_, ⟨rfl⟩⟩
  rw [← HDE.out] at HD hdl
  go_wp2
  go_loop [3] (fun i => ∃ k : Nat, k ≤ d ∧ i = .int .i64 k) (fun i => 16 - (intOf i).toNat)
  case atStart => exact ⟨0, Nat.zero_le _, rfl⟩
  case round =>
    obtain ⟨k, hk, rfl⟩ := hrel
    by_cases h16 : k < 16
    · have hkI : (k : Int) < 16 := by omega
      have hix := HIX.out k h16
      by_cases he : k = d
      · have hq : (sb hexS k == b) = true := by simpa using (HD.out k h16).2 he
        have HE := Bx.mk he
        generalize sb hexS k = y at hix hq
        clear he
        go_wp2
        go_ret
        exact ⟨ret_int (by rw [HE.out, HDE.out]), rfl⟩
      · have hq : (sb hexS k == b) = false := by
          rw [beq_eq_false_iff_ne]; exact fun e => he ((HD.out k h16).1 e)
        generalize sb hexS k = y at hix hq
        go_wp2
        go_round
        case rel => exact ⟨k + 1, by omega, by go_num⟩
        case measure => simp [intOf]; omega
    · have hkI : ¬ (k : Int) < 16 := by omega
      have HE : Bx ((16 : Int) = (d : Int)) := ⟨by omega⟩
      go_wp2
      go_ret
      exact ⟨ret_int (by rw [HE.out, HDE.out]), rfl⟩
set_option maxHeartbeats 1000000 in
theorem two_any (a : Option Addr) (len cap : Nat) (l : List Int) (w : World) (h : Bts w a len cap l) :
    Calls Try.prog 18 #[.slice a len cap] w fun e w' => e = .returned (.int .i64 (twoR l)) ∧ w = w' := by
  have hl := h.len_eq
  have hm := Nat.le_trans h.le_cap h.cap_le
  unfold maxLen at hm
  match l, hl with
  | [], hl =>
    obtain rfl : len = 0 := hl.symm
    have HT : Bx (twoR [] = 3) := ⟨two_nil⟩
    clear h hl
    go_enter Try.func18, Try.ntmps18
    go_wp2
    go_ret
    exact ⟨ret_int HT.out.symm, rfl⟩
  | [x], hl =>
    obtain rfl : len = 1 := hl.symm
    obtain ⟨b, off, rfl, _, hc⟩ := h.spot (by decide)
    have c0 : w.cell? ⟨b, off, none⟩ = some (.int .u8 x) := hc 0 (by decide)
    have HT := Bx.mk (two_one x)
    clear h hl hc
    by_cases hx : x = 13
    · have hq : (x != 13) = false := by simpa using hx
      have HT2 : Bx (twoR [x] = 3) := ⟨by rw [HT.out, if_pos hx]⟩
      clear hx HT
      go_enter Try.func18, Try.ntmps18
      go_wp2
      go_ret
      exact ⟨ret_int HT2.out.symm, rfl⟩
    · have hq : (x != 13) = true := by simpa using hx
      have HT2 : Bx (twoR [x] = 4) := ⟨by rw [HT.out, if_neg hx]⟩
      clear hx HT
      go_enter Try.func18, Try.ntmps18
      go_wp2
      go_ret
      exact ⟨ret_int HT2.out.symm, rfl⟩
  | x :: y :: r, hl =>
    obtain ⟨b, off, rfl, _, hc⟩ := h.spot (by simp at hl; omega)
    have hl2 : 2 ≤ len := by simp at hl; omega
    have c0 : w.cell? ⟨b, off, none⟩ = some (.int .u8 x) := hc 0 (by omega)
    have c1 : w.cell? ⟨b, off + 1, none⟩ = some (.int .u8 y) := hc 1 (by omega)
    have g1 : decide ((len : Int) ≥ 1) = true := by simp; omega
    have g2 : decide ((len : Int) ≥ 2) = true := by simp; omega
    have g3 : decide ((len : Int) < 2) = false := by simp; omega
    have k1 : (1 : Int) < (len : Int) := by omega
    have k0 : (0 : Int) < (len : Int) := by omega
    have HT := Bx.mk (two_two x y r)
    clear h hl hc
    by_cases hx : x = 13
    · have hq : (x != 13) = false := by simpa using hx
      by_cases hy : y = 10
      · have hq2 : (y != 10) = false := by simpa using hy
        have HT2 : Bx (twoR (x :: y :: r) = 0) := ⟨by rw [HT.out, if_pos ⟨hx, hy⟩]⟩
        clear hx hy HT
        go_enter Try.func18, Try.ntmps18
        go_wp2
        go_ret
        exact ⟨ret_int HT2.out.symm, rfl⟩
      · have hq2 : (y != 10) = true := by simpa using hy
        have HT2 : Bx (twoR (x :: y :: r) = 4) := ⟨by rw [HT.out, if_neg (fun h => hy h.2)]⟩
        clear hx hy HT
        go_enter Try.func18, Try.ntmps18
        go_wp2
        go_ret
        exact ⟨ret_int HT2.out.symm, rfl⟩
    · have hq : (x != 13) = true := by simpa using hx
      have HT2 : Bx (twoR (x :: y :: r) = 4) := ⟨by rw [HT.out, if_neg (fun h => hx h.1)]⟩
      clear hx HT
      go_enter Try.func18, Try.ntmps18
      go_wp2
      go_ret
      exact ⟨ret_int HT2.out.symm, rfl⟩
end Go.Proofs.Ytjlclgmbenhakaa
