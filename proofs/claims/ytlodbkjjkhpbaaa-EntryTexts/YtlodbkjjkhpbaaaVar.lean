/- What Var and ReadVar answer. -/
import Derived.Test.YtlodbkjjkhpbaaaBase
import Derived.Test.YtlodbkjjkhpbaaaVarL
namespace Go.Proofs.Ytlodbkjjkhpbaaa
open Go.RowKit
set_option linter.unusedVariables false

/-- x without its k lowest sevens of bits -/
def sv (x : Int) (k : Nat) : Int := x / 128 ^ k
set_option maxRecDepth 100000 in
theorem sv_zero (x : Int) : sv x 0 = x := by simp [sv]
set_option maxRecDepth 100000 in
theorem sv_succ (x : Int) (k : Nat) : sv x (k + 1) = sv x k / 128 := by
  unfold sv
  rw [Int.pow_succ, Int.ediv_ediv_of_nonneg (Int.le_of_lt (p128 k))]
set_option maxRecDepth 100000 in
theorem sv_bd (x : Int) (k : Nat) (h0 : 0 ≤ x) (h1 : x ≤ 18446744073709551615) : 0 ≤ sv x k ∧ sv x k ≤ 18446744073709551615 := by
  induction k with
  | zero => rw [sv_zero]; exact ⟨h0, h1⟩
  | succ k ih => rw [sv_succ]; omega
set_option maxRecDepth 100000 in
theorem sv_nine (x : Int) (h1 : x ≤ 18446744073709551615) : sv x 9 < 128 := by
  unfold sv; rw [show (128 : Int) ^ 9 = 9223372036854775808 from rfl]; omega
set_option maxRecDepth 100000 in
theorem var_rel {w wr w1 : World} {p : List Int} {n : Nat} {v v' : Value} {c : Int} {o : Obj} (hb : Below w.heap.size w wr)
    (hown : wr.ownsRow w.heap.size 5 1 v n (bv p))
    (h1 : w1.ownsRow w.heap.size 5 1 v' (n + 1) (bv p ++ [.int .u8 c])) (hg : (wr.alloc o).grownBy w1 v.ownBlock) :
    w1.ownsRow w.heap.size 5 1 v' (n + 1) (bv (p ++ [c])) ∧ Below w.heap.size w w1 := by
  refine ⟨by rw [bv_append]; exact h1, ?_⟩
  refine (hb.alloc hb.size o).grown hg (by have := hb.size; simp; omega) ?_
  intro g hg'
  exact (hown.lt g hg').1

set_option maxHeartbeats 400000 in
theorem var_any (x : Int) (w : World) (hx0 : 0 ≤ x) (hx1 : x ≤ 18446744073709551615) :
    Calls Try.prog 17 #[.int .u64 x] w fun e w' => ∃ v, e = .returned v ∧ w'.ownsRow w.heap.size 5 1 v (varL x).length (bv (varL x)) ∧ Below w.heap.size w w' := by
  obtain ⟨i0, hi, hz0, hz1, hz2⟩ := info_parts Try.info5
  go_enter Try.func17, Try.ntmps17
  go_wp2
  go_loopw [0, 3] (fun y v wr => ∃ (k : Nat) (p : List Int), k ≤ 9 ∧ y = .int .u64 (sv x k) ∧ wr.ownsRow w.heap.size 5 1 v k (bv p) ∧ p ++ varF (9 - k) (sv x k) = varL x ∧ Below w.heap.size w wr) (fun y _ _ => (intOf y).toNat)
  case atStart => exact ⟨0, [], Nat.zero_le _, by rw [sv_zero], World.ownsRow_nil _ _ _ _, by rw [sv_zero]; rfl, Below.refl _ _⟩
  case round =>
    obtain ⟨k, p, hk, rfl, hown, hp, hb⟩ := hrel
    have hs := sv_bd x k hx0 hx1
    have HN : Hid (k = 9 → sv x k < 128) := fun h => by rw [h]; exact sv_nine x hx1
    have HS : Hid (sv x (k + 1) = sv x k / 128) := sv_succ x k
    have HPl : Hid (p ++ varF (9 - k) (sv x k) = varL x) := hp
    clear hp
    generalize sv x k = y at hs HN HS HPl ⊢
    by_cases hlt : 128 ≤ y
    · have hk9 : k < 9 := by
        rcases Nat.lt_or_ge k 9 with h | h
        · exact h
        · have := HN.out (by omega); omega
      have HP2 : Hid (p ++ [y % 128 + 128] ++ varF (9 - (k + 1)) (y / 128) = varL x) := by
        show _ = _
        rw [← HPl.out, show 9 - k = 9 - (k + 1) + 1 from by omega, varF_big _ y (by omega), List.append_assoc]; rfl
      go_wp2_with (at_builtin; refine wpList_append_own _ rfl _ _ 29 rfl w.heap.size 5 i0 (.int .u8 0) 1 1 Try.underlying29 hi hz0 hz1 hz2 rfl (by decide) _ _ _ rfl (hown.alloc _) ⟨wr.heap.size, 0, none⟩ 1 1 [.int .u8 (y % 128 + 128)] rfl rfl (cell_one_new _ _ _) (bv_one [y % 128 + 128]) (by unfold maxLen; omega) (by omega) (by have := hb.size; simp; omega) ?_)
      intro v' w1 hown' hgrow _
      have R := var_rel hb hown hown' hgrow
      clear hown' hgrow hown hb
      go_wp2
      go_roundw
      case rel => exact ⟨k + 1, p ++ [y % 128 + 128], by omega, by rw [HS.out], R.1, by rw [HS.out]; exact HP2.out, R.2⟩
      case measure => simp [intOf]; omega
    · have HP2 : Hid (p ++ [y] = varL x) := by
        show _ = _
        rw [← HPl.out, varF_small _ y (by omega)]
      have HL : Hid (k + 1 = (varL x).length) := by
        show _ = _
        have h1 := hown.1; rw [bv_length] at h1
        rw [← HP2.out, List.length_append, List.length_singleton]; omega
      go_wp2_with (at_builtin; refine wpList_append_own _ rfl _ _ 29 rfl w.heap.size 5 i0 (.int .u8 0) 1 1 Try.underlying29 hi hz0 hz1 hz2 rfl (by decide) _ _ _ rfl (hown.alloc _) ⟨wr.heap.size, 0, none⟩ 1 1 [.int .u8 y] rfl rfl (cell_one_new _ _ _) (bv_one [y]) (by unfold maxLen; omega) (by omega) (by have := hb.size; simp; omega) ?_)
      intro v' w1 hown' hgrow _
      have R := var_rel hb hown hown' hgrow
      clear hown' hgrow hown hb
      rw [HP2.out, HL.out] at R
      go_wp2
      go_ret
      exact ⟨_, rfl, R.1, R.2⟩

def rdVal (r : Int × Int × Int) : Value := .tuple #[.int .u64 r.1, .int .i64 r.2.1, .int .i64 r.2.2]

set_option maxRecDepth 100000 in
theorem rd_ret {r : Int × Int × Int} {a b c : Int} (h : r = (a, b, c)) : Ending.returned (.tuple #[.int .u64 a, .int .i64 b, .int .i64 c]) = .returned (rdVal r) := by rw [h]; rfl
set_option maxRecDepth 100000 in
theorem drop_getD (l : List Int) (k : Nat) (h : k < l.length) : l.drop k = l.getD k 0 :: l.drop (k + 1) := by
  rw [List.getD_eq_getElem?_getD, List.getElem?_eq_getElem h]; exact List.drop_eq_getElem_cons h
set_option maxRecDepth 100000 in
theorem or_low64 (i : Nat) (x y : Int) (hx0 : 0 ≤ x) (hx : x ≤ 18446744073709551615) (hy0 : 0 ≤ y) (hy : y ≤ 18446744073709551615) (hlt : x < 2 ^ i) (hm : y % 2 ^ i = 0) : bits .or .u64 x y = x + y := by
  rw [u64_or x y hx0 (by omega) hy0 (by omega)]
  obtain ⟨a, rfl⟩ := Int.eq_ofNat_of_zero_le hx0
  obtain ⟨b, rfl⟩ := Int.eq_ofNat_of_zero_le hy0
  rw [Int.toNat_natCast, Int.toNat_natCast, Nat.or_comm, nat_join i b a (by exact_mod_cast hm) (by exact_mod_cast hlt), Nat.add_comm]
  rfl

set_option maxHeartbeats 1000000 in
theorem readvar_any (a : Option Addr) (len cap : Nat) (l : List Int) (w : World) (h : Bts w a len cap l) :
    Calls Try.prog 30 #[.slice a len cap] w fun e w' => e = .returned (rdVal (rd l 0 0)) ∧ w = w' := by
  have hl : Hid (l.length = len) := h.len_eq
  have hm := Nat.le_trans h.le_cap h.cap_le
  unfold maxLen at hm
  have HB : Hid (Byt l) := h.byt
  go_enter Try.func30, Try.ntmps30
  go_wp2
  go_loop [5, 10] (fun x i => ∃ (k : Nat) (X : Int), k ≤ len ∧ k ≤ 9 ∧ i = .int .i64 k ∧ x = .int .u64 X ∧ 0 ≤ X ∧ X < 128 ^ k ∧ rd (l.drop k) k X = rd l 0 0) (fun _ i => len - (intOf i).toNat)
  case atStart => exact ⟨0, 0, Nat.zero_le _, by omega, rfl, rfl, by omega, by simp, rfl⟩
  case round =>
    obtain ⟨k, X, hk, hk9, rfl, rfl, hX0, hX1, hrd⟩ := hrel
    have HR : Hid (rd (l.drop k) k X = rd l 0 0) := hrd
    have HX : Hid (X < 128 ^ k) := hX1
    clear hrd
    by_cases hlt : k < len
    · obtain ⟨b, off, rfl, _, hc⟩ := h.spot (by omega)
      have hcell := hc k hlt
      have hbd := HB.out.getD k
      have HD : Hid (l.drop k = l.getD k 0 :: l.drop (k + 1)) := drop_getD l k (by rw [hl.out]; exact hlt)
      clear hc
      generalize l.getD k 0 = C at hcell hbd HD
      have HR2 : Hid (rd (C :: l.drop (k + 1)) k X = rd l 0 0) := by show _ = _; rw [← HD.out]; exact HR.out
      have hpl := p128_le k hk9
      have hp := p128 k
      have hX2 : X ≤ 18446744073709551615 := by omega
      have hsh := mul_bd (a := C % 128) (by omega) (by omega) hp
      have hX1' := HX.out
      by_cases c9 : k = 9
      · have c9a : ((k : Int) == 9) = true := by simp; omega
        have hk0 : ((0 : Int) < (k : Int)) := by omega
        have HE9 : Hid ((128 : Int) ^ k = 9223372036854775808) := by show _ = _; rw [c9]; rfl
        have HK9 : Hid (k = 9) := c9
        clear c9
        by_cases c1 : 1 < C
        · have HF : Hid (rd l 0 0 = (0, 0, 4)) := by show _ = _; rw [← HR2.out]; unfold rd; rw [if_pos ⟨HK9.out, c1⟩]
          clear hX1' hX1 hsh
          go_wp2
          go_ret3
          exact ⟨rd_ret HF.out, rfl⟩
        · have hT : 0 ≤ C % 128 * 2 ^ (7 * k) ∧ C % 128 * 2 ^ (7 * k) ≤ 18446744073709551615 := by
            rw [p128_two, HE9.out]; omega
          have hor : bits .or .u64 X (C % 128 * 2 ^ (7 * k)) = X + C % 128 * 2 ^ (7 * k) := or_low64 (7 * k) _ _ hX0 hX2 hT.1 hT.2 (by rw [p128_two]; exact HX.out) (Int.mul_emod_left _ _)
          have c128 : ¬ 128 ≤ C := by omega
          by_cases c0 : C = 0
          · have HF : Hid (rd l 0 0 = (0, 0, 4)) := by show _ = _; rw [← HR2.out]; unfold rd; rw [if_neg (fun h => c1 h.2), if_neg c128, if_pos ⟨c0, by omega⟩]
            have c0b : (C == 0) = true := by simpa using c0
            clear hX1' hX1 hsh c0
            go_wp2
            go_ret3
            exact ⟨rd_ret HF.out, rfl⟩
          · have HF : Hid (rd l 0 0 = (X + C % 128 * 2 ^ (7 * k), (k : Int) + 1, 0)) := by show _ = _; rw [← HR2.out, p128_two]; unfold rd; rw [if_neg (fun h => c1 h.2), if_neg c128, if_neg (fun h => c0 h.1)]
            have c0b : (C == 0) = false := by simpa using c0
            clear hX1' hX1 hsh c0
            go_wp2
            go_ret3
            exact ⟨rd_ret HF.out, rfl⟩
      · have c9a : ((k : Int) == 9) = false := by simp; omega
        have c9n : ¬ (k = 9 ∧ 1 < C) := fun h => c9 h.1
        have hp8 := p128_le8 k (by omega)
        have hT : 0 ≤ C % 128 * 2 ^ (7 * k) ∧ C % 128 * 2 ^ (7 * k) ≤ 18446744073709551615 := by
          rw [p128_two]; omega
        have hor : bits .or .u64 X (C % 128 * 2 ^ (7 * k)) = X + C % 128 * 2 ^ (7 * k) := or_low64 (7 * k) _ _ hX0 hX2 hT.1 hT.2 (by rw [p128_two]; exact HX.out) (Int.mul_emod_left _ _)
        have HC9 : Hid (¬ (k = 9 ∧ 1 < C)) := c9n
        have hk8 : k ≤ 8 := by omega
        clear c9 c9n
        by_cases c128 : 128 ≤ C
        · have HF : Hid (rd (l.drop (k + 1)) (k + 1) (X + C % 128 * 128 ^ k) = rd l 0 0) := by show _ = _; rw [← HR2.out]; conv => rhs; unfold rd; rw [if_neg HC9.out, if_pos c128]
          have HB2 : Hid (X + C % 128 * 128 ^ k < 128 ^ (k + 1)) := by show _ < _; rw [Int.pow_succ]; omega
          have HB0 : Hid (0 ≤ X + C % 128 * 128 ^ k) := by show _ ≤ _; omega
          clear hX1' hX1 hsh
          go_wp2
          go_round
          case rel => exact ⟨k + 1, X + C % 128 * 128 ^ k, by omega, by omega, by go_num, by rw [← p128_two], HB0.out, HB2.out, HF.out⟩
          case measure => simp [intOf]; omega
        · by_cases c0 : C = 0
          · have c0b : (C == 0) = true := by simpa using c0
            by_cases k0 : 0 < k
            · have HF : Hid (rd l 0 0 = (0, 0, 4)) := by show _ = _; rw [← HR2.out]; unfold rd; rw [if_neg HC9.out, if_neg c128, if_pos ⟨c0, k0⟩]
              have k0' : (0 : Int) < k := by omega
              clear hX1' hX1 hsh c0
              go_wp2
              go_ret3
              exact ⟨rd_ret HF.out, rfl⟩
            · have HF : Hid (rd l 0 0 = (X + C % 128 * 2 ^ (7 * k), (k : Int) + 1, 0)) := by show _ = _; rw [← HR2.out, p128_two]; unfold rd; rw [if_neg HC9.out, if_neg c128, if_neg (fun h => k0 h.2)]
              have k0' : ¬ (0 : Int) < k := by omega
              clear hX1' hX1 hsh c0
              go_wp2
              go_ret3
              exact ⟨rd_ret HF.out, rfl⟩
          · have c0b : (C == 0) = false := by simpa using c0
            have HF : Hid (rd l 0 0 = (X + C % 128 * 2 ^ (7 * k), (k : Int) + 1, 0)) := by show _ = _; rw [← HR2.out, p128_two]; unfold rd; rw [if_neg HC9.out, if_neg c128, if_neg (fun h => c0 h.1)]
            clear hX1' hX1 hsh c0
            go_wp2
            go_ret3
            exact ⟨rd_ret HF.out, rfl⟩
    · have HF : Hid (rd l 0 0 = (0, 0, 3)) := by show _ = _; rw [← HR.out, List.drop_of_length_le (by rw [hl.out]; omega)]; rfl
      clear hX1
      go_wp2
      go_ret3
      exact ⟨rd_ret HF.out, rfl⟩
end Go.Proofs.Ytlodbkjjkhpbaaa
