/- What Var and ReadVar answer. -/
import Derived.Test.YtlodbkjjkhpbaaaDoorBase
import Derived.Test.YtlodbkjjkhpbaaaDoorVarL
namespace Go.Proofs.YtlodbkjjkhpbaaaDoor
open Go.RowKit
set_option linter.unusedVariables false

/-- x without its k lowest sevens of bits -/
def sv (x : Int) (k : Nat) : Int := x / 128 ^ k
set_option maxRecDepth 100000 in
theorem sv_zero (x : Int) : sv x 0 = x := by simp [sv]
set_option maxRecDepth 100000 in
theorem sv_succ (x : Int) (k : Nat) : sv x (k + 1) = sv x k / 128 := by
  unfold sv
  rw [Int.pow_succ, Int.ediv_ediv_of_nonneg (Int.le_of_lt (p128 k))]
set_option maxRecDepth 100000 in
theorem sv_bd (x : Int) (k : Nat) (h0 : 0 ≤ x) (h1 : x ≤ 18446744073709551615) : 0 ≤ sv x k ∧ sv x k ≤ 18446744073709551615 := by
  induction k with
  | zero => rw [sv_zero]; exact ⟨h0, h1⟩
  | succ k ih => rw [sv_succ]; omega
set_option maxRecDepth 100000 in
theorem sv_nine (x : Int) (h1 : x ≤ 18446744073709551615) : sv x 9 < 128 := by
  unfold sv; rw [show (128 : Int) ^ 9 = 9223372036854775808 from rfl]; omega
set_option maxRecDepth 100000 in
theorem var_rel {w wr w1 : World} {p : List Int} {n : Nat} {v v' : Value} {c : Int} {o : Obj} (hb : Below w.heap.size w wr)
    (hown : wr.ownsRow w.heap.size 5 1 v n (bv p))
    (h1 : w1.ownsRow w.heap.size 5 1 v' (n + 1) (bv p ++ [.int .u8 c])) (hg : (wr.alloc o).grownBy w1 v.ownBlock) :
    w1.ownsRow w.heap.size 5 1 v' (n + 1) (bv (p ++ [c])) ∧ Below w.heap.size w w1 := by
  refine ⟨by rw [bv_append]; exact h1, ?_⟩
  refine (hb.alloc hb.size o).grown hg (by have := hb.size; simp; omega) ?_
  intro g hg'
  exact (hown.lt g hg').1

set_option maxHeartbeats 400000 in
theorem var_any (x : Int) (w : World) (hx0 : 0 ≤ x) (hx1 : x ≤ 18446744073709551615) :
    Calls Tryd.prog 18 #[.int .u64 x] w fun e w' => ∃ v, e = .returned v ∧ w'.ownsRow w.heap.size 5 1 v (varL x).length (bv (varL x)) ∧ Below w.heap.size w w' := by
  obtain ⟨i0, hi, hz0, hz1, hz2⟩ := info_parts Tryd.info5
  go_enter Tryd.func18, Tryd.ntmps18
  go_wp2
  go_loopw [0, 3] (fun y v wr => ∃ (k : Nat) (p : List Int), k ≤ 9 ∧ y = .int .u64 (sv x k) ∧ wr.ownsRow w.heap.size 5 1 v k (bv p) ∧ p ++ varF (9 - k) (sv x k) = varL x ∧ Below w.heap.size w wr) (fun y _ _ => (intOf y).toNat)
  case atStart => exact ⟨0, [], Nat.zero_le _, by rw [sv_zero], World.ownsRow_nil _ _ _ _, by rw [sv_zero]; rfl, Below.refl _ _⟩
  case round =>
    obtain ⟨k, p, hk, rfl, hown, hp, hb⟩ := hrel
    have hs := sv_bd x k hx0 hx1
    have HN : Hid (k = 9 → sv x k < 128) := fun h => by rw [h]; exact sv_nine x hx1
    have HS : Hid (sv x (k + 1) = sv x k / 128) := sv_succ x k
    have HPl : Hid (p ++ varF (9 - k) (sv x k) = varL x) := hp
    clear hp
    generalize sv x k = y at hs HN HS HPl ⊢
    by_cases hlt : 128 ≤ y
    · have hk9 : k < 9 := by
        rcases Nat.lt_or_ge k 9 with h | h
        · exact h
        · have := HN.out (by omega); omega
      have HP2 : Hid (p ++ [y % 128 + 128] ++ varF (9 - (k + 1)) (y / 128) = varL x) := by
        show _ = _
        rw [← HPl.out, show 9 - k = 9 - (k + 1) + 1 from by omega, varF_big _ y (by omega), List.append_assoc]; rfl
      go_wp2_with (at_builtin; refine wpList_append_own _ rfl _ _ 36 rfl w.heap.size 5 i0 (.int .u8 0) 1 1 Tryd.underlying36 hi hz0 hz1 hz2 rfl (by decide) _ _ _ rfl (hown.alloc _) ⟨wr.heap.size, 0, none⟩ 1 1 [.int .u8 (y % 128 + 128)] rfl rfl (cell_one_new _ _ _) (bv_one [y % 128 + 128]) (by unfold maxLen; omega) (by omega) (by have := hb.size; simp; omega) ?_)
      intro v' w1 hown' hgrow _
      have R := var_rel hb hown hown' hgrow
      clear hown' hgrow hown hb
      go_wp2
      go_roundw
      case rel => exact ⟨k + 1, p ++ [y % 128 + 128], by omega, by rw [HS.out], R.1, by rw [HS.out]; exact HP2.out, R.2⟩
      case measure => simp [intOf]; omega
    · have HP2 : Hid (p ++ [y] = varL x) := by
        show _ = _
        rw [← HPl.out, varF_small _ y (by omega)]
      have HL : Hid (k + 1 = (varL x).length) := by
        show _ = _
        have h1 := hown.1; rw [bv_length] at h1
        rw [← HP2.out, List.length_append, List.length_singleton]; omega
      go_wp2_with (at_builtin; refine wpList_append_own _ rfl _ _ 36 rfl w.heap.size 5 i0 (.int .u8 0) 1 1 Tryd.underlying36 hi hz0 hz1 hz2 rfl (by decide) _ _ _ rfl (hown.alloc _) ⟨wr.heap.size, 0, none⟩ 1 1 [.int .u8 y] rfl rfl (cell_one_new _ _ _) (bv_one [y]) (by unfold maxLen; omega) (by omega) (by have := hb.size; simp; omega) ?_)
      intro v' w1 hown' hgrow _
      have R := var_rel hb hown hown' hgrow
      clear hown' hgrow hown hb
      rw [HP2.out, HL.out] at R
      go_wp2
      go_ret
      exact ⟨_, rfl, R.1, R.2⟩

def rdVal (r : Int × Int × Int) : Value := .tuple #[.int .u64 r.1, .int .i64 r.2.1, .int .i64 r.2.2]

set_option maxRecDepth 100000 in
theorem rd_ret {r : Int × Int × Int} {a b c : Int} (h : r = (a, b, c)) : Ending.returned (.tuple #[.int .u64 a, .int .i64 b, .int .i64 c]) = .returned (rdVal r) := by rw [h]; rfl
set_option maxRecDepth 100000 in
theorem drop_getD (l : List Int) (k : Nat) (h : k < l.length) : l.drop k = l.getD k 0 :: l.drop (k + 1) := by
  rw [List.getD_eq_getElem?_getD, List.getElem?_eq_getElem h]; exact List.drop_eq_getElem_cons h
end Go.Proofs.YtlodbkjjkhpbaaaDoor
