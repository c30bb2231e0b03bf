/- What Var and ReadVar answer. How many bytes a short number has. No walk. A new variable of whatever type: so many cells. What the document's Cut and Copy answer. What Put answers: bytes of memory of its own. What the document's Put answers. What is reckoned by SHA-256, on lists of numbers: no walk. What the document's Pad answers. -/
import Derived.Test.YtbednfacipphhaaDoorBase
import Derived.Test.YtbednfacipphhaaDoorAuan
import Derived.Test.YtbednfacipphhaaDoorAuak
namespace Go.Proofs.YtbednfacipphhaaDoor
open Go.RowKit
set_option linter.unusedVariables false

/-- x without its k lowest sevens of bits -/
def sv (x : Int) (k : Nat) : Int := x / 128 ^ k
set_option maxRecDepth 100000 in
theorem sv_zero (x : Int) : sv x 0 = x := by simp [sv]
set_option maxRecDepth 100000 in
theorem sv_succ (x : Int) (k : Nat) : sv x (k + 1) = sv x k / 128 := by
  unfold sv
  rw [Int.pow_succ, Int.ediv_ediv_of_nonneg (Int.le_of_lt (p128 k))]
set_option maxRecDepth 100000 in
theorem sv_bd (x : Int) (k : Nat) (h0 : 0 ≤ x) (h1 : x ≤ 18446744073709551615) : 0 ≤ sv x k ∧ sv x k ≤ 18446744073709551615 := by
  induction k with
  | zero => rw [sv_zero]; exact ⟨h0, h1⟩
  | succ k ih => rw [sv_succ]; omega
set_option maxRecDepth 100000 in
theorem sv_nine (x : Int) (h1 : x ≤ 18446744073709551615) : sv x 9 < 128 := by
  unfold sv; rw [show (128 : Int) ^ 9 = 9223372036854775808 from rfl]; omega
set_option maxRecDepth 100000 in
theorem var_rel {w wr w1 : World} {p : List Int} {n : Nat} {v v' : Value} {c : Int} {o : Obj} (hb : Below w.heap.size w wr)
    (hown : wr.ownsRow w.heap.size 5 1 v n (bv p))
    (h1 : w1.ownsRow w.heap.size 5 1 v' (n + 1) (bv p ++ [.int .u8 c])) (hg : (wr.alloc o).grownBy w1 v.ownBlock) :
    w1.ownsRow w.heap.size 5 1 v' (n + 1) (bv (p ++ [c])) ∧ Below w.heap.size w w1 := by
  refine ⟨by rw [bv_append]; exact h1, ?_⟩
  refine (hb.alloc hb.size o).grown hg (by have := hb.size; simp; omega) ?_
  intro g hg'
  exact (hown.lt g hg').1

set_option maxHeartbeats 400000 in
theorem var_any (x : Int) (w : World) (hx0 : 0 ≤ x) (hx1 : x ≤ 18446744073709551615) :
    Calls Tryd.prog 70 #[.int .u64 x] w fun e w' => ∃ v, e = .returned v ∧ w'.ownsRow w.heap.size 5 1 v (varL x).length (bv (varL x)) ∧ Below w.heap.size w w' := by
  obtain ⟨i0, hi, hz0, hz1, hz2⟩ := info_parts Tryd.info5
  go_enter Tryd.func70, Tryd.ntmps70
  go_wp2
  go_loopw [0, 3] (fun y v wr => ∃ (k : Nat) (p : List Int), k ≤ 9 ∧ y = .int .u64 (sv x k) ∧ wr.ownsRow w.heap.size 5 1 v k (bv p) ∧ p ++ varF (9 - k) (sv x k) = varL x ∧ Below w.heap.size w wr) (fun y _ _ => (intOf y).toNat)
  case atStart => exact ⟨0, [], Nat.zero_le _, by rw [sv_zero], World.ownsRow_nil _ _ _ _, by rw [sv_zero]; rfl, Below.refl _ _⟩
  case round =>
    obtain ⟨k, p, hk, rfl, hown, hp, hb⟩ := hrel
    have hs := sv_bd x k hx0 hx1
    have HN : Hid (k = 9 → sv x k < 128) := fun h => by rw [h]; exact sv_nine x hx1
    have HS : Hid (sv x (k + 1) = sv x k / 128) := sv_succ x k
    have HPl : Hid (p ++ varF (9 - k) (sv x k) = varL x) := hp
    clear hp
    generalize sv x k = y at hs HN HS HPl ⊢
    by_cases hlt : 128 ≤ y
    · have hk9 : k < 9 := by
        rcases Nat.lt_or_ge k 9 with h | h
        · exact h
        · have := HN.out (by omega); omega
      have HP2 : Hid (p ++ [y % 128 + 128] ++ varF (9 - (k + 1)) (y / 128) = varL x) := by
        show _ = _
        rw [← HPl.out, show 9 - k = 9 - (k + 1) + 1 from by omega, varF_big _ y (by omega), List.append_assoc]; rfl
      go_wp2_with (at_builtin; refine wpList_append_own _ rfl _ _ 22 rfl w.heap.size 5 i0 (.int .u8 0) 1 1 Tryd.underlying22 hi hz0 hz1 hz2 rfl (by decide) _ _ _ rfl (hown.alloc _) ⟨wr.heap.size, 0, none⟩ 1 1 [.int .u8 (y % 128 + 128)] rfl rfl (cell_one_new _ _ _) (bv_one [y % 128 + 128]) (by unfold maxLen; omega) (by omega) (by have := hb.size; simp; omega) ?_)
      intro v' w1 hown' hgrow _
      have R := var_rel hb hown hown' hgrow
      clear hown' hgrow hown hb
      go_wp2
      go_roundw
      case rel => exact ⟨k + 1, p ++ [y % 128 + 128], by omega, by rw [HS.out], R.1, by rw [HS.out]; exact HP2.out, R.2⟩
      case measure => simp [intOf]; omega
    · have HP2 : Hid (p ++ [y] = varL x) := by
        show _ = _
        rw [← HPl.out, varF_small _ y (by omega)]
      have HL : Hid (k + 1 = (varL x).length) := by
        show _ = _
        have h1 := hown.1; rw [bv_length] at h1
        rw [← HP2.out, List.length_append, List.length_singleton]; omega
      go_wp2_with (at_builtin; refine wpList_append_own _ rfl _ _ 22 rfl w.heap.size 5 i0 (.int .u8 0) 1 1 Tryd.underlying22 hi hz0 hz1 hz2 rfl (by decide) _ _ _ rfl (hown.alloc _) ⟨wr.heap.size, 0, none⟩ 1 1 [.int .u8 y] rfl rfl (cell_one_new _ _ _) (bv_one [y]) (by unfold maxLen; omega) (by omega) (by have := hb.size; simp; omega) ?_)
      intro v' w1 hown' hgrow _
      have R := var_rel hb hown hown' hgrow
      clear hown' hgrow hown hb
      rw [HP2.out, HL.out] at R
      go_wp2
      go_ret
      exact ⟨_, rfl, R.1, R.2⟩

def rdVal (r : Int × Int × Int) : Value := .tuple #[.int .u64 r.1, .int .i64 r.2.1, .int .i64 r.2.2]

set_option maxRecDepth 100000 in
theorem rd_ret {r : Int × Int × Int} {a b c : Int} (h : r = (a, b, c)) : Ending.returned (.tuple #[.int .u64 a, .int .i64 b, .int .i64 c]) = .returned (rdVal r) := by rw [h]; rfl
set_option maxRecDepth 100000 in
theorem drop_getD (l : List Int) (k : Nat) (h : k < l.length) : l.drop k = l.getD k 0 :: l.drop (k + 1) := by
  rw [List.getD_eq_getElem?_getD, List.getElem?_eq_getElem h]; exact List.drop_eq_getElem_cons h
end Go.Proofs.YtbednfacipphhaaDoor
namespace Go.Proofs.YtbednfacipphhaaDoor
open Go.RowKit
set_option linter.unusedVariables false

/-- how many bytes a short number has -/
def rdn (l : List Int) : Nat := (rd l 0 0).2.1.toNat
set_option maxRecDepth 100000 in
theorem rdn_bd {l : List Int} (hb : Byt l) : rdn l ≤ l.length ∧ (rd l 0 0).2.1 = (rdn l : Int) := by
  unfold rdn
  by_cases he : (rd l 0 0).2.2 = 0
  · rcases hr : rd l 0 0 with ⟨x, n, e⟩
    rw [hr] at he
    simp only at he
    subst he
    obtain ⟨m, _, h2, h3, _⟩ := rd_back hb hr
    simp only
    omega
  · rw [(rd_err l 0 0 he).2]; simp
end Go.Proofs.YtbednfacipphhaaDoor
namespace Go.Proofs.YtbednfacipphhaaDoor
open Go.RowKit
set_option linter.unusedVariables false

set_option maxRecDepth 100000 in
theorem wp_alloc_of {o : Oper} {a : Act} {w : World} {K : Act → World → Prop} {Q : Exit → Act → World → Prop} (T : TypeId) (sz : Nat) (ho : o.op = .alloc T) (hz : (Tryd.prog.info? T).map (fun i => i.zero.map (·.cells.size)) = some (some sz))
    (h : ∀ cs : Array Value, cs.size = sz → K (a.put o.dst (.pointer (some ⟨w.heap.size, 0, none⟩))) (w.alloc (.cells cs T))) : o.wp Tryd.prog a w K Q := by
  obtain ⟨it, hit, hz0⟩ := Option.map_eq_some_iff.1 hz
  obtain ⟨z, hzz, hzs⟩ := Option.map_eq_some_iff.1 hz0
  unfold Oper.wp execOp
  simp [ho, Instr.alloc, zeroValue, typeInfo, hit, hzz, newVar, newRow, go_sem]
  exact h _ hzs
set_option maxRecDepth 100000 in
theorem wpList_alloc_of {ops : Array Oper} {rest : List Oper} {o : Oper} {a : Act} {w : World} {Q : Exit → Act → World → Prop} (hgd : o.guard = none) (T : TypeId) (sz : Nat) (ho : o.op = .alloc T) (hz : (Tryd.prog.info? T).map (fun i => i.zero.map (·.cells.size)) = some (some sz))
    (h : ∀ cs : Array Value, cs.size = sz → wpList Tryd.prog ops Q rest (a.put o.dst (.pointer (some ⟨w.heap.size, 0, none⟩))) (w.alloc (.cells cs T))) : wpList Tryd.prog ops Q (o :: rest) a w :=
  wpList_plain hgd fun _ hK => wp_alloc_of T sz ho hz (fun cs hs => hK _ _ (h cs hs))
end Go.Proofs.YtbednfacipphhaaDoor
namespace Go.Proofs.YtbednfacipphhaaDoor
open Go.RowKit
set_option linter.unusedVariables false

set_option maxRecDepth 100000 in
theorem Bts.cut {w : World} {ao : Option Addr} {len cap : Nat} {l : List Int} (h : Bts w ao len cap l) (n : Nat) (hn : n ≤ len) : Bts w ao n cap (l.take n) := by
  have hl := h.len_eq
  refine ⟨by rw [List.length_take]; omega, h.byt.take n, Nat.le_trans hn h.le_cap, h.cap_le, h.nil, fun hp => ?_⟩
  obtain ⟨b, off, e, hlt, hc⟩ := h.spot (by omega)
  refine ⟨b, off, e, hlt, fun i hi => ?_⟩
  rw [hc i (by omega), List.getD_eq_getElem?_getD, List.getD_eq_getElem?_getD, List.getElem?_take, if_pos hi]

set_option maxRecDepth 100000 in
theorem Bts.cells {w : World} {ad : Addr} {len cap : Nat} {l : List Int} (h : Bts w (some ad) len cap l) : ∀ j u, (bv l)[j]? = some u → w.cell? (ad.add j) = some u := by
  intro j u hu
  have hj : j < l.length := by have := (List.getElem?_eq_some_iff.1 hu).1; rwa [bv_length] at this
  have hl := h.len_eq
  obtain ⟨b, off, e, hlt, hc⟩ := h.spot (by omega)
  cases e
  rw [Addr.add_lit, hc j (by omega), List.getD_eq_getElem?_getD, List.getElem?_eq_getElem hj]
  rw [bv, List.getElem?_map, List.getElem?_eq_getElem hj] at hu
  exact hu

set_option maxHeartbeats 400000 in
theorem cut_any (a : Option Addr) (len cap n : Nat) (l : List Int) (w : World) (h : Bts w a len cap l) (hn : 1 ≤ n) :
    Calls Tryd.prog 9 #[.slice a len cap, .int .i64 n] w fun e w' => (∃ len', e = .returned (.slice a len' cap) ∧ Bts w a len' cap (l.take n)) ∧ w = w' := by
  have hm := Nat.le_trans h.le_cap h.cap_le
  have hcm := h.cap_le
  have hlc := h.le_cap
  unfold maxLen at hm hcm
  by_cases hlt : n < len
  · have hb := h.cut n (by omega)
    obtain ⟨b, off, rfl, _, _⟩ := h.spot (by omega)
    go_enter Tryd.func9, Tryd.ntmps9
    go_wp2
    go_ret
    exact ⟨⟨_, rfl, hb⟩, rfl⟩
  · have hl := h.len_eq
    rw [List.take_of_length_le (by omega)]
    have hn' : ¬ (n : Int) < len := by omega
    go_enter Tryd.func9, Tryd.ntmps9
    go_wp2
    go_ret
    exact ⟨⟨_, rfl, h⟩, rfl⟩

set_option maxHeartbeats 400000 in
theorem copy_any (a : Option Addr) (len cap : Nat) (l : List Int) (w : World) (h : Bts w a len cap l) (hs : len ≤ 140737488355328) :
    Calls Tryd.prog 10 #[.slice a len cap] w fun e w' => ∃ v, e = .returned v ∧ w'.ownsRow w.heap.size 5 1 v len (bv l) ∧ Below w.heap.size w w' := by
  have hm := Nat.le_trans h.le_cap h.cap_le
  have hl := h.len_eq
  obtain ⟨i0, hi, hz0, hz1, hz2⟩ := info_parts Tryd.info5
  cases a with
  | none =>
    have hc0 := h.nil rfl
    have hlc := h.le_cap
    obtain rfl : cap = 0 := hc0
    obtain rfl : len = 0 := by omega
    obtain rfl : l = [] := List.eq_nil_of_length_eq_zero hl
    go_enter Tryd.func10, Tryd.ntmps10
    go_wp2
    go_ret
    exact ⟨_, rfl, World.ownsRow_nil _ _ _ _, Below.refl _ _⟩
  | some ad =>
    have hcells := h.cells
    go_enter Tryd.func10, Tryd.ntmps10
    go_wp2_with (at_builtin; refine wpList_append_own _ rfl _ _ 22 rfl w.heap.size 5 i0 (.int .u8 0) 1 1 Tryd.underlying22 hi hz0 hz1 hz2 rfl (by decide) _ 0 [] rfl (World.ownsRow_nil _ _ _ _) ad len cap (bv l) rfl ?c0 hcells (bv_one l) ?c3 ?c4 (Nat.le_refl _) ?_)
    case c0 => rw [bv_length]; omega
    case c3 => omega
    case c4 => omega
    intro v' w1 hown hgrow _
    have hb1 : Below w.heap.size w w1 := (Below.refl _ _).grown hgrow (Nat.le_refl _) (by intro k hk; cases hk)
    clear hgrow hi hz0 hz1 hz2 hcells
    go_wp2
    go_ret
    exact ⟨_, rfl, hown, hb1⟩
end Go.Proofs.YtbednfacipphhaaDoor
namespace Go.Proofs.YtbednfacipphhaaDoor
open Go.RowKit
set_option linter.unusedVariables false

/-- x without its k lowest bytes -/
def sh (x : Int) (k : Nat) : Int := x / 256 ^ k
/-- the n lowest bytes of x, the highest first -/
def putL (x : Int) : Nat → List Int
  | 0 => []
  | n + 1 => sh x n % 256 :: putL x n

set_option maxRecDepth 100000 in
theorem sh_zero (x : Int) : sh x 0 = x := by simp [sh]
set_option maxRecDepth 100000 in
theorem sh_succ (x : Int) (k : Nat) : sh x (k + 1) = sh x k / 256 := by
  unfold sh
  rw [Int.pow_succ, Int.ediv_ediv_of_nonneg (Int.le_of_lt (Int.pow_pos (by decide)))]
set_option maxRecDepth 100000 in
theorem sh_bd (x : Int) (k : Nat) (h0 : 0 ≤ x) (h1 : x ≤ 18446744073709551615) : 0 ≤ sh x k ∧ sh x k ≤ 18446744073709551615 := by
  induction k with
  | zero => rw [sh_zero]; exact ⟨h0, h1⟩
  | succ k ih => rw [sh_succ]; omega
set_option maxRecDepth 100000 in
theorem putL_length (x : Int) (n : Nat) : (putL x n).length = n := by
  induction n with
  | zero => rfl
  | succ n ih => simp [putL, ih]

/-- the row behind k rounds of Put -/
def putAt (x : Int) (n k : Nat) : List Value := List.replicate (n - k) (Value.int .u8 0) ++ bv (putL x k)
set_option maxRecDepth 100000 in
theorem putAt_zero (x : Int) (n : Nat) : putAt x n 0 = List.replicate n (Value.int .u8 0) := by simp [putAt, putL, bv]
set_option maxRecDepth 100000 in
theorem putAt_n (x : Int) (n : Nat) : putAt x n n = bv (putL x n) := by simp [putAt]
set_option maxRecDepth 100000 in
theorem putAt_succ (x : Int) (n k : Nat) (h : k < n) : (putAt x n k).set (n - 1 - k) (.int .u8 (sh x k % 256)) = putAt x n (k + 1) := by
  unfold putAt
  obtain ⟨m, rfl⟩ : ∃ m, n = k + 1 + m := ⟨n - k - 1, by omega⟩
  have e1 : k + 1 + m - k = m + 1 := by omega
  have e2 : k + 1 + m - 1 - k = m := by omega
  have e3 : k + 1 + m - (k + 1) = m := by omega
  rw [e1, e2, e3, List.replicate_succ', List.append_assoc, List.set_append_right _ _ (by simp)]
  simp [putL, bv]

set_option maxRecDepth 100000 in
theorem put_none (x n : Int) (w : World) (hn : n < 1 ∨ 8 < n) :
    Calls Tryd.prog 50 #[.int .u64 x, .int .i64 n] w fun e w' => e = .returned (.slice none 0 0) ∧ w = w' := by
  rcases hn with h | h
  · go_enter Tryd.func50, Tryd.ntmps50
    go_wp2
    go_ret
    exact ⟨rfl, rfl⟩
  · have h' : ¬ n < 1 := by omega
    go_enter Tryd.func50, Tryd.ntmps50
    go_wp2
    go_ret
    exact ⟨rfl, rfl⟩

set_option maxHeartbeats 400000 in
theorem put_some (x : Int) (n : Nat) (w : World) (h1 : 1 ≤ n) (h8 : n ≤ 8) (hx0 : 0 ≤ x) (hx1 : x ≤ 18446744073709551615) :
    Calls Tryd.prog 50 #[.int .u64 x, .int .i64 n] w fun e w' => ∃ v, e = .returned v ∧ w'.ownsRow w.heap.size 5 1 v n (bv (putL x n)) ∧ Below w.heap.size w w' := by
  have hn1 : ¬ (n : Int) < 1 := by omega
  have hn8 : ¬ (8 : Int) < n := by omega
  obtain ⟨i0, hi, hz0, hz1, hz2⟩ := info_parts Tryd.info5
  go_enter Tryd.func50, Tryd.ntmps50
  go_wp2_with (at_make; refine wpList_make_full _ rfl _ _ 22 rfl w.heap.size 5 i0 (.int .u8 0) 1 Tryd.underlying22 hi hz0 hz1 _ _ _ _ n rfl rfl rfl rfl (by rw [hz2]; omega) (by unfold maxLen; omega) (Nat.le_refl _) ?_)
  intro w1 hown hgrow
  rw [toList_madeCells_one, ← putAt_zero x n] at hown
  have hb1 : Below w.heap.size w w1 := (Below.refl _ _).grown hgrow (Nat.le_refl _) (by intro k hk; cases hk)
  clear hgrow hi hz0 hz1 hz2
  go_wp2
  go_loopw [0, 16] (fun xs i wr => ∃ k : Nat, k ≤ n ∧ i = .int .i64 k ∧ xs = .int .u64 (sh x k) ∧ wr.ownsRow w.heap.size 5 1 (.slice (some ⟨w.heap.size, 0, none⟩) n n) n (putAt x n k) ∧ Below w.heap.size w wr) (fun _ i _ => n - (intOf i).toNat)
  case atStart => exact ⟨0, Nat.zero_le _, rfl, by rw [sh_zero], hown, hb1⟩
  case round =>
    obtain ⟨k, hk, rfl, rfl, hown, hb⟩ := hrel
    by_cases hlt : k < n
    · have hs := sh_bd x k hx0 hx1
      obtain ⟨c0, hc⟩ := owns_cell hown (n - 1 - k) (by omega)
      have hf := hown.frozenAt (n - 1 - k)
      have hst := hown.stored (n - 1 - k) (.int .u8 (sh x k % 256))
      rw [putAt_succ x n k hlt] at hst
      have hb2 := hb.grown hst.2 hb.size (by intro j hj; cases hj; exact Nat.le_refl _)
      go_wp2
      go_roundw
      case rel => exact ⟨k + 1, by omega, by go_num, by rw [sh_succ], hst.1, hb2⟩
      case measure => simp [intOf]; omega
    · obtain rfl : k = n := by omega
      rw [putAt_n] at hown
      go_wp2
      go_ret
      exact ⟨_, rfl, hown, hb⟩
end Go.Proofs.YtbednfacipphhaaDoor
namespace Go.Proofs.YtbednfacipphhaaDoor
open Go.RowKit
set_option linter.unusedVariables false

set_option maxRecDepth 100000 in
theorem putL_getD (x : Int) (n k : Nat) (h : k < n) : (putL x n).getD k 0 = sh x (n - 1 - k) % 256 := by
  induction n generalizing k with
  | zero => omega
  | succ n ih =>
    cases k with
    | zero => simp [putL]
    | succ k =>
      have := ih k (by omega)
      rw [show n + 1 - 1 - (k + 1) = n - 1 - k from by omega, ← this]
      simp [putL]
set_option maxRecDepth 100000 in
theorem putL_take (x : Int) (n k : Nat) (h : k < n) : (putL x n).take (k + 1) = (putL x n).take k ++ [sh x (n - 1 - k) % 256] := by
  rw [take_succ_getD _ k (by rw [putL_length]; exact h), putL_getD x n k h]
set_option maxRecDepth 100000 in
theorem putL_byt (x : Int) (n : Nat) : Byt (putL x n) := by
  induction n with
  | zero => exact Byt.nil
  | succ n ih => exact Byt.cons (by omega) ih

set_option maxRecDepth 100000 in
theorem refput_none (x n : Int) (w : World) (hn : n < 1 ∨ 8 < n) :
    Calls Tryd.prog 46 #[.int .u64 x, .int .i64 n] w fun e w' => e = .returned (.slice none 0 0) ∧ w = w' := by
  rcases hn with h | h
  · go_enter Tryd.func46, Tryd.ntmps46
    go_wp2
    go_ret
    exact ⟨rfl, rfl⟩
  · have h' : ¬ n < 1 := by omega
    go_enter Tryd.func46, Tryd.ntmps46
    go_wp2
    go_ret
    exact ⟨rfl, rfl⟩

set_option maxRecDepth 100000 in
theorem refput_rel {w wr w1 : World} {x : Int} {n k : Nat} {v v' : Value} {c : Int} {o : Obj} (hk : k < n) (hc : c = sh x (n - 1 - k) % 256)
    (hown : wr.ownsRow w.heap.size 5 1 v k (bv ((putL x n).take k))) (hb : Below w.heap.size w wr)
    (h1 : w1.ownsRow w.heap.size 5 1 v' (k + 1) (bv ((putL x n).take k) ++ [.int .u8 c])) (hg : (wr.alloc o).grownBy w1 v.ownBlock) :
    w1.ownsRow w.heap.size 5 1 v' (k + 1) (bv ((putL x n).take (k + 1))) ∧ Below w.heap.size w w1 := by
  refine ⟨?_, ?_⟩
  · rw [putL_take x n k hk, bv_append, ← hc]; exact h1
  · refine (hb.alloc hb.size o).grown hg (by have := hb.size; simp; omega) ?_
    intro g hg'
    exact (hown.lt g hg').1

set_option maxHeartbeats 400000 in
theorem refput_some (x : Int) (n : Nat) (w : World) (h1 : 1 ≤ n) (h8 : n ≤ 8) (hx0 : 0 ≤ x) (hx1 : x ≤ 18446744073709551615) :
    Calls Tryd.prog 46 #[.int .u64 x, .int .i64 n] w fun e w' => ∃ v, e = .returned v ∧ w'.ownsRow w.heap.size 5 1 v n (bv (putL x n)) ∧ Below w.heap.size w w' := by
  have hn1 : ¬ (n : Int) < 1 := by omega
  have hn8 : ¬ (8 : Int) < n := by omega
  obtain ⟨i0, hi, hz0, hz1, hz2⟩ := info_parts Tryd.info5
  go_enter Tryd.func46, Tryd.ntmps46
  go_wp2
  go_loopw [5, 6] (fun v i wr => ∃ k : Nat, k ≤ n ∧ i = .int .i64 k ∧ wr.ownsRow w.heap.size 5 1 v k (bv ((putL x n).take k)) ∧ Below w.heap.size w wr) (fun _ i _ => n - (intOf i).toNat)
  case atStart => exact ⟨0, Nat.zero_le _, rfl, World.ownsRow_nil _ _ _ _, Below.refl _ _⟩
  case round =>
    obtain ⟨k, hk, rfl, hown, hb⟩ := hrel
    by_cases hlt : k < n
    · go_wp2
      go_loop [7, 8] (fun y i => ∃ j : Nat, k + 1 ≤ j ∧ j ≤ n ∧ i = .int .i64 j ∧ y = .int .u64 (sh x (j - (k + 1)))) (fun _ i => n - (intOf i).toNat)
      case atStart => exact ⟨k + 1, by omega, by omega, by go_num, by simp [sh_zero]⟩
      case round =>
        obtain ⟨j, hj1, hj2, rfl, rfl⟩ := hrel
        have hs := sh_bd x (j - (k + 1)) hx0 hx1
        by_cases hjn : j < n
        · have HS : Hid (sh x (j + 1 - (k + 1)) = sh x (j - (k + 1)) / 256) := by
            rw [← sh_succ, show j - (k + 1) + 1 = j + 1 - (k + 1) from by omega]; rfl
          go_wp2
          go_round
          case rel => exact ⟨j + 1, by omega, by omega, by go_num, by rw [HS.out]⟩
          case measure => simp [intOf]; omega
        · have HC : Hid (sh x (j - (k + 1)) % 256 = sh x (n - 1 - k) % 256) := by
            rw [show j - (k + 1) = n - 1 - k from by omega]; rfl
          generalize sh x (j - (k + 1)) = G at hs HC ⊢
          go_wp2_with (at_builtin; refine wpList_append_own _ rfl _ _ 22 rfl w.heap.size 5 i0 (.int .u8 0) 1 1 Tryd.underlying22 hi hz0 hz1 hz2 rfl (by decide) _ _ _ rfl (hown.alloc _) ⟨wr.heap.size, 0, none⟩ 1 1 [.int .u8 (G % 256)] rfl rfl (cell_one_new _ _ _) (bv_one [G % 256]) (by unfold maxLen; omega) (by omega) (by have := hb.size; simp; omega) ?_)
          intro v' w1 hown' hgrow _
          have R := refput_rel hlt HC.out hown hb hown' hgrow
          clear hown' hgrow hown hb
          go_wp2
          go_roundw
          case rel => exact ⟨k + 1, by omega, by go_num, R.1, R.2⟩
          case measure => simp [intOf]; omega
    · obtain rfl : k = n := by omega
      have HT : Hid ((putL x k).take k = putL x k) := List.take_of_length_le (by rw [putL_length]; exact Nat.le_refl _)
      go_wp2
      go_ret
      exact ⟨_, rfl, by rw [HT.out] at hown; exact hown, hb⟩
end Go.Proofs.YtbednfacipphhaaDoor
namespace Go.Proofs.YtbednfacipphhaaDoor
open Go.RowKit
set_option linter.unusedVariables false

/-- how many noughts stand behind a text of n bytes -/
def padZ (n : Int) : Nat := ((119 - n % 64) % 64).toNat
set_option maxRecDepth 100000 in
theorem padZ_le (n : Int) : padZ n ≤ 63 := by unfold padZ; omega
/-- what stands behind a text of n bytes -/
def padL (n : Int) : List Int := 128 :: List.replicate (padZ n) 0 ++ putL (8 * n % 18446744073709551616) 8
set_option maxRecDepth 100000 in
theorem padL_length (n : Int) : (padL n).length = padZ n + 9 := by unfold padL; simp [putL_length]
set_option maxRecDepth 100000 in
theorem padL_byt (n : Int) : Byt (padL n) := by
  unfold padL
  refine Byt.append (Byt.cons (by decide) ?_) (putL_byt _ _)
  intro c hc; rw [List.eq_of_mem_replicate hc]; decide
set_option maxRecDepth 100000 in
/-- behind k noughts one more is wanted just if k is below that number -/
theorem pad_more (n : Int) (k : Nat) (h0 : 0 ≤ n) (hk : k ≤ padZ n) : ((((n + ((k : Int) + 1)) % 18446744073709551616 + 8) % 18446744073709551616) % 64 ≠ 0) ↔ k < padZ n := by
  unfold padZ at *; omega
set_option maxRecDepth 100000 in
theorem rep_snoc (k : Nat) : (128 : Int) :: List.replicate (k + 1) 0 = (128 :: List.replicate k 0) ++ [0] := by
  rw [List.replicate_succ']; rfl

/-- exclusive or, and, not: of numbers of 32 bits -/
def xr (a b : Int) : Int := ((a.toNat ^^^ b.toNat : Nat) : Int)
def an (a b : Int) : Int := ((a.toNat &&& b.toNat : Nat) : Int)
def U32 (a : Int) : Prop := 0 ≤ a ∧ a < 4294967296
set_option maxRecDepth 100000 in
theorem xr_eq {a b : Int} (ha : U32 a) (hb : U32 b) : bits .xor .u32 a b = xr a b := u32_xor a b ha.1 ha.2 hb.1 hb.2
set_option maxRecDepth 100000 in
theorem an_eq {a b : Int} (ha : U32 a) (hb : U32 b) : bits .and .u32 a b = an a b := u32_and a b ha.1 ha.2 hb.1 hb.2
set_option maxRecDepth 100000 in
theorem xr_u {a b : Int} (ha : U32 a) (hb : U32 b) : U32 (xr a b) := by
  have h1 := ha.1; have h2 := ha.2; have h3 := hb.1; have h4 := hb.2
  have := xor_lt32 a.toNat b.toNat (by omega) (by omega)
  exact ⟨by unfold xr; omega, by unfold xr; omega⟩
set_option maxRecDepth 100000 in
theorem an_u {a b : Int} (ha : U32 a) (hb : U32 b) : U32 (an a b) := by
  have h1 := ha.1; have h2 := ha.2
  have := @Nat.and_le_left a.toNat b.toNat
  exact ⟨by unfold an; omega, by unfold an; omega⟩
set_option maxRecDepth 100000 in
theorem turn_u {x : Int} (n : Int) (h : U32 x) : U32 (turnV x n) := turn_bd x n h.1 h.2
/-- turned by three numbers of places, all of it by exclusive or -/
def thr (x a b c : Int) : Int := xr (xr (turnV x a) (turnV x b)) (turnV x c)
set_option maxRecDepth 100000 in
theorem thr_u {x : Int} (a b c : Int) (h : U32 x) : U32 (thr x a b c) := xr_u (xr_u (turn_u a h) (turn_u b h)) (turn_u c h)

def keyL : List Int := [1116352408, 1899447441, 3049323471, 3921009573, 961987163, 1508970993, 2453635748, 2870763221, 3624381080, 310598401, 607225278, 1426881987, 1925078388, 2162078206, 2614888103, 3248222580, 3835390401, 4022224774, 264347078, 604807628, 770255983, 1249150122, 1555081692, 1996064986, 2554220882, 2821834349, 2952996808, 3210313671, 3336571891, 3584528711, 113926993, 338241895, 666307205, 773529912, 1294757372, 1396182291, 1695183700, 1986661051, 2177026350, 2456956037, 2730485921, 2820302411, 3259730800, 3345764771, 3516065817, 3600352804, 4094571909, 275423344, 430227734, 506948616, 659060556, 883997877, 958139571, 1322822218, 1537002063, 1747873779, 1955562222, 2024104815, 2227730452, 2361852424, 2428436474, 2756734187, 3204031479, 3329325298]
def uv (l : List Int) : List Value := l.map (Value.int .u32)
set_option maxRecDepth 100000 in
theorem uv_length (l : List Int) : (uv l).length = l.length := by simp [uv]
set_option maxRecDepth 100000 in
theorem uv_append (l m : List Int) : uv (l ++ m) = uv l ++ uv m := by simp [uv]
set_option maxRecDepth 100000 in
theorem uv_one (l : List Int) : ∀ u ∈ uv l, u.oneCell' = true := ints_oneCell _ l
def U32s (l : List Int) : Prop := ∀ c ∈ l, U32 c
set_option maxRecDepth 100000 in
theorem U32s.getD {l : List Int} (h : U32s l) (i : Nat) : U32 (l.getD i 0) := by
  by_cases hi : i < l.length
  · rw [List.getD_eq_getElem?_getD, List.getElem?_eq_getElem hi]; exact h _ (List.getElem_mem hi)
  · rw [List.getD_eq_getElem?_getD, List.getElem?_eq_none (by omega)]; exact ⟨by decide, by decide⟩
set_option maxRecDepth 100000 in
theorem keyL_u : U32s keyL := by
  intro c hc
  have : keyL.all (fun c => decide (0 ≤ c) && decide (c < 4294967296)) = true := by decide +kernel
  have := List.all_eq_true.1 this c hc
  simp at this
  exact this
end Go.Proofs.YtbednfacipphhaaDoor
namespace Go.Proofs.YtbednfacipphhaaDoor
open Go.RowKit
set_option linter.unusedVariables false

set_option maxRecDepth 100000 in
theorem pad_rel {w wr w1 : World} {k : Nat} {v v' : Value} {o : Obj} (hb : Below w.heap.size w wr)
    (hown : wr.ownsRow w.heap.size 5 1 v (k + 1) (bv (128 :: List.replicate k 0)))
    (h1 : w1.ownsRow w.heap.size 5 1 v' (k + 1 + 1) (bv (128 :: List.replicate k 0) ++ [.int .u8 0])) (hg : (wr.alloc o).grownBy w1 v.ownBlock) :
    w1.ownsRow w.heap.size 5 1 v' (k + 1 + 1) (bv (128 :: List.replicate (k + 1) 0)) ∧ Below w.heap.size w w1 := by
  refine ⟨by rw [rep_snoc, bv_append]; exact h1, ?_⟩
  refine (hb.alloc hb.size o).grown hg (by have := hb.size; simp; omega) ?_
  intro g hg'
  exact (hown.lt g hg').1

set_option maxHeartbeats 400000 in
theorem refpad_any (n : Int) (w : World) (h0 : 0 ≤ n) (h1 : n ≤ 18446744073709551615) :
    Calls Tryd.prog 65 #[.int .u64 n] w fun e w' => ∃ v, e = .returned v ∧ w'.ownsRow w.heap.size 5 1 v (padL n).length (bv (padL n)) ∧ Below w.heap.size w w' := by
  obtain ⟨i0, hi, hz0, hz1, hz2⟩ := info_parts Tryd.info5
  have hz := padZ_le n
  go_enter Tryd.func65, Tryd.ntmps65
  go_wp2
  go_loopw [3] (fun v wr => ∃ k : Nat, k ≤ padZ n ∧ wr.ownsRow w.heap.size 5 1 v (k + 1) (bv (128 :: List.replicate k 0)) ∧ Below w.heap.size w wr) (fun v _ => padZ n + 1 - lenOf v)
  case atStart => exact ⟨0, Nat.zero_le _, World.ownsRow_lit w #[.int .u8 128] 1 (Nat.le_refl _) (by unfold maxLen; omega) rfl, (Below.refl _ _).alloc (Nat.le_refl _) _⟩
  case round =>
    obtain ⟨k, hk, hown, hb⟩ := hrel
    obtain ⟨g, cap, rfl, hg0, hg1⟩ := owns_form hown (by omega)
    have HM : Hid (((((n + ((k : Int) + 1)) % 18446744073709551616 + 8) % 18446744073709551616) % 64 ≠ 0) ↔ k < padZ n) := pad_more n k h0 hk
    have HE : Hid ((IntKind.u64.wrap (IntKind.u64.wrap (n + ((k : Int) + 1)) + 8)).tmod 64 = (((n + ((k : Int) + 1)) % 18446744073709551616 + 8) % 18446744073709551616) % 64) := by
      show _ = _
      rw [IntKind.wrap_u64, IntKind.wrap_u64, Int.tmod_eq_emod_of_nonneg (by omega)]
    have hbyt : Byt (128 :: List.replicate k 0) := Byt.cons (by decide) (by intro c hc; rw [List.eq_of_mem_replicate hc]; decide)
    by_cases hlt : k < padZ n
    · have hc : ((IntKind.u64.wrap (IntKind.u64.wrap (n + ((k : Int) + 1)) + 8)).tmod 64 != 0) = true := by rw [HE.out, bne_iff_ne]; exact HM.out.2 hlt
      go_wp2_with (at_builtin; refine wpList_append_own _ rfl _ _ 22 rfl w.heap.size 5 i0 (.int .u8 0) 1 1 Tryd.underlying22 hi hz0 hz1 hz2 rfl (by decide) _ _ _ rfl (hown.alloc _) ⟨wr.heap.size, 0, none⟩ 1 1 [.int .u8 0] rfl rfl (cell_one_new _ _ _) (bv_one [0]) (by unfold maxLen; omega) (by omega) (by have := hb.size; simp; omega) ?_)
      intro v' w1 hown' hgrow _
      have R := pad_rel hb hown hown' hgrow
      have hlen : lenOf v' = k + 1 + 1 := by obtain ⟨g', cap', rfl, _, _⟩ := owns_form hown' (by omega); rfl
      have HL : Hid (lenOf v' = k + 1 + 1) := hlen
      clear hown' hgrow hown hb hlen
      go_wp2
      go_roundw
      case rel => exact ⟨k + 1, by omega, R.1, R.2⟩
      case measure => rw [HL.out]; simp [lenOf]; omega
    · obtain rfl : k = padZ n := by omega
      have hc : ((IntKind.u64.wrap (IntKind.u64.wrap (n + ((padZ n : Int) + 1)) + 8)).tmod 64 != 0) = false := by
        rw [HE.out, bne_eq_false_iff_eq]; exact Classical.byContradiction fun h => hlt (HM.out.1 h)
      have h8n : IntKind.u64.wrap (8 * n) = 8 * n % 18446744073709551616 := IntKind.wrap_u64 _
      go_wp2_with fail
      refine (refput_some (8 * n % 18446744073709551616) 8 _ (by decide) (by decide) (by omega) (by omega)).mono ?_
      rintro e w2 ⟨v2, rfl, hown2, hb2⟩
      obtain ⟨a2, cap2, rfl, hm2⟩ := Bts.of_owns hown2 (putL_byt _ _)
      obtain ⟨b2, off2, rfl, _, _⟩ := hm2.spot (by omega)
      have hcells := hm2.cells
      have hown1 := owns_below hown hb2
      have hbb := bstep hb hb2
      have HP : Hid (bv (128 :: List.replicate (padZ n) 0) ++ bv (putL (8 * n % 18446744073709551616) 8) = bv (padL n)) := by show _ = _; rw [← bv_append]; rfl
      have HLn : Hid ((padL n).length = padZ n + 1 + 8) := padL_length n
      have hl8 : (bv (putL (8 * n % 18446744073709551616) 8)).length = 8 * 1 := by rw [bv_length, putL_length]
      clear hown hb hb2 hown2 hm2 h8n
      generalize putL (8 * n % 18446744073709551616) 8 = t at *
      go_wp2_with (at_builtin; refine wpList_append_own _ rfl _ _ 22 rfl w.heap.size 5 i0 (.int .u8 0) 1 1 Tryd.underlying22 hi hz0 hz1 hz2 rfl (by decide) _ _ _ rfl hown1 ⟨b2, off2, none⟩ 8 cap2 (bv t) rfl hl8 hcells (bv_one t) (by unfold maxLen; omega) (by omega) hbb.size ?_)
      intro v' w3 hown' hgrow _
      have hb3 : Below w.heap.size w w3 := hbb.grown hgrow hbb.size (by intro g hg; cases hg; exact hg0)
      rw [HP.out, ← HLn.out] at hown'
      clear hown1 hgrow hbb hcells hl8
      go_wp2
      go_ret
      exact ⟨_, rfl, hown', hb3⟩
end Go.Proofs.YtbednfacipphhaaDoor
