/- What Put answers: bytes of memory of its own. What Get and the document's Get answer. What the document's Put answers. What the document's Cut and Copy answer. What the document's Same answers: whether two lists of bytes are the same. What the document's Least answers. -/
import Derived.Test.YtjnjokbdoendkaaGreatBase
namespace Go.Proofs.YtjnjokbdoendkaaGreat
open Go.RowKit
set_option linter.unusedVariables false

/-- x without its k lowest bytes -/
def sh (x : Int) (k : Nat) : Int := x / 256 ^ k
/-- the n lowest bytes of x, the highest first -/
def putL (x : Int) : Nat → List Int
  | 0 => []
  | n + 1 => sh x n % 256 :: putL x n
set_option maxRecDepth 100000 in
theorem sh_zero (x : Int) : sh x 0 = x := by simp [sh]
set_option maxRecDepth 100000 in
theorem sh_succ (x : Int) (k : Nat) : sh x (k + 1) = sh x k / 256 := by
  unfold sh
  rw [Int.pow_succ, Int.ediv_ediv_of_nonneg (Int.le_of_lt (Int.pow_pos (by decide)))]
set_option maxRecDepth 100000 in
theorem sh_bd (x : Int) (k : Nat) (h0 : 0 ≤ x) (h1 : x ≤ 18446744073709551615) : 0 ≤ sh x k ∧ sh x k ≤ 18446744073709551615 := by
  induction k with
  | zero => rw [sh_zero]; exact ⟨h0, h1⟩
  | succ k ih => rw [sh_succ]; omega
set_option maxRecDepth 100000 in
theorem putL_length (x : Int) (n : Nat) : (putL x n).length = n := by
  induction n with
  | zero => rfl
  | succ n ih => simp [putL, ih]
/-- the row behind k rounds of Put -/
def putAt (x : Int) (n k : Nat) : List Value := List.replicate (n - k) (Value.int .u8 0) ++ bv (putL x k)
set_option maxRecDepth 100000 in
theorem putAt_zero (x : Int) (n : Nat) : putAt x n 0 = List.replicate n (Value.int .u8 0) := by simp [putAt, putL, bv]
set_option maxRecDepth 100000 in
theorem putAt_n (x : Int) (n : Nat) : putAt x n n = bv (putL x n) := by simp [putAt]
set_option maxRecDepth 100000 in
theorem putAt_succ (x : Int) (n k : Nat) (h : k < n) : (putAt x n k).set (n - 1 - k) (.int .u8 (sh x k % 256)) = putAt x n (k + 1) := by
  unfold putAt
  obtain ⟨m, rfl⟩ : ∃ m, n = k + 1 + m := ⟨n - k - 1, by omega⟩
  have e1 : k + 1 + m - k = m + 1 := by omega
  have e2 : k + 1 + m - 1 - k = m := by omega
  have e3 : k + 1 + m - (k + 1) = m := by omega
  rw [e1, e2, e3, List.replicate_succ', List.append_assoc, List.set_append_right _ _ (by simp)]
  simp [putL, bv]
set_option maxHeartbeats 400000 in
theorem put_some (x : Int) (n : Nat) (w : World) (h1 : 1 ≤ n) (h8 : n ≤ 8) (hx0 : 0 ≤ x) (hx1 : x ≤ 18446744073709551615) :
    Calls Tryz.prog 106 #[.int .u64 x, .int .i64 n] w fun e w' => ∃ v, e = .returned v ∧ w'.ownsRow w.heap.size 5 1 v n (bv (putL x n)) ∧ Below w.heap.size w w' := by
  have hn1 : ¬ (n : Int) < 1 := by omega
  have hn8 : ¬ (8 : Int) < n := by omega
  obtain ⟨i0, hi, hz0, hz1, hz2⟩ := info_parts Tryz.info5
  go_enter Tryz.func106, Tryz.ntmps106
  go_wp2_with (at_make; refine wpList_make_full _ rfl _ _ 46 rfl w.heap.size 5 i0 (.int .u8 0) 1 Tryz.underlying46 hi hz0 hz1 _ _ _ _ n rfl rfl rfl rfl (by rw [hz2]; omega) (by unfold maxLen; omega) (Nat.le_refl _) ?_)
  intro w1 hown hgrow
  rw [toList_madeCells_one, ← putAt_zero x n] at hown
  have hb1 : Below w.heap.size w w1 := (Below.refl _ _).grown hgrow (Nat.le_refl _) (by intro k hk; cases hk)
  clear hgrow hi hz0 hz1 hz2
  go_wp2
  go_loopw [0, 16] (fun xs i wr => ∃ k : Nat, k ≤ n ∧ i = .int .i64 k ∧ xs = .int .u64 (sh x k) ∧ wr.ownsRow w.heap.size 5 1 (.slice (some ⟨w.heap.size, 0, none⟩) n n) n (putAt x n k) ∧ Below w.heap.size w wr) (fun _ i _ => n - (intOf i).toNat)
  case atStart => exact ⟨0, Nat.zero_le _, rfl, by rw [sh_zero], hown, hb1⟩
  case round =>
    obtain ⟨k, hk, rfl, rfl, hown, hb⟩ := hrel
    by_cases hlt : k < n
    · have hs := sh_bd x k hx0 hx1
      obtain ⟨c0, hc⟩ := owns_cell hown (n - 1 - k) (by omega)
      have hf := hown.frozenAt (n - 1 - k)
      have hst := hown.stored (n - 1 - k) (.int .u8 (sh x k % 256))
      rw [putAt_succ x n k hlt] at hst
      have hb2 := hb.grown hst.2 hb.size (by intro j hj; cases hj; exact Nat.le_refl _)
      go_wp2
      go_roundw
      case rel => exact ⟨k + 1, by omega, by go_num, by rw [sh_succ], hst.1, hb2⟩
      case measure => simp [intOf]; omega
    · obtain rfl : k = n := by omega
      rw [putAt_n] at hown
      go_wp2
      go_ret
      exact ⟨_, rfl, hown, hb⟩
end Go.Proofs.YtjnjokbdoendkaaGreat
namespace Go.Proofs.YtjnjokbdoendkaaGreat
open Go.RowKit
set_option linter.unusedVariables false

def getV (l : List Int) : Int := l.foldl (fun x c => 256 * x + c) 0
set_option maxRecDepth 100000 in
theorem getV_snoc (l : List Int) (c : Int) : getV (l ++ [c]) = 256 * getV l + c := by simp [getV]
set_option maxRecDepth 100000 in
theorem getV_bd (l : List Int) (h : Byt l) : 0 ≤ getV l ∧ getV l < 256 ^ l.length := by
  suffices H : ∀ (m : List Int), Byt m.reverse → 0 ≤ getV m.reverse ∧ getV m.reverse < 256 ^ m.length by
    have := H l.reverse (by simpa using h); simpa using this
  intro m
  induction m with
  | nil => intro _; simp [getV]
  | cons c m ih =>
    intro hb
    have h1 : Byt m.reverse := fun d hd => hb d (by simp at hd ⊢; exact .inl hd)
    have h2 := hb c (by simp)
    have h3 := ih h1
    rw [List.reverse_cons, getV_snoc, List.length_cons, Int.pow_succ]
    omega
set_option maxRecDepth 100000 in
theorem getV_small (l : List Int) (h : Byt l) (n : Nat) (hl : l.length ≤ n) (hn : n ≤ 7) : 0 ≤ getV l ∧ getV l ≤ 72057594037927935 := by
  have h1 := getV_bd l h
  rcases (by omega : l.length = 0 ∨ l.length = 1 ∨ l.length = 2 ∨ l.length = 3 ∨ l.length = 4 ∨ l.length = 5 ∨ l.length = 6 ∨ l.length = 7) with h | h | h | h | h | h | h | h <;> rw [h] at h1 <;> omega
set_option maxRecDepth 100000 in
theorem or_join64 (i : Nat) (x y : Int) (hx0 : 0 ≤ x) (hx : x ≤ 18446744073709551615) (hm : x % 2 ^ i = 0) (hy0 : 0 ≤ y) (hy : y < 2 ^ i) (hy2 : y ≤ 18446744073709551615) : bits .or .u64 x y = x + y := by
  rw [u64_or x y hx0 (by omega) hy0 (by omega)]
  obtain ⟨a, rfl⟩ := Int.eq_ofNat_of_zero_le hx0
  obtain ⟨b, rfl⟩ := Int.eq_ofNat_of_zero_le hy0
  rw [Int.toNat_natCast, Int.toNat_natCast, nat_join i a b (by exact_mod_cast hm) (by exact_mod_cast hy)]
  rfl
set_option maxRecDepth 100000 in
theorem tuple_ub {a b : Int} (h : a = b) (c : Bool) : Ending.returned (.tuple #[.int .u64 a, .bool c]) = .returned (.tuple #[.int .u64 b, .bool c]) := by rw [h]
set_option maxHeartbeats 400000 in
theorem get_some (a : Option Addr) (len cap : Nat) (l : List Int) (w : World) (h : Bts w a len cap l) (h1 : 1 ≤ len) (h8 : len ≤ 8) :
    Calls Tryz.prog 119 #[.slice a len cap] w fun e w' => e = .returned (.tuple #[.int .u64 (getV l), .bool true]) ∧ w = w' := by
  have hl : Hid (l.length = len) := h.len_eq
  obtain ⟨b, off, rfl, _, hc⟩ := h.spot (by omega)
  have hn1 : ¬ (len : Int) < 1 := by omega
  have hn8 : ¬ (8 : Int) < len := by omega
  have HB : Hid (Byt l) := h.byt
  clear h
  go_enter Tryz.func119, Tryz.ntmps119
  go_wp2
  go_loop [4, 17] (fun x i => ∃ k : Nat, k ≤ len ∧ i = .int .i64 k ∧ x = .int .u64 (getV (l.take k))) (fun _ i => len - (intOf i).toNat)
  case atStart => exact ⟨0, Nat.zero_le _, rfl, rfl⟩
  case round =>
    obtain ⟨k, hk, rfl, rfl⟩ := hrel
    by_cases hlt : k < len
    · have hcell := hc k hlt
      have hv := getV_small (l.take k) (HB.out.take k) k (List.length_take_le _ _) (by omega)
      have hbd := HB.out.getD k
      have HS : Hid (getV (l.take (k + 1)) = 256 * getV (l.take k) + l.getD k 0) := by rw [take_succ_getD l k (by rw [hl.out]; omega)]; exact getV_snoc _ _
      generalize getV (l.take k) = G at hv HS ⊢
      generalize l.getD k 0 = C at hcell hbd HS
      have hj : bits .or .u64 (G * 256) C = G * 256 + C := or_join64 8 _ _ (by omega) (by omega) (by omega) hbd.1 (by omega) (by omega)
      clear hc
      go_wp2
      go_round
      case rel => exact ⟨k + 1, by omega, by go_num, by rw [HS.out]; go_num⟩
      case measure => simp [intOf]; omega
    · have HT : Hid (l.take k = l) := List.take_of_length_le (by rw [hl.out]; omega)
      clear hc
      go_wp2
      go_ret2
      exact ⟨tuple_ub (by rw [HT.out]) _, rfl⟩
set_option maxHeartbeats 400000 in
theorem refget_some (a : Option Addr) (len cap : Nat) (l : List Int) (w : World) (h : Bts w a len cap l) (h1 : 1 ≤ len) (h8 : len ≤ 8) :
    Calls Tryz.prog 102 #[.slice a len cap] w fun e w' => e = .returned (.tuple #[.int .u64 (getV l), .bool true]) ∧ w = w' := by
  have hl : Hid (l.length = len) := h.len_eq
  obtain ⟨b, off, rfl, _, hc⟩ := h.spot (by omega)
  have hn1 : ¬ (len : Int) < 1 := by omega
  have hn8 : ¬ (8 : Int) < len := by omega
  have HB : Hid (Byt l) := h.byt
  clear h
  go_enter Tryz.func102, Tryz.ntmps102
  go_wp2
  go_loop [4, 5] (fun x i => ∃ k : Nat, k ≤ len ∧ i = .int .i64 k ∧ x = .int .u64 (getV (l.take k))) (fun _ i => len - (intOf i).toNat)
  case atStart => exact ⟨0, Nat.zero_le _, rfl, rfl⟩
  case round =>
    obtain ⟨k, hk, rfl, rfl⟩ := hrel
    by_cases hlt : k < len
    · have hcell := hc k hlt
      have hv := getV_small (l.take k) (HB.out.take k) k (List.length_take_le _ _) (by omega)
      have hbd := HB.out.getD k
      have HS : Hid (getV (l.take (k + 1)) = 256 * getV (l.take k) + l.getD k 0) := by rw [take_succ_getD l k (by rw [hl.out]; omega)]; exact getV_snoc _ _
      generalize getV (l.take k) = G at hv HS ⊢
      generalize l.getD k 0 = C at hcell hbd HS
      clear hc
      go_wp2
      go_round
      case rel => exact ⟨k + 1, by omega, by go_num, by rw [HS.out]⟩
      case measure => simp [intOf]; omega
    · have HT : Hid (l.take k = l) := List.take_of_length_le (by rw [hl.out]; omega)
      clear hc
      go_wp2
      go_ret2
      exact ⟨tuple_ub (by rw [HT.out]) _, rfl⟩
end Go.Proofs.YtjnjokbdoendkaaGreat
namespace Go.Proofs.YtjnjokbdoendkaaGreat
open Go.RowKit
set_option linter.unusedVariables false

set_option maxRecDepth 100000 in
theorem putL_getD (x : Int) (n k : Nat) (h : k < n) : (putL x n).getD k 0 = sh x (n - 1 - k) % 256 := by
  induction n generalizing k with
  | zero => omega
  | succ n ih =>
    cases k with
    | zero => simp [putL]
    | succ k =>
      have := ih k (by omega)
      rw [show n + 1 - 1 - (k + 1) = n - 1 - k from by omega, ← this]
      simp [putL]
set_option maxRecDepth 100000 in
theorem putL_take (x : Int) (n k : Nat) (h : k < n) : (putL x n).take (k + 1) = (putL x n).take k ++ [sh x (n - 1 - k) % 256] := by
  rw [take_succ_getD _ k (by rw [putL_length]; exact h), putL_getD x n k h]
set_option maxRecDepth 100000 in
theorem putL_byt (x : Int) (n : Nat) : Byt (putL x n) := by
  induction n with
  | zero => exact Byt.nil
  | succ n ih => exact Byt.cons (by omega) ih
set_option maxRecDepth 100000 in
theorem refput_rel {w wr w1 : World} {x : Int} {n k : Nat} {v v' : Value} {c : Int} {o : Obj} (hk : k < n) (hc : c = sh x (n - 1 - k) % 256)
    (hown : wr.ownsRow w.heap.size 5 1 v k (bv ((putL x n).take k))) (hb : Below w.heap.size w wr)
    (h1 : w1.ownsRow w.heap.size 5 1 v' (k + 1) (bv ((putL x n).take k) ++ [.int .u8 c])) (hg : (wr.alloc o).grownBy w1 v.ownBlock) :
    w1.ownsRow w.heap.size 5 1 v' (k + 1) (bv ((putL x n).take (k + 1))) ∧ Below w.heap.size w w1 := by
  refine ⟨?_, ?_⟩
  · rw [putL_take x n k hk, bv_append, ← hc]; exact h1
  · refine (hb.alloc hb.size o).grown hg (by have := hb.size; simp; omega) ?_
    intro g hg'
    exact (hown.lt g hg').1
set_option maxHeartbeats 400000 in
theorem refput_some (x : Int) (n : Nat) (w : World) (h1 : 1 ≤ n) (h8 : n ≤ 8) (hx0 : 0 ≤ x) (hx1 : x ≤ 18446744073709551615) :
    Calls Tryz.prog 110 #[.int .u64 x, .int .i64 n] w fun e w' => ∃ v, e = .returned v ∧ w'.ownsRow w.heap.size 5 1 v n (bv (putL x n)) ∧ Below w.heap.size w w' := by
  have hn1 : ¬ (n : Int) < 1 := by omega
  have hn8 : ¬ (8 : Int) < n := by omega
  obtain ⟨i0, hi, hz0, hz1, hz2⟩ := info_parts Tryz.info5
  go_enter Tryz.func110, Tryz.ntmps110
  go_wp2
  go_loopw [5, 6] (fun v i wr => ∃ k : Nat, k ≤ n ∧ i = .int .i64 k ∧ wr.ownsRow w.heap.size 5 1 v k (bv ((putL x n).take k)) ∧ Below w.heap.size w wr) (fun _ i _ => n - (intOf i).toNat)
  case atStart => exact ⟨0, Nat.zero_le _, rfl, World.ownsRow_nil _ _ _ _, Below.refl _ _⟩
  case round =>
    obtain ⟨k, hk, rfl, hown, hb⟩ := hrel
    by_cases hlt : k < n
    · go_wp2
      go_loop [7, 8] (fun y i => ∃ j : Nat, k + 1 ≤ j ∧ j ≤ n ∧ i = .int .i64 j ∧ y = .int .u64 (sh x (j - (k + 1)))) (fun _ i => n - (intOf i).toNat)
      case atStart => exact ⟨k + 1, by omega, by omega, by go_num, by simp [sh_zero]⟩
      case round =>
        obtain ⟨j, hj1, hj2, rfl, rfl⟩ := hrel
        have hs := sh_bd x (j - (k + 1)) hx0 hx1
        by_cases hjn : j < n
        · have HS : Hid (sh x (j + 1 - (k + 1)) = sh x (j - (k + 1)) / 256) := by
            rw [← sh_succ, show j - (k + 1) + 1 = j + 1 - (k + 1) from by omega]; rfl
          go_wp2
          go_round
          case rel => exact ⟨j + 1, by omega, by omega, by go_num, by rw [HS.out]⟩
          case measure => simp [intOf]; omega
        · have HC : Hid (sh x (j - (k + 1)) % 256 = sh x (n - 1 - k) % 256) := by
            rw [show j - (k + 1) = n - 1 - k from by omega]; rfl
          generalize sh x (j - (k + 1)) = G at hs HC ⊢
          go_wp2_with (at_builtin; refine wpList_append_own _ rfl _ _ 46 rfl w.heap.size 5 i0 (.int .u8 0) 1 1 Tryz.underlying46 hi hz0 hz1 hz2 rfl (by decide) _ _ _ rfl (hown.alloc _) ⟨wr.heap.size, 0, none⟩ 1 1 [.int .u8 (G % 256)] rfl rfl (cell_one_new _ _ _) (bv_one [G % 256]) (by unfold maxLen; omega) (by omega) (by have := hb.size; simp; omega) ?_)
          intro v' w1 hown' hgrow _
          have R := refput_rel hlt HC.out hown hb hown' hgrow
          clear hown' hgrow hown hb
          go_wp2
          go_roundw
          case rel => exact ⟨k + 1, by omega, by go_num, R.1, R.2⟩
          case measure => simp [intOf]; omega
    · obtain rfl : k = n := by omega
      have HT : Hid ((putL x k).take k = putL x k) := List.take_of_length_le (by rw [putL_length]; exact Nat.le_refl _)
      go_wp2
      go_ret
      exact ⟨_, rfl, by rw [HT.out] at hown; exact hown, hb⟩
end Go.Proofs.YtjnjokbdoendkaaGreat
namespace Go.Proofs.YtjnjokbdoendkaaGreat
open Go.RowKit
set_option linter.unusedVariables false

set_option maxRecDepth 100000 in
theorem Bts.cut {w : World} {ao : Option Addr} {len cap : Nat} {l : List Int} (h : Bts w ao len cap l) (n : Nat) (hn : n ≤ len) : Bts w ao n cap (l.take n) := by
  have hl := h.len_eq
  refine ⟨by rw [List.length_take]; omega, h.byt.take n, Nat.le_trans hn h.le_cap, h.cap_le, h.nil, fun hp => ?_⟩
  obtain ⟨b, off, e, hlt, hc⟩ := h.spot (by omega)
  refine ⟨b, off, e, hlt, fun i hi => ?_⟩
  rw [hc i (by omega), List.getD_eq_getElem?_getD, List.getD_eq_getElem?_getD, List.getElem?_take, if_pos hi]
set_option maxRecDepth 100000 in
theorem Bts.cells {w : World} {ad : Addr} {len cap : Nat} {l : List Int} (h : Bts w (some ad) len cap l) : ∀ j u, (bv l)[j]? = some u → w.cell? (ad.add j) = some u := by
  intro j u hu
  have hj : j < l.length := by have := (List.getElem?_eq_some_iff.1 hu).1; rwa [bv_length] at this
  have hl := h.len_eq
  obtain ⟨b, off, e, hlt, hc⟩ := h.spot (by omega)
  cases e
  rw [Addr.add_lit, hc j (by omega), List.getD_eq_getElem?_getD, List.getElem?_eq_getElem hj]
  rw [bv, List.getElem?_map, List.getElem?_eq_getElem hj] at hu
  exact hu
set_option maxHeartbeats 400000 in
theorem cut_any (a : Option Addr) (len cap n : Nat) (l : List Int) (w : World) (h : Bts w a len cap l) (hn : 1 ≤ n) :
    Calls Tryz.prog 41 #[.slice a len cap, .int .i64 n] w fun e w' => (∃ len', e = .returned (.slice a len' cap) ∧ Bts w a len' cap (l.take n)) ∧ w = w' := by
  have hm := Nat.le_trans h.le_cap h.cap_le
  have hcm := h.cap_le
  have hlc := h.le_cap
  unfold maxLen at hm hcm
  by_cases hlt : n < len
  · have hb := h.cut n (by omega)
    obtain ⟨b, off, rfl, _, _⟩ := h.spot (by omega)
    go_enter Tryz.func41, Tryz.ntmps41
    go_wp2
    go_ret
    exact ⟨⟨_, rfl, hb⟩, rfl⟩
  · have hl := h.len_eq
    rw [List.take_of_length_le (by omega)]
    have hn' : ¬ (n : Int) < len := by omega
    go_enter Tryz.func41, Tryz.ntmps41
    go_wp2
    go_ret
    exact ⟨⟨_, rfl, h⟩, rfl⟩
set_option maxHeartbeats 400000 in
theorem copy_any (a : Option Addr) (len cap : Nat) (l : List Int) (w : World) (h : Bts w a len cap l) (hs : len ≤ 140737488355328) :
    Calls Tryz.prog 40 #[.slice a len cap] w fun e w' => ∃ v, e = .returned v ∧ w'.ownsRow w.heap.size 5 1 v len (bv l) ∧ Below w.heap.size w w' := by
  have hm := Nat.le_trans h.le_cap h.cap_le
  have hl := h.len_eq
  obtain ⟨i0, hi, hz0, hz1, hz2⟩ := info_parts Tryz.info5
  cases a with
  | none =>
    have hc0 := h.nil rfl
    have hlc := h.le_cap
    obtain rfl : cap = 0 := hc0
    obtain rfl : len = 0 := by omega
    obtain rfl : l = [] := List.eq_nil_of_length_eq_zero hl
    go_enter Tryz.func40, Tryz.ntmps40
    go_wp2
    go_ret
    exact ⟨_, rfl, World.ownsRow_nil _ _ _ _, Below.refl _ _⟩
  | some ad =>
    have hcells := h.cells
    go_enter Tryz.func40, Tryz.ntmps40
    go_wp2_with (at_builtin; refine wpList_append_own _ rfl _ _ 46 rfl w.heap.size 5 i0 (.int .u8 0) 1 1 Tryz.underlying46 hi hz0 hz1 hz2 rfl (by decide) _ 0 [] rfl (World.ownsRow_nil _ _ _ _) ad len cap (bv l) rfl ?c0 hcells (bv_one l) ?c3 ?c4 (Nat.le_refl _) ?_)
    case c0 => rw [bv_length]; omega
    case c3 => omega
    case c4 => omega
    intro v' w1 hown hgrow _
    have hb1 : Below w.heap.size w w1 := (Below.refl _ _).grown hgrow (Nat.le_refl _) (by intro k hk; cases hk)
    clear hgrow hi hz0 hz1 hz2 hcells
    go_wp2
    go_ret
    exact ⟨_, rfl, hown, hb1⟩
end Go.Proofs.YtjnjokbdoendkaaGreat
namespace Go.Proofs.YtjnjokbdoendkaaGreat
open Go.RowKit
set_option linter.unusedVariables false

set_option maxRecDepth 100000 in
theorem same_step {la lb : List Int} {k : Nat} (h : la.take k = lb.take k) (ha : k < la.length) (hb : k < lb.length) (e : la.getD k 0 = lb.getD k 0) : la.take (k + 1) = lb.take (k + 1) := by
  rw [take_succ_getD la k ha, take_succ_getD lb k hb, h, e]
set_option maxRecDepth 100000 in
theorem same_not {la lb : List Int} {k : Nat} (e : la.getD k 0 ≠ lb.getD k 0) : decide (la = lb) = false := by
  rw [decide_eq_false_iff_not]; intro h; exact e (by rw [h])
set_option maxHeartbeats 400000 in
theorem same_any (a b : Option Addr) (n m c d : Nat) (la lb : List Int) (w : World) (ha : Bts w a n c la) (hb : Bts w b m d lb) :
    Calls Tryz.prog 33 #[.slice a n c, .slice b m d] w fun e w' => e = .returned (.bool (decide (la = lb))) ∧ ∃ q, w' = w.drewN q := by
  have hn := Nat.le_trans ha.le_cap ha.cap_le
  have hm := Nat.le_trans hb.le_cap hb.cap_le
  unfold maxLen at hn hm
  have hla := ha.len_eq
  have hlb := hb.len_eq
  by_cases hne : n = m
  · subst hne
    have hq : ((n : Int) != (n : Int)) = false := by simp
    have HA : Hid (la.length = n) := hla
    have HB : Hid (lb.length = n) := hlb
    clear hla hlb
    go_enter Tryz.func33, Tryz.ntmps33
    go_wp2
    go_loopw [5] (fun i wr => ∃ k : Nat, k ≤ n ∧ i = .int .i64 k ∧ la.take k = lb.take k ∧ ∃ q, wr = w.drewN q) (fun i _ => n - (intOf i).toNat)
    case atStart => exact ⟨0, Nat.zero_le _, rfl, by simp, 0, rfl⟩
    case round =>
      obtain ⟨k, hk, rfl, ht, q, rfl⟩ := hrel
      have HT : Hid (la.take k = lb.take k) := ht
      clear ht
      by_cases hlt : k < n
      · obtain ⟨b1, o1, rfl, _, hc1⟩ := ha.spot (by omega)
        obtain ⟨b2, o2, rfl, _, hc2⟩ := hb.spot (by omega)
        have hx := hc1 k hlt
        have hy := hc2 k hlt
        clear hc1 hc2
        have hki : (k : Int) < (n : Int) := by omega
        generalize hav : la.getD k 0 = av at hx
        generalize hbv : lb.getD k 0 = bw at hy
        have HAV : Hid (la.getD k 0 = av) := hav
        have HBV : Hid (lb.getD k 0 = bw) := hbv
        clear hav hbv
        by_cases he : av = bw
        · have hd : (av != bw) = false := by simpa using he
          have HE : Hid (av = bw) := he
          clear he
          go_wp2
          go_quiet (fail)
          go_wp2
          go_roundw
          case rel => exact ⟨k + 1, by omega, by go_num, same_step HT.out (by rw [HA.out]; omega) (by rw [HB.out]; omega) (by rw [HAV.out, HBV.out, HE.out]), _, rfl⟩
          case measure => simp [intOf]; omega
        · have hd : (av != bw) = true := by simpa using he
          have HE : Hid (¬ av = bw) := he
          clear he
          go_wp2
          go_quiet (fail)
          go_wp2
          go_ret
          exact ⟨ret_bool (same_not (k := k) (by rw [HAV.out, HBV.out]; exact HE.out)).symm, drew_close _ _ _⟩
      · go_wp2
        go_ret
        refine ⟨?_, q, rfl⟩
        have h1 := HT.out
        rw [List.take_of_length_le (by rw [HA.out]; omega), List.take_of_length_le (by rw [HB.out]; omega)] at h1
        exact ret_bool (decide_eq_true h1).symm
  · have hq : ((n : Int) != (m : Int)) = true := by simp; omega
    have hf : decide (la = lb) = false := by rw [decide_eq_false_iff_not]; intro h; rw [h] at hla; omega
    rw [hf]
    go_enter Tryz.func33, Tryz.ntmps33
    go_wp2
    go_ret
    exact ⟨rfl, 0, rfl⟩
set_option maxRecDepth 100000 in
theorem same_yes (a b : Option Addr) (n m c d : Nat) (l : List Int) (w : World) (ha : Bts w a n c l) (hb : Bts w b m d l) :
    Calls Tryz.prog 33 #[.slice a n c, .slice b m d] w fun e w' => e = .returned (.bool true) ∧ ∃ q, w' = w.drewN q := by
  refine (same_any a b n m c d l l w ha hb).mono ?_
  rintro e w' ⟨rfl, q, rfl⟩
  exact ⟨ret_bool (by simp), q, rfl⟩
end Go.Proofs.YtjnjokbdoendkaaGreat
namespace Go.Proofs.YtjnjokbdoendkaaGreat
open Go.RowKit
set_option linter.unusedVariables false
end Go.Proofs.YtjnjokbdoendkaaGreat
