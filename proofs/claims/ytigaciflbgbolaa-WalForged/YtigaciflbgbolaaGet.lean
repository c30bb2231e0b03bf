/- What Get and the document's Get answer. -/
import Derived.Test.YtigaciflbgbolaaBase
namespace Go.Proofs.Ytigaciflbgbolaa
open Go.RowKit
set_option linter.unusedVariables false

def getV (l : List Int) : Int := l.foldl (fun x c => 256 * x + c) 0
set_option maxRecDepth 100000 in
theorem getV_snoc (l : List Int) (c : Int) : getV (l ++ [c]) = 256 * getV l + c := by simp [getV]
set_option maxRecDepth 100000 in
theorem getV_bd (l : List Int) (h : Byt l) : 0 ≤ getV l ∧ getV l < 256 ^ l.length := by
  suffices H : ∀ (m : List Int), Byt m.reverse → 0 ≤ getV m.reverse ∧ getV m.reverse < 256 ^ m.length by
    have := H l.reverse (by simpa using h); simpa using this
  intro m
  induction m with
  | nil => intro _; simp [getV]
  | cons c m ih =>
    intro hb
    have h1 : Byt m.reverse := fun d hd => hb d (by simp at hd ⊢; exact .inl hd)
    have h2 := hb c (by simp)
    have h3 := ih h1
    rw [List.reverse_cons, getV_snoc, List.length_cons, Int.pow_succ]
    omega
set_option maxRecDepth 100000 in
theorem getV_small (l : List Int) (h : Byt l) (n : Nat) (hl : l.length ≤ n) (hn : n ≤ 7) : 0 ≤ getV l ∧ getV l ≤ 72057594037927935 := by
  have h1 := getV_bd l h
  rcases (by omega : l.length = 0 ∨ l.length = 1 ∨ l.length = 2 ∨ l.length = 3 ∨ l.length = 4 ∨ l.length = 5 ∨ l.length = 6 ∨ l.length = 7) with h | h | h | h | h | h | h | h <;> rw [h] at h1 <;> omega
set_option maxRecDepth 100000 in
theorem or_join64 (i : Nat) (x y : Int) (hx0 : 0 ≤ x) (hx : x ≤ 18446744073709551615) (hm : x % 2 ^ i = 0) (hy0 : 0 ≤ y) (hy : y < 2 ^ i) (hy2 : y ≤ 18446744073709551615) : bits .or .u64 x y = x + y := by
  rw [u64_or x y hx0 (by omega) hy0 (by omega)]
  obtain ⟨a, rfl⟩ := Int.eq_ofNat_of_zero_le hx0
  obtain ⟨b, rfl⟩ := Int.eq_ofNat_of_zero_le hy0
  rw [Int.toNat_natCast, Int.toNat_natCast, nat_join i a b (by exact_mod_cast hm) (by exact_mod_cast hy)]
  rfl

set_option maxRecDepth 100000 in
theorem get_none (a : Option Addr) (len cap : Nat) (w : World) (hm : len ≤ maxLen) (h : len < 1 ∨ 8 < len) :
    Calls Try.prog 78 #[.slice a len cap] w fun e w' => e = .returned (.tuple #[.int .u64 0, .bool false]) ∧ w = w' := by
  unfold maxLen at hm
  rcases h with h | h
  · have h1 : (len : Int) < 1 := by omega
    go_enter Try.func78, Try.ntmps78
    go_wp2
    go_ret2
    exact ⟨rfl, rfl⟩
  · have h1 : ¬ (len : Int) < 1 := by omega
    have h2 : (8 : Int) < len := by omega
    go_enter Try.func78, Try.ntmps78
    go_wp2
    go_ret2
    exact ⟨rfl, rfl⟩

set_option maxRecDepth 100000 in
theorem refget_none (a : Option Addr) (len cap : Nat) (w : World) (hm : len ≤ maxLen) (h : len < 1 ∨ 8 < len) :
    Calls Try.prog 72 #[.slice a len cap] w fun e w' => e = .returned (.tuple #[.int .u64 0, .bool false]) ∧ w = w' := by
  unfold maxLen at hm
  rcases h with h | h
  · have h1 : (len : Int) < 1 := by omega
    go_enter Try.func72, Try.ntmps72
    go_wp2
    go_ret2
    exact ⟨rfl, rfl⟩
  · have h1 : ¬ (len : Int) < 1 := by omega
    have h2 : (8 : Int) < len := by omega
    go_enter Try.func72, Try.ntmps72
    go_wp2
    go_ret2
    exact ⟨rfl, rfl⟩

set_option maxRecDepth 100000 in
theorem tuple_ub {a b : Int} (h : a = b) (c : Bool) : Ending.returned (.tuple #[.int .u64 a, .bool c]) = .returned (.tuple #[.int .u64 b, .bool c]) := by rw [h]

set_option maxHeartbeats 400000 in
theorem get_some (a : Option Addr) (len cap : Nat) (l : List Int) (w : World) (h : Bts w a len cap l) (h1 : 1 ≤ len) (h8 : len ≤ 8) :
    Calls Try.prog 78 #[.slice a len cap] w fun e w' => e = .returned (.tuple #[.int .u64 (getV l), .bool true]) ∧ w = w' := by
  have hl : Hid (l.length = len) := h.len_eq
  obtain ⟨b, off, rfl, _, hc⟩ := h.spot (by omega)
  have hn1 : ¬ (len : Int) < 1 := by omega
  have hn8 : ¬ (8 : Int) < len := by omega
  have HB : Hid (Byt l) := h.byt
  clear h
  go_enter Try.func78, Try.ntmps78
  go_wp2
  go_loop [4, 17] (fun x i => ∃ k : Nat, k ≤ len ∧ i = .int .i64 k ∧ x = .int .u64 (getV (l.take k))) (fun _ i => len - (intOf i).toNat)
  case atStart => exact ⟨0, Nat.zero_le _, rfl, rfl⟩
  case round =>
    obtain ⟨k, hk, rfl, rfl⟩ := hrel
    by_cases hlt : k < len
    · have hcell := hc k hlt
      have hv := getV_small (l.take k) (HB.out.take k) k (List.length_take_le _ _) (by omega)
      have hbd := HB.out.getD k
      have HS : Hid (getV (l.take (k + 1)) = 256 * getV (l.take k) + l.getD k 0) := by rw [take_succ_getD l k (by rw [hl.out]; omega)]; exact getV_snoc _ _
      generalize getV (l.take k) = G at hv HS ⊢
      generalize l.getD k 0 = C at hcell hbd HS
      have hj : bits .or .u64 (G * 256) C = G * 256 + C := or_join64 8 _ _ (by omega) (by omega) (by omega) hbd.1 (by omega) (by omega)
      clear hc
      go_wp2
      go_round
      case rel => exact ⟨k + 1, by omega, by go_num, by rw [HS.out]; go_num⟩
      case measure => simp [intOf]; omega
    · have HT : Hid (l.take k = l) := List.take_of_length_le (by rw [hl.out]; omega)
      clear hc
      go_wp2
      go_ret2
      exact ⟨tuple_ub (by rw [HT.out]) _, rfl⟩

set_option maxHeartbeats 400000 in
theorem refget_some (a : Option Addr) (len cap : Nat) (l : List Int) (w : World) (h : Bts w a len cap l) (h1 : 1 ≤ len) (h8 : len ≤ 8) :
    Calls Try.prog 72 #[.slice a len cap] w fun e w' => e = .returned (.tuple #[.int .u64 (getV l), .bool true]) ∧ w = w' := by
  have hl : Hid (l.length = len) := h.len_eq
  obtain ⟨b, off, rfl, _, hc⟩ := h.spot (by omega)
  have hn1 : ¬ (len : Int) < 1 := by omega
  have hn8 : ¬ (8 : Int) < len := by omega
  have HB : Hid (Byt l) := h.byt
  clear h
  go_enter Try.func72, Try.ntmps72
  go_wp2
  go_loop [4, 5] (fun x i => ∃ k : Nat, k ≤ len ∧ i = .int .i64 k ∧ x = .int .u64 (getV (l.take k))) (fun _ i => len - (intOf i).toNat)
  case atStart => exact ⟨0, Nat.zero_le _, rfl, rfl⟩
  case round =>
    obtain ⟨k, hk, rfl, rfl⟩ := hrel
    by_cases hlt : k < len
    · have hcell := hc k hlt
      have hv := getV_small (l.take k) (HB.out.take k) k (List.length_take_le _ _) (by omega)
      have hbd := HB.out.getD k
      have HS : Hid (getV (l.take (k + 1)) = 256 * getV (l.take k) + l.getD k 0) := by rw [take_succ_getD l k (by rw [hl.out]; omega)]; exact getV_snoc _ _
      generalize getV (l.take k) = G at hv HS ⊢
      generalize l.getD k 0 = C at hcell hbd HS
      clear hc
      go_wp2
      go_round
      case rel => exact ⟨k + 1, by omega, by go_num, by rw [HS.out]⟩
      case measure => simp [intOf]; omega
    · have HT : Hid (l.take k = l) := List.take_of_length_le (by rw [hl.out]; omega)
      clear hc
      go_wp2
      go_ret2
      exact ⟨tuple_ub (by rw [HT.out]) _, rfl⟩
end Go.Proofs.Ytigaciflbgbolaa
