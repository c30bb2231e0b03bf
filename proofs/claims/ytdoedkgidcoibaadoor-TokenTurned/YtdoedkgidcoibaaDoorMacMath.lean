/- A key's block and the sum by a key, on lists of bytes: no walk. -/
import Derived.Test.YtdoedkgidcoibaaDoorHashMath
namespace Go.Proofs.YtdoedkgidcoibaaDoor
open Go.RowKit
set_option linter.unusedVariables false

theorem xr_b {a b : Int} (ha : 0 ≤ a ∧ a ≤ 255) (hb : 0 ≤ b ∧ b ≤ 255) : 0 ≤ xr a b ∧ xr a b ≤ 255 := by
  have h1 := ha.1; have h2 := ha.2; have h3 := hb.1; have h4 := hb.2
  have := Nat.xor_lt_two_pow (x := a.toNat) (y := b.toNat) (n := 8) (by omega) (by omega)
  exact ⟨by unfold xr; omega, by unfold xr; omega⟩
theorem xr8_eq {a b : Int} (ha : 0 ≤ a ∧ a ≤ 255) (hb : 0 ≤ b ∧ b ≤ 255) : bits .xor .u8 a b = xr a b := by
  have h1 := ha.1; have h2 := ha.2; have h3 := hb.1; have h4 := hb.2
  exact u8_xor a b h1 (by omega) h3 (by omega)
/-- each byte, exclusive-ored -/
def xorB (l : List Int) (x : Int) : List Int := l.map (fun c => xr c x)
theorem xorB_length (l : List Int) (x : Int) : (xorB l x).length = l.length := by simp [xorB]
theorem xorB_byt {l : List Int} {x : Int} (h : Byt l) (hx : 0 ≤ x ∧ x ≤ 255) : Byt (xorB l x) := by
  intro c hc
  obtain ⟨d, hd, rfl⟩ := List.mem_map.1 hc
  exact xr_b (h d hd) hx
theorem xorB_take (l : List Int) (x : Int) (k : Nat) : (xorB l x).take k = xorB (l.take k) x := by simp [xorB, List.map_take]
theorem xorB_getD (l : List Int) (x : Int) (k : Nat) (h : k < l.length) : (xorB l x).getD k 0 = xr (l.getD k 0) x := by
  simp only [xorB, List.getD_eq_getElem?_getD, List.getElem?_map, List.getElem?_eq_getElem h, Option.map_some, Option.getD_some]
/-- the row behind k rounds of 'b[i] ^= x' -/
def mskP (b : List Int) (x : Int) (k : Nat) : List Int := xorB (b.take k) x ++ b.drop k
theorem mskP_zero (b : List Int) (x : Int) : mskP b x 0 = b := by simp [mskP, xorB]
theorem mskP_length (b : List Int) (x : Int) (k : Nat) : (mskP b x k).length = b.length := by simp [mskP, xorB]; omega
theorem mskP_end (b : List Int) (x : Int) (k : Nat) (h : b.length ≤ k) : mskP b x k = xorB b x := by
  unfold mskP; rw [List.take_of_length_le h, List.drop_eq_nil_of_le h, List.append_nil]
theorem mskP_get (b : List Int) (x : Int) (k : Nat) (h : k < b.length) : (mskP b x k).getD k 0 = b.getD k 0 := by
  unfold mskP
  simp only [List.getD_eq_getElem?_getD]
  rw [List.getElem?_append_right (by rw [xorB_length, List.length_take]; omega), xorB_length, List.length_take, Nat.min_eq_left (by omega), Nat.sub_self, List.getElem?_drop, Nat.add_zero]
theorem mskP_set (b : List Int) (x : Int) (k : Nat) (h : k < b.length) : (bv (mskP b x k)).toArray.setIfInBounds k (.int .u8 (xr (b.getD k 0) x)) = (bv (mskP b x (k + 1))).toArray := by
  rw [List.setIfInBounds_toArray]
  congr 1
  have e : b.drop k = b.getD k 0 :: b.drop (k + 1) := by rw [List.getD_eq_getElem?_getD, List.getElem?_eq_getElem h]; exact List.drop_eq_getElem_cons h
  have hl : (bv (xorB (b.take k) x)).length = k := by rw [bv_length, xorB_length, List.length_take]; omega
  unfold mskP
  rw [bv_append, List.set_append_right _ _ (by omega), hl, Nat.sub_self, e, take_succ_getD b k h]
  simp [bv, xorB]

theorem xorB_more (b : List Int) (x : Int) (j : Nat) (h : j < b.length) : xorB (b.take j) x ++ [xr (b.getD j 0) x] = xorB (b.take (j + 1)) x := by
  rw [take_succ_getD b j h]; simp [xorB]
/-- a key, or its sum where it is long -/
def keyP (k : List Int) : List Int := if 64 < k.length then sumL k else k
theorem sumL_byt (b : List Int) : Byt (sumL b) := digL_byt _
theorem keyP_long {k : List Int} (h : 64 < k.length) : keyP k = sumL k := if_pos h
theorem keyP_short {k : List Int} (h : ¬ 64 < k.length) : keyP k = k := if_neg h
theorem keyP_len (k : List Int) : (keyP k).length ≤ 64 := by
  by_cases h : 64 < k.length
  · rw [keyP_long h, sumL_length]; omega
  · rw [keyP_short h]; omega
theorem keyP_byt {k : List Int} (h : Byt k) : Byt (keyP k) := by
  by_cases hl : 64 < k.length
  · rw [keyP_long hl]; exact sumL_byt _
  · rw [keyP_short hl]; exact h
/-- noughts behind it, up to 64 -/
def fil (k : List Int) : List Int := k ++ List.replicate (64 - k.length) 0
theorem fil_len {k : List Int} (h : k.length ≤ 64) : (fil k).length = 64 := by unfold fil; rw [List.length_append, List.length_replicate]; omega
theorem zeros_byt (n : Nat) : Byt (List.replicate n 0) := by intro c hc; rw [List.eq_of_mem_replicate hc]; decide
theorem fil_byt {k : List Int} (h : Byt k) : Byt (fil k) := h.append (zeros_byt _)
theorem fil_zeros (k : List Int) (n : Nat) (h : k.length + n ≤ 64) : fil (k ++ List.replicate n 0) = fil k := by
  unfold fil
  rw [List.append_assoc, List.length_append, List.length_replicate, List.replicate_append_replicate]
  congr 2; omega
theorem fil_getD (k : List Int) (i : Nat) (h : k.length ≤ 64) (hi : i < 64) : (fil k).getD i 0 = k.getD i 0 := by
  unfold fil
  simp only [List.getD_eq_getElem?_getD]
  by_cases hk : i < k.length
  · rw [List.getElem?_append_left hk]
  · rw [List.getElem?_append_right (by omega), List.getElem?_replicate, if_pos (by omega), List.getElem?_eq_none (by omega)]; rfl
theorem fil_splice (k : List Int) (h : k.length ≤ 64) : splice (bv (List.replicate 64 0)) 0 (bv k) = bv (fil k) := by
  unfold splice fil
  rw [List.take_zero, List.nil_append, Nat.zero_add, bv_append, bv_length]
  congr 1
  unfold bv; rw [← List.map_drop, List.drop_replicate]
/-- a key's block -/
def blkK (k : List Int) : List Int := fil (keyP k)
theorem blkK_len (k : List Int) : (blkK k).length = 64 := fil_len (keyP_len k)
theorem blkK_byt {k : List Int} (h : Byt k) : Byt (blkK k) := fil_byt (keyP_byt h)
theorem blkK_long {k : List Int} (h : 64 < k.length) : blkK (sumL k) = blkK k := by
  unfold blkK; rw [keyP_long h, keyP_short (by rw [sumL_length]; omega)]
theorem blkK_zeros (k : List Int) (n : Nat) (h : k.length + n ≤ 64) : blkK (k ++ List.replicate n 0) = blkK k := by
  unfold blkK
  rw [keyP_short (by rw [List.length_append, List.length_replicate]; omega), keyP_short (by omega), fil_zeros k n h]
/-- the sum of a text by a key -/
def macL (k t : List Int) : List Int := sumL (xorB (blkK k) 92 ++ sumL (xorB (blkK k) 54 ++ t))
theorem macL_len (k t : List Int) : (macL k t).length = 32 := sumL_length _
theorem macL_byt (k t : List Int) : Byt (macL k t) := sumL_byt _
theorem macL_long {k : List Int} (t : List Int) (h : 64 < k.length) : macL (sumL k) t = macL k t := by unfold macL; rw [blkK_long h]
theorem macL_zeros (k t : List Int) (n : Nat) (h : k.length + n ≤ 64) : macL (k ++ List.replicate n 0) t = macL k t := by unfold macL; rw [blkK_zeros k n h]
set_option maxRecDepth 100000 in
theorem mac_nil : (macL [] []).getD 0 0 = 182 := by decide +kernel
end Go.Proofs.YtdoedkgidcoibaaDoor
