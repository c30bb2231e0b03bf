/- What is written is read; what is read is written so. -/
import Derived.Test.YtpfijaojgeceeaaGreatDoorUnMath
import Derived.Test.YtpfijaojgeceeaaGreatDoorAuaq
namespace Go.Proofs.YtpfijaojgeceeaaGreatDoor
open Go.RowKit
set_option linter.unusedVariables false

set_option maxRecDepth 100000 in
theorem hexL_at (b : List Int) : ∀ k, k < b.length → (hexL b).getD (2 * k) 0 = hx ((b.getD k 0).toNat / 16) ∧ (hexL b).getD (2 * k + 1) 0 = hx ((b.getD k 0).toNat % 16) := by
  induction b with
  | nil => intro k h; simp at h
  | cons c b ih =>
    intro k h
    have e : hexL (c :: b) = hx (c.toNat / 16) :: hx (c.toNat % 16) :: hexL b := rfl
    rw [e]
    cases k with
    | zero => exact ⟨rfl, rfl⟩
    | succ k =>
      have := ih k (by simpa using h)
      rw [show 2 * (k + 1) = 2 * k + 1 + 1 by omega]
      simpa using this
set_option maxRecDepth 100000 in
theorem sb_strOf {l : List Int} (hl : Byt l) (i : Nat) (hi : i < l.length) : sb (strOf l) i = l.getD i 0 := by
  unfold sb strOf
  have hb := hl.getD i
  rw [List.getD_eq_getElem?_getD, List.getElem?_eq_getElem hi, Option.getD_some] at hb
  simp only [List.getD_eq_getElem?_getD, List.getElem?_map, List.getElem?_eq_getElem hi, Option.map_some, Option.getD_some]
  rw [UInt8.toNat_ofNat']
  omega
set_option maxRecDepth 100000 in
theorem un_hex_pair {b : List Int} (hb : Byt b) (k : Nat) (hk : k < b.length) : unPair (strOf (hexL b)) k = some (b.getD k 0) := by
  have hl := hexL_length b
  obtain ⟨e1, e2⟩ := hexL_at b k hk
  have hby := hb.getD k
  generalize b.getD k 0 = c at e1 e2 hby
  have h1 : hv (sb (strOf (hexL b)) (2 * k)) = ((c.toNat / 16 : Nat) : Int) := by
    rw [sb_strOf (hexL_byt b) _ (by omega), e1]
    exact (hv_iff (hx_byt _) _ (by omega)).1 rfl
  have h2 : hv (sb (strOf (hexL b)) (2 * k + 1)) = ((c.toNat % 16 : Nat) : Int) := by
    rw [sb_strOf (hexL_byt b) _ (by omega), e2]
    exact (hv_iff (hx_byt _) _ (by omega)).1 rfl
  rw [unPair_some h1 h2]
  congr 1
  omega
set_option maxRecDepth 100000 in
theorem un_hex_k {b : List Int} (hb : Byt b) : ∀ k, k ≤ b.length → unB (strOf (hexL b)) k = some (b.take k)
  | 0, _ => by simp [unB]
  | k + 1, h => by
    rw [unB_more (un_hex_k hb k (by omega)) (un_hex_pair hb k (by omega)), take_succ_getD b k (by omega)]
set_option maxRecDepth 100000 in
theorem un_hex {b : List Int} (hb : Byt b) : unhexV (strOf (hexL b)) = some b := by
  have h := un_hex_k hb b.length (Nat.le_refl _)
  rw [List.take_length] at h
  exact un_end (by rw [strOf_size, hexL_length]) h
set_option maxRecDepth 100000 in
theorem hex_un_k (s : ByteArray) : ∀ (k : Nat) (l : List Int), unB s k = some l → hexL l = (List.range (2 * k)).map (sb s)
  | 0, l, h => by simp [unB] at h; subst h; rfl
  | k + 1, l, h => by
    simp only [unB, Option.bind_eq_some_iff, Option.map_eq_some_iff] at h
    obtain ⟨l0, h0, c, hc, rfl⟩ := h
    have ih := hex_un_k s k l0 h0
    have b1 := hv_bd (sb_byt s (2 * k))
    have b2 := hv_bd (sb_byt s (2 * k + 1))
    unfold unPair at hc
    split at hc
    · rename_i hp
      have hc' : 16 * hv (sb s (2 * k)) + hv (sb s (2 * k + 1)) = c := by simpa using hc
      have e1 : hx (c.toNat / 16) = sb s (2 * k) := (hv_iff (sb_byt _ _) _ (by omega)).2 (by omega)
      have e2 : hx (c.toNat % 16) = sb s (2 * k + 1) := (hv_iff (sb_byt _ _) _ (by omega)).2 (by omega)
      rw [hexL_append, ih, show 2 * (k + 1) = 2 * k + 1 + 1 by omega, List.range_succ, List.range_succ, List.map_append, List.map_append, List.append_assoc]
      congr 1
      show [hx (c.toNat / 16), hx (c.toNat % 16)] = _
      rw [e1, e2]; rfl
    · cases hc
set_option maxRecDepth 100000 in
theorem strOf_all (s : ByteArray) : strOf ((List.range s.size).map (sb s)) = s := by
  apply ba_ext
  unfold strOf
  simp only []
  apply List.ext_getElem
  · rw [List.length_map, List.length_map, List.length_range, Lib.size_eq]
  · intro i h1 h2
    simp only [List.getElem_map, List.getElem_range]
    unfold sb
    rw [List.getD_eq_getElem?_getD, List.getElem?_eq_getElem h2, Option.getD_some]
    apply UInt8.toNat_inj.1
    rw [UInt8.toNat_ofNat']
    have := UInt8.toNat_lt (s.data.toList[i]'h2)
    omega
set_option maxRecDepth 100000 in
theorem hex_un {s : ByteArray} {l : List Int} (h : unhexV s = some l) : strOf (hexL l) = s := by
  unfold unhexV at h
  split at h
  · rename_i he
    rw [hex_un_k s _ l h, show 2 * (s.size / 2) = s.size by omega, strOf_all]
  · cases h
set_option maxRecDepth 100000 in
theorem un_len {s : ByteArray} {l : List Int} (h : unhexV s = some l) : l.length ≤ s.size ∧ Byt l := by
  unfold unhexV at h
  split at h
  · have := unB_facts s _ l h; exact ⟨by omega, this.2⟩
  · cases h
set_option maxRecDepth 100000 in
theorem rd_neg {n : Int} (h : n < 0) : rdv (decS n).data.toList = none := by
  apply rdv_not
  intro m _ e
  obtain ⟨c, r, hc, h1, h2⟩ := dec_head m
  have e1 : (decS n).data.toList = 45 :: Lib.decDigits n.natAbs := by
    show Lib.itoa n = _
    unfold Lib.itoa; rw [if_pos h]
  rw [e1, hc] at e
  have := (List.cons.inj e).1
  rw [← this] at h1
  exact absurd h1 (by decide)
set_option maxRecDepth 100000 in
theorem rd_back {s : ByteArray} {v : Int} (h : rdv s.data.toList = some v) : decS v = s ∧ 0 ≤ v ∧ v ≤ 9223372036854775807 := by
  obtain ⟨m, rfl, h1, h2⟩ := rdv_some h
  refine ⟨?_, by omega, by omega⟩
  apply ba_ext
  rw [h2]
  show Lib.itoa (m : Int) = _
  exact itoa_nat m
end Go.Proofs.YtpfijaojgeceeaaGreatDoor
