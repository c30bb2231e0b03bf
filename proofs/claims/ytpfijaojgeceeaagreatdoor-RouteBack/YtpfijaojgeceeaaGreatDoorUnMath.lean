/- Which bytes letters are. -/
import Derived.Test.YtpfijaojgeceeaaGreatDoorAuas
import Derived.Lib.Bytealg
namespace Go.Proofs.YtpfijaojgeceeaaGreatDoor
open Go.RowKit
set_option linter.unusedVariables false

/-- the number that a letter is; -1 for what is none -/
def hv (c : Int) : Int := Lib.indexByte hexS.data.toList c.toNat.toUInt8
set_option maxRecDepth 100000 in
theorem hv_fin : ∀ c : Fin 256, (-1 ≤ hv (c.val : Int) ∧ hv (c.val : Int) < 16) ∧ ∀ j : Fin 16, (hx j.val = (c.val : Int)) ↔ (hv (c.val : Int) = (j.val : Int)) := by decide +kernel
set_option maxRecDepth 100000 in
theorem hv_bd {c : Int} (h : 0 ≤ c ∧ c ≤ 255) : -1 ≤ hv c ∧ hv c < 16 := by
  have := (hv_fin ⟨c.toNat, by omega⟩).1
  rwa [show ((c.toNat : Nat) : Int) = c by omega] at this
set_option maxRecDepth 100000 in
theorem hv_iff {c : Int} (h : 0 ≤ c ∧ c ≤ 255) (j : Nat) (hj : j < 16) : hx j = c ↔ hv c = (j : Int) := by
  have := (hv_fin ⟨c.toNat, by omega⟩).2 ⟨j, hj⟩
  rwa [show ((c.toNat : Nat) : Int) = c by omega] at this
/-- the byte that a pair of letters is -/
def unPair (s : ByteArray) (k : Nat) : Option Int :=
  if 0 ≤ hv (sb s (2 * k)) ∧ 0 ≤ hv (sb s (2 * k + 1)) then some (16 * hv (sb s (2 * k)) + hv (sb s (2 * k + 1))) else none
/-- the bytes of so many pairs -/
def unB (s : ByteArray) : Nat → Option (List Int)
  | 0 => some []
  | k + 1 => (unB s k).bind fun l => (unPair s k).map fun c => l ++ [c]
/-- the bytes that a text of letters is -/
def unhexV (s : ByteArray) : Option (List Int) := if s.size % 2 = 0 then unB s (s.size / 2) else none
set_option maxRecDepth 100000 in
theorem unPair_byt {s : ByteArray} {k : Nat} {c : Int} (h : unPair s k = some c) : 0 ≤ c ∧ c ≤ 255 := by
  have h1 := hv_bd (sb_byt s (2 * k))
  have h2 := hv_bd (sb_byt s (2 * k + 1))
  unfold unPair at h
  split at h
  · simp at h; omega
  · cases h
set_option maxRecDepth 100000 in
theorem unB_facts (s : ByteArray) : ∀ (k : Nat) (l : List Int), unB s k = some l → l.length = k ∧ Byt l
  | 0, l, h => by simp [unB] at h; subst h; exact ⟨rfl, Byt.nil⟩
  | k + 1, l, h => by
    simp only [unB, Option.bind_eq_some_iff, Option.map_eq_some_iff] at h
    obtain ⟨l0, h0, c, hc, rfl⟩ := h
    obtain ⟨h1, h2⟩ := unB_facts s k l0 h0
    exact ⟨by simp [h1], h2.append (Byt.cons (unPair_byt hc) Byt.nil)⟩
set_option maxRecDepth 100000 in
theorem unB_more {s : ByteArray} {k : Nat} {l : List Int} {c : Int} (h : unB s k = some l) (hc : unPair s k = some c) : unB s (k + 1) = some (l ++ [c]) := by
  simp [unB, h, hc]
set_option maxRecDepth 100000 in
theorem unB_stop {s : ByteArray} {k : Nat} (hc : unPair s k = none) : ∀ m, k < m → unB s m = none
  | 0, h => by omega
  | m + 1, h => by
    by_cases e : m = k
    · subst e; simp [unB, hc]
    · simp [unB, unB_stop hc m (by omega)]
set_option maxRecDepth 100000 in
theorem un_odd {s : ByteArray} (h : ¬ s.size % 2 = 0) : unhexV s = none := by unfold unhexV; rw [if_neg h]
set_option maxRecDepth 100000 in
theorem un_stop {s : ByteArray} {k : Nat} (hk : 2 * k + 1 < s.size) (hc : unPair s k = none) : unhexV s = none := by
  unfold unhexV
  split
  · exact unB_stop hc _ (by omega)
  · rfl
set_option maxRecDepth 100000 in
theorem un_end {s : ByteArray} {k : Nat} {l : List Int} (hk : 2 * k = s.size) (h : unB s k = some l) : unhexV s = some l := by
  unfold unhexV
  rw [if_pos (by omega), show s.size / 2 = k by omega, h]
set_option maxRecDepth 100000 in
theorem unPair_some {s : ByteArray} {k : Nat} {p q : Nat} (h1 : hv (sb s (2 * k)) = p) (h2 : hv (sb s (2 * k + 1)) = q) : unPair s k = some (16 * (p : Int) + q) := by
  unfold unPair
  rw [h1, h2, if_pos ⟨by omega, by omega⟩]
set_option maxRecDepth 100000 in
theorem unPair_none {s : ByteArray} {k : Nat} (h : hv (sb s (2 * k)) < 0 ∨ hv (sb s (2 * k + 1)) < 0) : unPair s k = none := by
  unfold unPair
  rw [if_neg (by omega)]
set_option maxRecDepth 100000 in
theorem or_fin : ∀ p q : Fin 16, bits .or .i64 ((p.val : Int) * 16) (q.val : Int) = 16 * (p.val : Int) + q.val := by decide +kernel
set_option maxRecDepth 100000 in
theorem or_eq (p q : Nat) (hp : p < 16) (hq : q < 16) : bits .or .i64 ((p : Int) * 16) (q : Int) = 16 * (p : Int) + q := or_fin ⟨p, hp⟩ ⟨q, hq⟩
/-- the row behind k rounds -/
def unRow (l : List Int) (n : Nat) : List Value := bv l ++ List.replicate (n - l.length) (Value.int .u8 0)
set_option maxRecDepth 100000 in
theorem unRow_more (l : List Int) (n : Nat) (c : Int) (h : l.length < n) : (unRow l n).set l.length (.int .u8 c) = unRow (l ++ [c]) n := by
  unfold unRow
  obtain ⟨m, rfl⟩ : ∃ m, n = l.length + 1 + m := ⟨n - l.length - 1, by omega⟩
  rw [show l.length + 1 + m - l.length = m + 1 by omega, List.replicate_succ, List.set_append_right _ _ (by rw [bv_length]; exact Nat.le_refl _), bv_length, Nat.sub_self, List.set_cons_zero, bv_append, List.append_assoc]
  rw [show l.length + 1 + m - (l ++ [c]).length = m by simp]
  rfl
set_option maxRecDepth 100000 in
theorem nil_bts (w : World) : Bts w none 0 0 [] := ⟨rfl, Byt.nil, Nat.le_refl _, Nat.zero_le _, fun _ => rfl, fun h => by omega⟩
end Go.Proofs.YtpfijaojgeceeaaGreatDoor
