/- The pieces of a text. -/
import Derived.Test.YtpfijaojgeceeaaGreatDoorTBase
import Derived.Lib.Bytealg
import Derived.Laws.Concat
namespace Go.Proofs.YtpfijaojgeceeaaGreatDoor
open Go.RowKit
set_option linter.unusedVariables false

/-- the pieces of a list of bytes -/
def splitL (c : UInt8) : List UInt8 → List (List UInt8)
  | [] => [[]]
  | b :: l => if b = c then [] :: splitL c l else match splitL c l with | [] => [[b]] | p :: ps => (b :: p) :: ps
def mkB (l : List UInt8) : ByteArray := ⟨l.toArray⟩
/-- the pieces of a text -/
def pcs (c : UInt8) (s : ByteArray) : List ByteArray := (splitL c s.data.toList).map mkB
/-- a text ahead of the first piece -/
def glueB (p : ByteArray) : List ByteArray → List ByteArray
  | [] => [p]
  | q :: qs => (p ++ q) :: qs
/-- what is left of a text -/
def rest (s : ByteArray) (k : Nat) : ByteArray := s.extract k s.size
set_option maxRecDepth 100000 in
theorem mkB_data (l : List UInt8) : (mkB l).data.toList = l := rfl
set_option maxRecDepth 100000 in
theorem mkB_self (s : ByteArray) : mkB s.data.toList = s := Lib.mk_data s
set_option maxRecDepth 100000 in
theorem mkB_size (l : List UInt8) : (mkB l).size = l.length := by rw [Lib.size_eq]; rfl
set_option maxRecDepth 100000 in
theorem mkB_append (a b : List UInt8) : mkB a ++ mkB b = mkB (a ++ b) := ByteArray.mk_append_mk a b
set_option maxRecDepth 100000 in
theorem rest_data (s : ByteArray) (k : Nat) : (rest s k).data.toList = s.data.toList.drop k := by
  unfold rest
  rw [Lib.extract_data, List.take_of_length_le]
  rw [List.length_drop, ← Lib.size_eq]; exact Nat.le_refl _
set_option maxRecDepth 100000 in
theorem rest_mk (s : ByteArray) (k : Nat) : rest s k = mkB (s.data.toList.drop k) := ba_ext (rest_data s k)
set_option maxRecDepth 100000 in
theorem rest_size (s : ByteArray) (k : Nat) : (rest s k).size = s.size - k := by
  rw [Lib.size_eq, rest_data, List.length_drop, ← Lib.size_eq]
set_option maxRecDepth 100000 in
theorem rest_zero (s : ByteArray) : rest s 0 = s := by rw [rest_mk, List.drop_zero, mkB_self]
set_option maxRecDepth 100000 in
theorem head_mk (s : ByteArray) (k : Nat) : s.extract 0 k = mkB (s.data.toList.take k) := by
  apply ba_ext; rw [Lib.extract_data]; simp [mkB_data]
set_option maxRecDepth 100000 in
theorem splitL_ne (c : UInt8) (l : List UInt8) : splitL c l ≠ [] := by
  cases l with
  | nil => simp [splitL]
  | cons b l =>
    unfold splitL
    split
    · simp
    · split <;> simp
set_option maxRecDepth 100000 in
theorem split_none (c : UInt8) : ∀ l : List UInt8, Lib.indexByte l c = -1 → splitL c l = [l]
  | [], _ => rfl
  | b :: l, h => by
    unfold Lib.indexByte at h
    have hge := Lib.indexByte_ge l c
    split at h
    · cases h
    · rename_i hb
      have hb' : ¬ b = c := by simpa using hb
      split at h
      · rename_i h2
        have ih := split_none c l (by simpa using h2)
        unfold splitL
        rw [if_neg hb', ih]
      · omega
set_option maxRecDepth 100000 in
theorem split_some (c : UInt8) : ∀ (l : List UInt8) (k : Nat), Lib.indexByte l c = (k : Int) → k < l.length ∧ splitL c l = l.take k :: splitL c (l.drop (k + 1))
  | [], k, h => by unfold Lib.indexByte at h; omega
  | b :: l, k, h => by
    have hge := Lib.indexByte_ge l c
    unfold Lib.indexByte at h
    split at h
    · rename_i hb
      have hb' : b = c := by simpa using hb
      obtain rfl : k = 0 := by omega
      refine ⟨by simp, ?_⟩
      unfold splitL
      rw [if_pos hb']
      simp only [List.take_zero, Nat.zero_add, List.drop_succ_cons, List.drop_zero]
      cases l <;> rfl
    · rename_i hb
      have hb' : ¬ b = c := by simpa using hb
      split at h
      · omega
      · rename_i h2
        have h2' : ¬ Lib.indexByte l c = -1 := by simpa using h2
        obtain ⟨m, hm⟩ : ∃ m : Nat, Lib.indexByte l c = (m : Int) := ⟨(Lib.indexByte l c).toNat, by omega⟩
        obtain ⟨h3, h4⟩ := split_some c l m hm
        obtain rfl : k = m + 1 := by omega
        refine ⟨by simp; exact h3, ?_⟩
        rw [splitL, if_neg hb', h4]
        rfl
set_option maxRecDepth 100000 in
theorem pcs_none {c : UInt8} {s : ByteArray} (h : Lib.indexByte s.data.toList c = -1) : pcs c s = [s] := by
  unfold pcs; rw [split_none c _ h]; simp [mkB_self]
set_option maxRecDepth 100000 in
theorem pcs_some {c : UInt8} {s : ByteArray} {k : Nat} (h : Lib.indexByte s.data.toList c = (k : Int)) : k < s.size ∧ pcs c s = s.extract 0 k :: pcs c (rest s (k + 1)) := by
  obtain ⟨h1, h2⟩ := split_some c _ k h
  refine ⟨by rw [Lib.size_eq]; exact h1, ?_⟩
  unfold pcs
  rw [h2, rest_data, List.map_cons, head_mk]
set_option maxRecDepth 100000 in
theorem split_len (c : UInt8) : ∀ l : List UInt8, (splitL c l).length = l.count c + 1
  | [] => rfl
  | b :: l => by
    have ih := split_len c l
    unfold splitL
    split
    · rename_i h; subst h; simp [ih]
    · rename_i h
      have hc : (b :: l).count c = l.count c := List.count_cons_of_ne h
      rw [hc, ← ih]
      cases e : splitL c l with
      | nil => exact absurd e (splitL_ne c l)
      | cons p ps => rfl
/-- how many of the first bytes are the byte -/
def cntT (c : UInt8) (s : ByteArray) (k : Nat) : Nat := (s.data.toList.take k).count c
set_option maxRecDepth 100000 in
theorem cnt_zero (c : UInt8) (s : ByteArray) : cntT c s 0 = 0 := rfl
set_option maxRecDepth 100000 in
theorem cnt_all (c : UInt8) (s : ByteArray) : (pcs c s).length = cntT c s s.size + 1 := by
  unfold pcs cntT
  rw [List.length_map, split_len, List.take_of_length_le (by rw [← Lib.size_eq]; exact Nat.le_refl _)]
set_option maxRecDepth 100000 in
theorem cnt_le (c : UInt8) (s : ByteArray) (k : Nat) : cntT c s k ≤ k := by
  unfold cntT
  exact Nat.le_trans List.count_le_length (by rw [List.length_take]; omega)
/-- the byte that a number is -/
def cb (y : Int) : UInt8 := UInt8.ofNat y.toNat
set_option maxRecDepth 100000 in
theorem cb_iff {s : ByteArray} {k : Nat} {y : Int} (hy : 0 ≤ y ∧ y ≤ 255) (hk : k < s.data.toList.length) : s.data.toList[k] = cb y ↔ sb s k = y := by
  have e : sb s k = ((s.data.toList[k]'hk).toNat : Int) := by
    unfold sb; rw [List.getD_eq_getElem?_getD, List.getElem?_eq_getElem hk, Option.getD_some]
  rw [e]
  constructor
  · intro h; rw [h]; unfold cb; rw [UInt8.toNat_ofNat']; omega
  · intro h
    apply UInt8.toNat_inj.1
    unfold cb
    rw [UInt8.toNat_ofNat']
    omega
set_option maxRecDepth 100000 in
theorem take_snocT (l : List UInt8) (k : Nat) (h : k < l.length) : l.take (k + 1) = l.take k ++ [l[k]] := by
  rw [List.take_add_one, List.getElem?_eq_getElem h]; rfl
set_option maxRecDepth 100000 in
theorem cnt_hit {s : ByteArray} {k : Nat} {y : Int} (hy : 0 ≤ y ∧ y ≤ 255) (hk : k < s.size) (h : sb s k = y) : cntT (cb y) s (k + 1) = cntT (cb y) s k + 1 := by
  have hk' : k < s.data.toList.length := by rw [← Lib.size_eq]; exact hk
  unfold cntT
  rw [take_snocT _ _ hk', (cb_iff hy hk').2 h, List.count_append]
  simp
set_option maxRecDepth 100000 in
theorem cnt_miss {s : ByteArray} {k : Nat} {y : Int} (hy : 0 ≤ y ∧ y ≤ 255) (hk : k < s.size) (h : ¬ sb s k = y) : cntT (cb y) s (k + 1) = cntT (cb y) s k := by
  have hk' : k < s.data.toList.length := by rw [← Lib.size_eq]; exact hk
  unfold cntT
  rw [take_snocT _ _ hk', List.count_append, List.count_cons_of_ne (fun e => h ((cb_iff hy hk').1 e))]
  simp
set_option maxRecDepth 100000 in
theorem rest_cons (s : ByteArray) (k : Nat) (hk : k < s.data.toList.length) : (rest s k).data.toList = s.data.toList[k] :: (rest s (k + 1)).data.toList := by
  rw [rest_data, rest_data, List.drop_eq_getElem_cons hk]
set_option maxRecDepth 100000 in
theorem one_mk (s : ByteArray) (k : Nat) (hk : k < s.data.toList.length) : s.extract k (k + 1) = mkB [s.data.toList[k]] := by
  apply ba_ext
  rw [Lib.extract_data, show k + 1 - k = 1 by omega, List.drop_eq_getElem_cons hk, List.take_succ_cons, List.take_zero]; rfl
set_option maxRecDepth 100000 in
theorem pcs_hit {s : ByteArray} {k : Nat} {y : Int} (hy : 0 ≤ y ∧ y ≤ 255) (hk : k < s.size) (h : sb s k = y) : pcs (cb y) (rest s k) = mkB [] :: pcs (cb y) (rest s (k + 1)) := by
  have hk' : k < s.data.toList.length := by rw [← Lib.size_eq]; exact hk
  unfold pcs
  rw [rest_cons s k hk', splitL, if_pos ((cb_iff hy hk').2 h)]; rfl
set_option maxRecDepth 100000 in
theorem pcs_miss {s : ByteArray} {k : Nat} {y : Int} (hy : 0 ≤ y ∧ y ≤ 255) (hk : k < s.size) (h : ¬ sb s k = y) : pcs (cb y) (rest s k) = glueB (s.extract k (k + 1)) (pcs (cb y) (rest s (k + 1))) := by
  have hk' : k < s.data.toList.length := by rw [← Lib.size_eq]; exact hk
  unfold pcs
  rw [rest_cons s k hk', splitL, if_neg (fun e => h ((cb_iff hy hk').1 e)), one_mk s k hk']
  cases e : splitL (cb y) (rest s (k + 1)).data.toList with
  | nil => exact absurd e (splitL_ne _ _)
  | cons p ps => simp [glueB, mkB_append]
set_option maxRecDepth 100000 in
theorem pcs_end (c : UInt8) (s : ByteArray) : pcs c (rest s s.size) = [mkB []] := by
  unfold pcs
  rw [rest_data, List.drop_of_length_le (by rw [← Lib.size_eq]; exact Nat.le_refl _)]; rfl
set_option maxRecDepth 100000 in
theorem pcs_ne (c : UInt8) (s : ByteArray) : pcs c s ≠ [] := by unfold pcs; simp [splitL_ne]
set_option maxRecDepth 100000 in
theorem empty_app (p : ByteArray) : mkB [] ++ p = p := by rw [← mkB_self p, mkB_append, List.nil_append]
set_option maxRecDepth 100000 in
theorem app_empty (p : ByteArray) : p ++ mkB [] = p := by rw [← mkB_self p, mkB_append, List.append_nil]
set_option maxRecDepth 100000 in
theorem app_assoc (a b c : ByteArray) : a ++ b ++ c = a ++ (b ++ c) := by
  rw [← mkB_self a, ← mkB_self b, ← mkB_self c]; simp only [mkB_append, List.append_assoc]
set_option maxRecDepth 100000 in
theorem glue_glue (p q : ByteArray) (X : List ByteArray) (h : X ≠ []) : glueB p (glueB q X) = glueB (p ++ q) X := by
  cases X with
  | nil => exact absurd rfl h
  | cons x xs => simp [glueB, app_assoc]
set_option maxRecDepth 100000 in
theorem glue_cons (p : ByteArray) (X : List ByteArray) : glueB p (mkB [] :: X) = p :: X := by simp [glueB, app_empty]
set_option maxRecDepth 100000 in
theorem glue_empty (X : List ByteArray) (h : X ≠ []) : glueB (mkB []) X = X := by
  cases X with
  | nil => exact absurd rfl h
  | cons x xs => simp [glueB, empty_app]
end Go.Proofs.YtpfijaojgeceeaaGreatDoor
