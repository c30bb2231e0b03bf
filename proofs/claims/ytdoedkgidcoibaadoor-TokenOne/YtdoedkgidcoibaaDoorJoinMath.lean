/- The pieces of a text, joined by the byte, are the text; none of them has the byte. -/
import Derived.Test.YtdoedkgidcoibaaDoorTexts
import Derived.Test.YtdoedkgidcoibaaDoorHex
namespace Go.Proofs.YtdoedkgidcoibaaDoor
open Go.RowKit
set_option linter.unusedVariables false

/-- joined, as lists -/
def jl (c : UInt8) : List (List UInt8) → List UInt8
  | [] => []
  | [p] => p
  | p :: ps => p ++ c :: jl c ps
theorem jl_cons (c : UInt8) (p : List UInt8) (ps : List (List UInt8)) (h : ps ≠ []) : jl c (p :: ps) = p ++ c :: jl c ps := by
  cases ps with
  | nil => exact absurd rfl h
  | cons q qs => rfl
theorem jl_split (c : UInt8) : ∀ l : List UInt8, jl c (splitL c l) = l
  | [] => rfl
  | b :: l => by
    have ih := jl_split c l
    unfold splitL
    split
    · rename_i h
      rw [jl_cons c [] _ (splitL_ne c l), ih, h]; rfl
    · cases e : splitL c l with
      | nil => exact absurd e (splitL_ne c l)
      | cons p ps =>
        rw [e] at ih
        cases ps with
        | nil => simp only [jl] at ih ⊢; rw [ih]
        | cons q qs => rw [jl_cons c p _ (by simp)] at ih; show jl c ((b :: p) :: q :: qs) = _; rw [jl_cons c (b :: p) _ (by simp), List.cons_append, ih]
theorem jl_snoc (c : UInt8) (q : List UInt8) : ∀ P : List (List UInt8), P ≠ [] → jl c (P ++ [q]) = jl c P ++ c :: q
  | [], h => absurd rfl h
  | [p], _ => rfl
  | p :: r :: ps, _ => by
    have ih := jl_snoc c q (r :: ps) (by simp)
    rw [List.cons_append, jl_cons c p _ (by simp), ih, jl_cons c p _ (by simp)]; simp
theorem split_small (c : UInt8) : ∀ (l : List UInt8), ∀ p ∈ splitL c l, p.length ≤ l.length ∧ c ∉ p
  | [], p, h => by simp [splitL] at h; subst h; simp
  | b :: l, p, h => by
    have ih := split_small c l
    unfold splitL at h
    split at h
    · rcases List.mem_cons.1 h with rfl | h1
      · simp
      · obtain ⟨h2, h3⟩ := ih p h1; exact ⟨by simp; omega, h3⟩
    · rename_i hb
      cases e : splitL c l with
      | nil => exact absurd e (splitL_ne c l)
      | cons q qs =>
        rw [e] at h ih
        rcases List.mem_cons.1 h with rfl | h1
        · obtain ⟨h2, h3⟩ := ih q (by simp)
          refine ⟨by simpa using h2, ?_⟩
          intro hc
          rcases List.mem_cons.1 hc with h4 | h4
          · exact hb h4.symm
          · exact h3 h4
        · obtain ⟨h2, h3⟩ := ih p (by simp [h1]); exact ⟨by simp; omega, h3⟩
/-- the first i pieces joined, as the law joins them -/
def jk (c : UInt8) (L : List ByteArray) : Nat → ByteArray
  | 0 => mkB []
  | i + 1 => (if 0 < i then jk c L i ++ mkB [c] else jk c L i) ++ L.getD i ⟨#[]⟩
theorem jk_eq (c : UInt8) (L : List ByteArray) : ∀ i, i ≤ L.length → jk c L i = mkB (jl c ((L.take i).map fun p => p.data.toList))
  | 0, _ => rfl
  | i + 1, h => by
    have ih := jk_eq c L i (by omega)
    have hg : L.getD i ⟨#[]⟩ = L[i]'(by omega) := by rw [List.getD_eq_getElem?_getD, List.getElem?_eq_getElem (by omega), Option.getD_some]
    have ht : L.take (i + 1) = L.take i ++ [L[i]'(by omega)] := by rw [List.take_add_one, List.getElem?_eq_getElem (by omega)]; rfl
    rw [jk, ih, hg, ht, List.map_append]
    by_cases hi : 0 < i
    · rw [if_pos hi]
      have hne : ((L.take i).map fun p => p.data.toList) ≠ [] := by
        intro e
        have := congrArg List.length e
        rw [List.length_map, List.length_take, List.length_nil] at this
        omega
      rw [List.map_cons, List.map_nil, jl_snoc c _ _ hne, mkB_append]
      apply ba_ext
      have e2 := mkB_append (jl c (List.map (fun p => p.data.toList) (List.take i L)) ++ [c]) (L[i]'(by omega)).data.toList
      rw [mkB_self] at e2
      rw [e2, mkB_data, mkB_data]; simp
    · obtain rfl : i = 0 := by omega
      rw [if_neg hi]
      simp only [List.take_zero, List.map_nil, List.nil_append, List.map_cons, jl]
      rw [empty_app, mkB_self]
theorem jk_all (c : UInt8) (s : ByteArray) : jk c (pcs c s) (pcs c s).length = s := by
  rw [jk_eq c _ _ (Nat.le_refl _), List.take_length]
  unfold pcs
  rw [List.map_map]
  have : ((fun p : ByteArray => p.data.toList) ∘ mkB) = id := by funext l; rfl
  rw [this, List.map_id, jl_split, mkB_self]
theorem jk_one {c : UInt8} {L : List ByteArray} : jk c L 1 = mkB [] ++ L.getD 0 ⟨#[]⟩ := rfl
theorem jk_more {c : UInt8} {L : List ByteArray} {i : Nat} (h : 0 < i) : jk c L (i + 1) = jk c L i ++ mkB [c] ++ L.getD i ⟨#[]⟩ := by rw [jk, if_pos h]
theorem pcs_piece (c : UInt8) (s : ByteArray) (i : Nat) (hi : i < (pcs c s).length) : ((pcs c s).getD i ⟨#[]⟩).size ≤ s.size ∧ c ∉ ((pcs c s).getD i ⟨#[]⟩).data.toList := by
  have hg : (pcs c s).getD i ⟨#[]⟩ ∈ pcs c s := by
    rw [List.getD_eq_getElem?_getD, List.getElem?_eq_getElem hi, Option.getD_some]; exact List.getElem_mem hi
  obtain ⟨l, hl, e⟩ := List.mem_map.1 hg
  rw [← e]
  obtain ⟨h1, h2⟩ := split_small c _ l hl
  exact ⟨by rw [mkB_size, Lib.size_eq]; exact h1, h2⟩
theorem piece_not {p : ByteArray} {y : Int} (hy : 0 ≤ y ∧ y ≤ 255) (h : cb y ∉ p.data.toList) (j : Nat) (hj : j < p.size) : (sb p j == y) = false := by
  have hj' : j < p.data.toList.length := by rw [← Lib.size_eq]; exact hj
  have : ¬ sb p j = y := fun e => h (by rw [← (cb_iff hy hj').2 e]; exact List.getElem_mem hj')
  simpa using this
theorem jk_size (c : UInt8) (L : List ByteArray) (h : ∀ i, i < L.length → (L.getD i ⟨#[]⟩).size ≤ 300) : ∀ i, i ≤ L.length → (jk c L i).size ≤ 301 * i
  | 0, _ => by rw [jk, mkB_size]; simp
  | i + 1, hi => by
    have ih := jk_size c L h i (by omega)
    have h1 := h i (by omega)
    rw [jk, ByteArray.size_append]
    split
    · rw [ByteArray.size_append, mkB_size, List.length_cons, List.length_nil]; omega
    · omega
end Go.Proofs.YtdoedkgidcoibaaDoor
