/- What merkle reckons: cut sums, nodes, where a list is cut, roots, paths and growths: no walk. -/
import Derived.Test.YtaphbenkkicbhaaDoorBlockMath
namespace Go.Proofs.YtaphbenkkicbhaaDoor
open Go.RowKit
set_option linter.unusedVariables false

/-- a digest -/
def Dg (d : List Int) : Prop := d.length = 32 ∧ Byt d
def Dgl (L : List (List Int)) : Prop := ∀ d ∈ L, Dg d
theorem Dgl.take {L : List (List Int)} (h : Dgl L) (n : Nat) : Dgl (L.take n) := fun d hd => h d (List.mem_of_mem_take hd)
theorem Dgl.drop {L : List (List Int)} (h : Dgl L) (n : Nat) : Dgl (L.drop n) := fun d hd => h d (List.mem_of_mem_drop hd)
theorem Dgl.append {L M : List (List Int)} (h : Dgl L) (k : Dgl M) : Dgl (L ++ M) := by
  intro d hd; rcases List.mem_append.1 hd with h' | h'
  · exact h d h'
  · exact k d h'
theorem Dgl.one {d : List Int} (h : Dg d) : Dgl [d] := by intro c hc; simp at hc; rw [hc]; exact h
theorem Dgl.nil : Dgl [] := by intro c hc; cases hc
theorem Dgl.getD {L : List (List Int)} (h : Dgl L) (i : Nat) (hi : i < L.length) : Dg (L.getD i []) := by
  rw [List.getD_eq_getElem?_getD, List.getElem?_eq_getElem hi]; exact h _ (List.getElem_mem hi)

/-- the first k bits of a byte -/
def bc (c : Int) (k : Nat) : Int := ((c.toNat / 2 ^ (8 - k) * 2 ^ (8 - k) : Nat) : Int)
theorem bc_b {c : Int} (h : 0 ≤ c ∧ c ≤ 255) (k : Nat) : 0 ≤ bc c k ∧ bc c k ≤ 255 := by
  have := Nat.div_mul_le_self c.toNat (2 ^ (8 - k))
  unfold bc; omega
theorem bc_zero {c : Int} (h : 0 ≤ c ∧ c ≤ 255) : bc c 0 = 0 := by
  unfold bc; rw [Nat.div_eq_of_lt (by simp; omega)]; rfl
theorem bc_eight {c : Int} (h : 0 ≤ c ∧ c ≤ 255) : bc c 8 = c := by
  unfold bc; simp; omega
/-- the first n bits of a digest -/
def cutN (d : List Int) (n : Nat) : List Int := (List.range 32).map fun j => bc (d.getD j 0) (min (n - 8 * j) 8)
theorem cutN_length (d : List Int) (n : Nat) : (cutN d n).length = 32 := by simp [cutN]
theorem cutN_getD (d : List Int) (n j : Nat) (hj : j < 32) : (cutN d n).getD j 0 = bc (d.getD j 0) (min (n - 8 * j) 8) := by
  unfold cutN; rw [List.getD_eq_getElem?_getD, List.getElem?_map, List.getElem?_range hj]; rfl
theorem cutN_dg {d : List Int} (h : Byt d) (n : Nat) : Dg (cutN d n) := by
  refine ⟨cutN_length d n, fun c hc => ?_⟩
  obtain ⟨j, _, rfl⟩ := List.mem_map.1 hc
  exact bc_b (h.getD j) _
/-- how many bits are kept -/
def nb (w : Int) : Nat := (min (max w 0) 256).toNat
theorem nb_le (w : Int) : nb w ≤ 256 := by unfold nb; omega
def cutL (d : List Int) (w : Int) : List Int := cutN d (nb w)
theorem cutL_dg {d : List Int} (h : Byt d) (w : Int) : Dg (cutL d w) := cutN_dg h _
theorem sum_byt (b : List Int) : Byt (sumL b) := digL_byt _
def leafL (b : List Int) (w : Int) : List Int := cutL (sumL (0 :: b)) w
def nodeL (x y : List Int) (w : Int) : List Int := cutL (sumL (1 :: (x ++ y))) w
theorem leafL_dg (b : List Int) (w : Int) : Dg (leafL b w) := cutL_dg (sum_byt _) w
theorem nodeL_dg (x y : List Int) (w : Int) : Dg (nodeL x y w) := cutL_dg (sum_byt _) w
/-- a byte's bits, one more -/
theorem bc_more : ∀ c : Fin 256, ∀ r : Fin 8, bc (c.val : Int) (r.val + 1) = bc (c.val : Int) r.val + (if c.val &&& (128 >>> r.val) = 0 then (0 : Int) else ((128 >>> r.val : Nat) : Int)) := by decide +kernel
theorem set_cut (d : List Int) (hd : Dg d) (n : Nat) (hn : n < 256) : (cutN d n).set (n / 8) (bc (d.getD (n / 8) 0) (n % 8 + 1)) = cutN d (n + 1) := by
  apply List.ext_getElem?
  intro j
  by_cases hj : j < 32
  · have e1 : (cutN d (n + 1))[j]? = some (bc (d.getD j 0) (min (n + 1 - 8 * j) 8)) := by unfold cutN; rw [List.getElem?_map, List.getElem?_range hj]; rfl
    have e2 : (cutN d n)[j]? = some (bc (d.getD j 0) (min (n - 8 * j) 8)) := by unfold cutN; rw [List.getElem?_map, List.getElem?_range hj]; rfl
    rw [e1, List.getElem?_set]
    by_cases h : n / 8 = j
    · rw [if_pos h, if_pos (by rw [cutN_length]; omega), h, show min (n + 1 - 8 * j) 8 = n % 8 + 1 from by omega]
    · rw [if_neg h, e2]
      by_cases h2 : j < n / 8
      · rw [show min (n + 1 - 8 * j) 8 = 8 from by omega, show min (n - 8 * j) 8 = 8 from by omega]
      · rw [show min (n + 1 - 8 * j) 8 = 0 from by omega, show min (n - 8 * j) 8 = 0 from by omega]
  · rw [List.getElem?_eq_none (by rw [List.length_set, cutN_length]; omega), List.getElem?_eq_none (by rw [cutN_length]; omega)]
theorem cutN_same (d : List Int) (n : Nat) (hn : n < 256) (h : bc (d.getD (n / 8) 0) (n % 8 + 1) = bc (d.getD (n / 8) 0) (n % 8)) (hd : Dg d) : cutN d n = cutN d (n + 1) := by
  rw [← set_cut d hd n hn, h]
  apply List.ext_getElem?
  intro j
  rw [List.getElem?_set]
  by_cases hj : n / 8 = j
  · rw [if_pos hj, if_pos (by rw [cutN_length]; omega), ← hj]
    unfold cutN; rw [List.getElem?_map, List.getElem?_range (by omega)]
    show some (bc _ (min (n - 8 * (n / 8)) 8)) = _
    rw [show min (n - 8 * (n / 8)) 8 = n % 8 from by omega]
  · rw [if_neg hj]
theorem cutN_zero (d : List Int) (hd : Dg d) : cutN d 0 = List.replicate 32 0 := by
  apply List.ext_getElem?
  intro j
  by_cases hj : j < 32
  · unfold cutN
    rw [List.getElem?_map, List.getElem?_range hj, List.getElem?_replicate, if_pos hj]
    show some (bc _ (min (0 - 8 * j) 8)) = _
    rw [show min (0 - 8 * j) 8 = 0 from by omega, bc_zero (hd.2.getD j)]
  · rw [List.getElem?_eq_none (by rw [cutN_length]; omega), List.getElem?_eq_none (by simp; omega)]

/-- where a list of n is cut -/
def splitN (n : Nat) : Nat := if n < 2 then 0 else 2 ^ Nat.log2 (n - 1)
theorem splitN_pos {n : Nat} (h : 2 ≤ n) : 1 ≤ splitN n := by
  unfold splitN; rw [if_neg (by omega)]; exact Nat.one_le_two_pow
theorem splitN_lt {n : Nat} (h : 1 ≤ n) : splitN n < n := by
  unfold splitN
  by_cases h2 : n < 2
  · rw [if_pos h2]; omega
  · rw [if_neg h2]
    have := Nat.log2_self_le (n := n - 1) (by omega)
    omega
theorem splitN_half {n : Nat} (h : 2 ≤ n) : n ≤ 2 * splitN n := by
  unfold splitN; rw [if_neg (by omega)]
  have := Nat.lt_log2_self (n := n - 1)
  rw [Nat.pow_succ] at this
  omega
theorem splitN_of {n j : Nat} (h1 : 2 ^ j < n) (h2 : n ≤ 2 ^ (j + 1)) : splitN n = 2 ^ j := by
  have := Nat.one_le_two_pow (n := j)
  unfold splitN; rw [if_neg (by omega)]
  have e : Nat.log2 (n - 1) = j := (Nat.log2_eq_iff (by omega)).2 ⟨by omega, by omega⟩
  rw [e]
theorem splitN_pow {n : Nat} (h : 2 ≤ n) : ∃ j, splitN n = 2 ^ j := ⟨_, by unfold splitN; rw [if_neg (by omega)]⟩
theorem splitN_le {n b : Nat} (h : 2 ≤ n) (hb : n ≤ 2 ^ b) : ∃ c, b = c + 1 ∧ splitN n ≤ 2 ^ c := by
  obtain ⟨j, hj⟩ := splitN_pow h
  have h1 := splitN_lt (n := n) (by omega)
  rw [hj] at h1
  have h2 : j < b := (Nat.pow_lt_pow_iff_right (by decide : 1 < 2)).1 (by omega)
  refine ⟨b - 1, by omega, ?_⟩
  rw [hj]
  exact Nat.pow_le_pow_right (by decide) (by omega)
/-- the root of a list -/
def rootL (L : List (List Int)) (w : Int) : List Int :=
  if L.length = 0 then cutL (sumL []) w
  else if h : L.length = 1 then L.getD 0 []
  else nodeL (rootL (L.take (splitN L.length)) w) (rootL (L.drop (splitN L.length)) w) w
  termination_by L.length
  decreasing_by
    · have := splitN_lt (n := L.length) (by omega)
      rw [List.length_take]; omega
    · have := splitN_pos (n := L.length) (by omega)
      rw [List.length_drop]; omega
theorem rootL_nil (w : Int) : rootL [] w = cutL (sumL []) w := by rw [rootL]; rfl
theorem rootL_one (L : List (List Int)) (w : Int) (h : L.length = 1) : rootL L w = L.getD 0 [] := by rw [rootL, if_neg (by omega), dif_pos h]
theorem rootL_more (L : List (List Int)) (w : Int) (h : 2 ≤ L.length) : rootL L w = nodeL (rootL (L.take (splitN L.length)) w) (rootL (L.drop (splitN L.length)) w) w := by rw [rootL, if_neg (by omega), dif_neg (by omega)]
theorem rootL_dg (L : List (List Int)) (w : Int) (h : Dgl L) : Dg (rootL L w) := by
  by_cases h0 : L.length = 0
  · rw [List.length_eq_zero_iff.1 h0, rootL_nil]; exact cutL_dg (sum_byt _) w
  · by_cases h1 : L.length = 1
    · rw [rootL_one L w h1]; exact h.getD 0 (by omega)
    · rw [rootL_more L w (by omega)]; exact nodeL_dg _ _ _
/-- the path of a place -/
def pathL (L : List (List Int)) (i : Nat) (w : Int) : List (List Int) :=
  if h : L.length ≤ 1 then []
  else if i < splitN L.length then pathL (L.take (splitN L.length)) i w ++ [rootL (L.drop (splitN L.length)) w]
  else pathL (L.drop (splitN L.length)) (i - splitN L.length) w ++ [rootL (L.take (splitN L.length)) w]
  termination_by L.length
  decreasing_by
    · have := splitN_lt (n := L.length) (by omega)
      rw [List.length_take]; omega
    · have := splitN_pos (n := L.length) (by omega)
      rw [List.length_drop]; omega
theorem pathL_one (L : List (List Int)) (i : Nat) (w : Int) (h : L.length ≤ 1) : pathL L i w = [] := by rw [pathL, dif_pos h]
theorem pathL_left (L : List (List Int)) (i : Nat) (w : Int) (h : 2 ≤ L.length) (hi : i < splitN L.length) : pathL L i w = pathL (L.take (splitN L.length)) i w ++ [rootL (L.drop (splitN L.length)) w] := by
  rw [pathL, dif_neg (by omega), if_pos hi]
theorem pathL_right (L : List (List Int)) (i : Nat) (w : Int) (h : 2 ≤ L.length) (hi : ¬ i < splitN L.length) : pathL L i w = pathL (L.drop (splitN L.length)) (i - splitN L.length) w ++ [rootL (L.take (splitN L.length)) w] := by
  rw [pathL, dif_neg (by omega), if_neg hi]
/-- the growth from a beginning -/
def growL (L : List (List Int)) (m : Nat) (whole : Bool) (w : Int) : List (List Int) :=
  if h : L.length ≤ m ∨ m = 0 then (if whole then [] else [rootL L w])
  else if m ≤ splitN L.length then growL (L.take (splitN L.length)) m whole w ++ [rootL (L.drop (splitN L.length)) w]
  else growL (L.drop (splitN L.length)) (m - splitN L.length) false w ++ [rootL (L.take (splitN L.length)) w]
  termination_by L.length
  decreasing_by
    · have := splitN_lt (n := L.length) (by omega)
      rw [List.length_take]; omega
    · have := splitN_pos (n := L.length) (by omega)
      rw [List.length_drop]; omega
theorem growL_all (L : List (List Int)) (w : Int) : growL L L.length true w = [] := by rw [growL, dif_pos (.inl (Nat.le_refl _))]; rfl
theorem growL_some (L : List (List Int)) (w : Int) : growL L L.length false w = [rootL L w] := by rw [growL, dif_pos (.inl (Nat.le_refl _))]; rfl
theorem growL_left (L : List (List Int)) (m : Nat) (b : Bool) (w : Int) (h1 : 1 ≤ m) (h : m < L.length) (hm : m ≤ splitN L.length) : growL L m b w = growL (L.take (splitN L.length)) m b w ++ [rootL (L.drop (splitN L.length)) w] := by
  rw [growL, dif_neg (by omega), if_pos hm]
theorem growL_right (L : List (List Int)) (m : Nat) (b : Bool) (w : Int) (h : m < L.length) (hm : ¬ m ≤ splitN L.length) : growL L m b w = growL (L.drop (splitN L.length)) (m - splitN L.length) false w ++ [rootL (L.take (splitN L.length)) w] := by
  rw [growL, dif_neg (by omega), if_neg hm]
theorem take_len (L : List (List Int)) (h : 1 ≤ L.length) : (L.take (splitN L.length)).length = splitN L.length := by
  have := splitN_lt h
  rw [List.length_take]; omega
theorem pathL_dg (n : Nat) : ∀ (L : List (List Int)) (i : Nat) (w : Int), L.length ≤ n → Dgl L → Dgl (pathL L i w) := by
  induction n with
  | zero => intro L i w hn _; rw [pathL_one L i w (by omega)]; exact Dgl.nil
  | succ n ih =>
    intro L i w hn h
    by_cases h1 : L.length ≤ 1
    · rw [pathL_one L i w h1]; exact Dgl.nil
    · have hp := splitN_pos (n := L.length) (by omega)
      have hlt := splitN_lt (n := L.length) (by omega)
      by_cases hi : i < splitN L.length
      · rw [pathL_left L i w (by omega) hi]
        exact (ih _ i w (by rw [List.length_take]; omega) (h.take _)).append (Dgl.one (rootL_dg _ _ (h.drop _)))
      · rw [pathL_right L i w (by omega) hi]
        exact (ih _ _ w (by rw [List.length_drop]; omega) (h.drop _)).append (Dgl.one (rootL_dg _ _ (h.take _)))
theorem growL_dg (n : Nat) : ∀ (L : List (List Int)) (m : Nat) (b : Bool) (w : Int), L.length ≤ n → 1 ≤ m → m ≤ L.length → Dgl L → Dgl (growL L m b w) := by
  induction n with
  | zero => intro L m b w hn h1 h2 _; omega
  | succ n ih =>
    intro L m b w hn h1 h2 h
    by_cases hm : m = L.length
    · subst hm
      cases b
      · rw [growL_some]; exact Dgl.one (rootL_dg _ _ h)
      · rw [growL_all]; exact Dgl.nil
    · have hp := splitN_pos (n := L.length) (by omega)
      have hlt := splitN_lt (n := L.length) (by omega)
      by_cases hi : m ≤ splitN L.length
      · rw [growL_left L m b w h1 (by omega) hi]
        exact (ih _ m b w (by rw [List.length_take]; omega) h1 (by rw [List.length_take]; omega) (h.take _)).append (Dgl.one (rootL_dg _ _ (h.drop _)))
      · rw [growL_right L m b w (by omega) hi]
        exact (ih _ _ false w (by rw [List.length_drop]; omega) (by omega) (by rw [List.length_drop]; omega) (h.drop _)).append (Dgl.one (rootL_dg _ _ (h.take _)))
/-- lists shorter than 2^40 have paths no longer than themselves -/
theorem pathL_len (n : Nat) : ∀ (L : List (List Int)) (i : Nat) (w : Int), L.length ≤ n → (pathL L i w).length ≤ n := by
  induction n with
  | zero => intro L i w hn; rw [pathL_one L i w (by omega)]; exact Nat.zero_le _
  | succ n ih =>
    intro L i w hn
    by_cases h1 : L.length ≤ 1
    · rw [pathL_one L i w h1]; exact Nat.zero_le _
    · have hp := splitN_pos (n := L.length) (by omega)
      have hlt := splitN_lt (n := L.length) (by omega)
      by_cases hi : i < splitN L.length
      · rw [pathL_left L i w (by omega) hi, List.length_append]
        have := ih (L.take (splitN L.length)) i w (by rw [List.length_take]; omega)
        simp; omega
      · rw [pathL_right L i w (by omega) hi, List.length_append]
        have := ih (L.drop (splitN L.length)) (i - splitN L.length) w (by rw [List.length_drop]; omega)
        simp; omega
theorem growL_len (n : Nat) : ∀ (L : List (List Int)) (m : Nat) (b : Bool) (w : Int), L.length ≤ n → 1 ≤ m → m ≤ L.length → (growL L m b w).length ≤ n := by
  induction n with
  | zero => intro L m b w hn h1 h2; omega
  | succ n ih =>
    intro L m b w hn h1 h2
    by_cases hm : m = L.length
    · subst hm
      cases b
      · rw [growL_some]; simp
      · rw [growL_all]; simp
    · have hp := splitN_pos (n := L.length) (by omega)
      have hlt := splitN_lt (n := L.length) (by omega)
      by_cases hi : m ≤ splitN L.length
      · rw [growL_left L m b w h1 (by omega) hi, List.length_append]
        have := ih (L.take (splitN L.length)) m b w (by rw [List.length_take]; omega) h1 (by rw [List.length_take]; omega)
        simp; omega
      · rw [growL_right L m b w (by omega) hi, List.length_append]
        have := ih (L.drop (splitN L.length)) (m - splitN L.length) false w (by rw [List.length_drop]; omega) (by omega) (by rw [List.length_drop]; omega)
        simp; omega
end Go.Proofs.YtaphbenkkicbhaaDoor
