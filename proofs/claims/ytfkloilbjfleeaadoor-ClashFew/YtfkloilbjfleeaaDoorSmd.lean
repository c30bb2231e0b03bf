/- What merkle reckons: cut sums, nodes, where a list is cut, roots, paths and growths: no walk. Which paths and growths are taken, and that those made are: no walk. What clash reckons: leaves of texts, which texts clash, the first clash on two ways up; that there is one where two ways lead to one root and part: no walk. -/
import Derived.Test.YtfkloilbjfleeaaDoorSma
namespace Go.Proofs.YtfkloilbjfleeaaDoor
open Go.RowKit
set_option linter.unusedVariables false

/-- a digest -/
def Dg (d : List Int) : Prop := d.length = 32 ∧ Byt d
def Dgl (L : List (List Int)) : Prop := ∀ d ∈ L, Dg d
theorem Dgl.take {L : List (List Int)} (h : Dgl L) (n : Nat) : Dgl (L.take n) := fun d hd => h d (List.mem_of_mem_take hd)
theorem Dgl.drop {L : List (List Int)} (h : Dgl L) (n : Nat) : Dgl (L.drop n) := fun d hd => h d (List.mem_of_mem_drop hd)
theorem Dgl.append {L M : List (List Int)} (h : Dgl L) (k : Dgl M) : Dgl (L ++ M) := by
  intro d hd; rcases List.mem_append.1 hd with h' | h'
  · exact h d h'
  · exact k d h'
theorem Dgl.one {d : List Int} (h : Dg d) : Dgl [d] := by intro c hc; simp at hc; rw [hc]; exact h
theorem Dgl.nil : Dgl [] := by intro c hc; cases hc
theorem Dgl.getD {L : List (List Int)} (h : Dgl L) (i : Nat) (hi : i < L.length) : Dg (L.getD i []) := by
  rw [List.getD_eq_getElem?_getD, List.getElem?_eq_getElem hi]; exact h _ (List.getElem_mem hi)

/-- the first k bits of a byte -/
def bc (c : Int) (k : Nat) : Int := ((c.toNat / 2 ^ (8 - k) * 2 ^ (8 - k) : Nat) : Int)
theorem bc_b {c : Int} (h : 0 ≤ c ∧ c ≤ 255) (k : Nat) : 0 ≤ bc c k ∧ bc c k ≤ 255 := by
  have := Nat.div_mul_le_self c.toNat (2 ^ (8 - k))
  unfold bc; omega
theorem bc_zero {c : Int} (h : 0 ≤ c ∧ c ≤ 255) : bc c 0 = 0 := by
  unfold bc; rw [Nat.div_eq_of_lt (by simp; omega)]; rfl
theorem bc_eight {c : Int} (h : 0 ≤ c ∧ c ≤ 255) : bc c 8 = c := by
  unfold bc; simp; omega
/-- the first n bits of a digest -/
def cutN (d : List Int) (n : Nat) : List Int := (List.range 32).map fun j => bc (d.getD j 0) (min (n - 8 * j) 8)
theorem cutN_length (d : List Int) (n : Nat) : (cutN d n).length = 32 := by simp [cutN]
theorem cutN_getD (d : List Int) (n j : Nat) (hj : j < 32) : (cutN d n).getD j 0 = bc (d.getD j 0) (min (n - 8 * j) 8) := by
  unfold cutN; rw [List.getD_eq_getElem?_getD, List.getElem?_map, List.getElem?_range hj]; rfl
theorem cutN_dg {d : List Int} (h : Byt d) (n : Nat) : Dg (cutN d n) := by
  refine ⟨cutN_length d n, fun c hc => ?_⟩
  obtain ⟨j, _, rfl⟩ := List.mem_map.1 hc
  exact bc_b (h.getD j) _
/-- how many bits are kept -/
def nb (w : Int) : Nat := (min (max w 0) 256).toNat
theorem nb_le (w : Int) : nb w ≤ 256 := by unfold nb; omega
def cutL (d : List Int) (w : Int) : List Int := cutN d (nb w)
theorem cutL_dg {d : List Int} (h : Byt d) (w : Int) : Dg (cutL d w) := cutN_dg h _
theorem sum_byt (b : List Int) : Byt (sumL b) := digL_byt _
def leafL (b : List Int) (w : Int) : List Int := cutL (sumL (0 :: b)) w
def nodeL (x y : List Int) (w : Int) : List Int := cutL (sumL (1 :: (x ++ y))) w
theorem leafL_dg (b : List Int) (w : Int) : Dg (leafL b w) := cutL_dg (sum_byt _) w
theorem nodeL_dg (x y : List Int) (w : Int) : Dg (nodeL x y w) := cutL_dg (sum_byt _) w
/-- a byte's bits, one more -/
theorem bc_more : ∀ c : Fin 256, ∀ r : Fin 8, bc (c.val : Int) (r.val + 1) = bc (c.val : Int) r.val + (if c.val &&& (128 >>> r.val) = 0 then (0 : Int) else ((128 >>> r.val : Nat) : Int)) := by decide +kernel
theorem set_cut (d : List Int) (hd : Dg d) (n : Nat) (hn : n < 256) : (cutN d n).set (n / 8) (bc (d.getD (n / 8) 0) (n % 8 + 1)) = cutN d (n + 1) := by
  apply List.ext_getElem?
  intro j
  by_cases hj : j < 32
  · have e1 : (cutN d (n + 1))[j]? = some (bc (d.getD j 0) (min (n + 1 - 8 * j) 8)) := by unfold cutN; rw [List.getElem?_map, List.getElem?_range hj]; rfl
    have e2 : (cutN d n)[j]? = some (bc (d.getD j 0) (min (n - 8 * j) 8)) := by unfold cutN; rw [List.getElem?_map, List.getElem?_range hj]; rfl
    rw [e1, List.getElem?_set]
    by_cases h : n / 8 = j
    · rw [if_pos h, if_pos (by rw [cutN_length]; omega), h, show min (n + 1 - 8 * j) 8 = n % 8 + 1 from by omega]
    · rw [if_neg h, e2]
      by_cases h2 : j < n / 8
      · rw [show min (n + 1 - 8 * j) 8 = 8 from by omega, show min (n - 8 * j) 8 = 8 from by omega]
      · rw [show min (n + 1 - 8 * j) 8 = 0 from by omega, show min (n - 8 * j) 8 = 0 from by omega]
  · rw [List.getElem?_eq_none (by rw [List.length_set, cutN_length]; omega), List.getElem?_eq_none (by rw [cutN_length]; omega)]
theorem cutN_same (d : List Int) (n : Nat) (hn : n < 256) (h : bc (d.getD (n / 8) 0) (n % 8 + 1) = bc (d.getD (n / 8) 0) (n % 8)) (hd : Dg d) : cutN d n = cutN d (n + 1) := by
  rw [← set_cut d hd n hn, h]
  apply List.ext_getElem?
  intro j
  rw [List.getElem?_set]
  by_cases hj : n / 8 = j
  · rw [if_pos hj, if_pos (by rw [cutN_length]; omega), ← hj]
    unfold cutN; rw [List.getElem?_map, List.getElem?_range (by omega)]
    show some (bc _ (min (n - 8 * (n / 8)) 8)) = _
    rw [show min (n - 8 * (n / 8)) 8 = n % 8 from by omega]
  · rw [if_neg hj]
theorem cutN_zero (d : List Int) (hd : Dg d) : cutN d 0 = List.replicate 32 0 := by
  apply List.ext_getElem?
  intro j
  by_cases hj : j < 32
  · unfold cutN
    rw [List.getElem?_map, List.getElem?_range hj, List.getElem?_replicate, if_pos hj]
    show some (bc _ (min (0 - 8 * j) 8)) = _
    rw [show min (0 - 8 * j) 8 = 0 from by omega, bc_zero (hd.2.getD j)]
  · rw [List.getElem?_eq_none (by rw [cutN_length]; omega), List.getElem?_eq_none (by simp; omega)]

/-- where a list of n is cut -/
def splitN (n : Nat) : Nat := if n < 2 then 0 else 2 ^ Nat.log2 (n - 1)
theorem splitN_pos {n : Nat} (h : 2 ≤ n) : 1 ≤ splitN n := by
  unfold splitN; rw [if_neg (by omega)]; exact Nat.one_le_two_pow
theorem splitN_lt {n : Nat} (h : 1 ≤ n) : splitN n < n := by
  unfold splitN
  by_cases h2 : n < 2
  · rw [if_pos h2]; omega
  · rw [if_neg h2]
    have := Nat.log2_self_le (n := n - 1) (by omega)
    omega
theorem splitN_half {n : Nat} (h : 2 ≤ n) : n ≤ 2 * splitN n := by
  unfold splitN; rw [if_neg (by omega)]
  have := Nat.lt_log2_self (n := n - 1)
  rw [Nat.pow_succ] at this
  omega
theorem splitN_of {n j : Nat} (h1 : 2 ^ j < n) (h2 : n ≤ 2 ^ (j + 1)) : splitN n = 2 ^ j := by
  have := Nat.one_le_two_pow (n := j)
  unfold splitN; rw [if_neg (by omega)]
  have e : Nat.log2 (n - 1) = j := (Nat.log2_eq_iff (by omega)).2 ⟨by omega, by omega⟩
  rw [e]
theorem splitN_pow {n : Nat} (h : 2 ≤ n) : ∃ j, splitN n = 2 ^ j := ⟨_, by unfold splitN; rw [if_neg (by omega)]⟩
theorem splitN_le {n b : Nat} (h : 2 ≤ n) (hb : n ≤ 2 ^ b) : ∃ c, b = c + 1 ∧ splitN n ≤ 2 ^ c := by
  obtain ⟨j, hj⟩ := splitN_pow h
  have h1 := splitN_lt (n := n) (by omega)
  rw [hj] at h1
  have h2 : j < b := (Nat.pow_lt_pow_iff_right (by decide : 1 < 2)).1 (by omega)
  refine ⟨b - 1, by omega, ?_⟩
  rw [hj]
  exact Nat.pow_le_pow_right (by decide) (by omega)
/-- the root of a list -/
def rootL (L : List (List Int)) (w : Int) : List Int :=
  if L.length = 0 then cutL (sumL []) w
  else if h : L.length = 1 then L.getD 0 []
  else nodeL (rootL (L.take (splitN L.length)) w) (rootL (L.drop (splitN L.length)) w) w
  termination_by L.length
  decreasing_by
    · have := splitN_lt (n := L.length) (by omega)
      rw [List.length_take]; omega
    · have := splitN_pos (n := L.length) (by omega)
      rw [List.length_drop]; omega
theorem rootL_nil (w : Int) : rootL [] w = cutL (sumL []) w := by rw [rootL]; rfl
theorem rootL_one (L : List (List Int)) (w : Int) (h : L.length = 1) : rootL L w = L.getD 0 [] := by rw [rootL, if_neg (by omega), dif_pos h]
theorem rootL_more (L : List (List Int)) (w : Int) (h : 2 ≤ L.length) : rootL L w = nodeL (rootL (L.take (splitN L.length)) w) (rootL (L.drop (splitN L.length)) w) w := by rw [rootL, if_neg (by omega), dif_neg (by omega)]
theorem rootL_dg (L : List (List Int)) (w : Int) (h : Dgl L) : Dg (rootL L w) := by
  by_cases h0 : L.length = 0
  · rw [List.length_eq_zero_iff.1 h0, rootL_nil]; exact cutL_dg (sum_byt _) w
  · by_cases h1 : L.length = 1
    · rw [rootL_one L w h1]; exact h.getD 0 (by omega)
    · rw [rootL_more L w (by omega)]; exact nodeL_dg _ _ _
/-- the path of a place -/
def pathL (L : List (List Int)) (i : Nat) (w : Int) : List (List Int) :=
  if h : L.length ≤ 1 then []
  else if i < splitN L.length then pathL (L.take (splitN L.length)) i w ++ [rootL (L.drop (splitN L.length)) w]
  else pathL (L.drop (splitN L.length)) (i - splitN L.length) w ++ [rootL (L.take (splitN L.length)) w]
  termination_by L.length
  decreasing_by
    · have := splitN_lt (n := L.length) (by omega)
      rw [List.length_take]; omega
    · have := splitN_pos (n := L.length) (by omega)
      rw [List.length_drop]; omega
theorem pathL_one (L : List (List Int)) (i : Nat) (w : Int) (h : L.length ≤ 1) : pathL L i w = [] := by rw [pathL, dif_pos h]
theorem pathL_left (L : List (List Int)) (i : Nat) (w : Int) (h : 2 ≤ L.length) (hi : i < splitN L.length) : pathL L i w = pathL (L.take (splitN L.length)) i w ++ [rootL (L.drop (splitN L.length)) w] := by
  rw [pathL, dif_neg (by omega), if_pos hi]
theorem pathL_right (L : List (List Int)) (i : Nat) (w : Int) (h : 2 ≤ L.length) (hi : ¬ i < splitN L.length) : pathL L i w = pathL (L.drop (splitN L.length)) (i - splitN L.length) w ++ [rootL (L.take (splitN L.length)) w] := by
  rw [pathL, dif_neg (by omega), if_neg hi]
/-- the growth from a beginning -/
def growL (L : List (List Int)) (m : Nat) (whole : Bool) (w : Int) : List (List Int) :=
  if h : L.length ≤ m ∨ m = 0 then (if whole then [] else [rootL L w])
  else if m ≤ splitN L.length then growL (L.take (splitN L.length)) m whole w ++ [rootL (L.drop (splitN L.length)) w]
  else growL (L.drop (splitN L.length)) (m - splitN L.length) false w ++ [rootL (L.take (splitN L.length)) w]
  termination_by L.length
  decreasing_by
    · have := splitN_lt (n := L.length) (by omega)
      rw [List.length_take]; omega
    · have := splitN_pos (n := L.length) (by omega)
      rw [List.length_drop]; omega
theorem growL_all (L : List (List Int)) (w : Int) : growL L L.length true w = [] := by rw [growL, dif_pos (.inl (Nat.le_refl _))]; rfl
theorem growL_some (L : List (List Int)) (w : Int) : growL L L.length false w = [rootL L w] := by rw [growL, dif_pos (.inl (Nat.le_refl _))]; rfl
theorem growL_left (L : List (List Int)) (m : Nat) (b : Bool) (w : Int) (h1 : 1 ≤ m) (h : m < L.length) (hm : m ≤ splitN L.length) : growL L m b w = growL (L.take (splitN L.length)) m b w ++ [rootL (L.drop (splitN L.length)) w] := by
  rw [growL, dif_neg (by omega), if_pos hm]
theorem growL_right (L : List (List Int)) (m : Nat) (b : Bool) (w : Int) (h : m < L.length) (hm : ¬ m ≤ splitN L.length) : growL L m b w = growL (L.drop (splitN L.length)) (m - splitN L.length) false w ++ [rootL (L.take (splitN L.length)) w] := by
  rw [growL, dif_neg (by omega), if_neg hm]
theorem take_len (L : List (List Int)) (h : 1 ≤ L.length) : (L.take (splitN L.length)).length = splitN L.length := by
  have := splitN_lt h
  rw [List.length_take]; omega
theorem pathL_dg (n : Nat) : ∀ (L : List (List Int)) (i : Nat) (w : Int), L.length ≤ n → Dgl L → Dgl (pathL L i w) := by
  induction n with
  | zero => intro L i w hn _; rw [pathL_one L i w (by omega)]; exact Dgl.nil
  | succ n ih =>
    intro L i w hn h
    by_cases h1 : L.length ≤ 1
    · rw [pathL_one L i w h1]; exact Dgl.nil
    · have hp := splitN_pos (n := L.length) (by omega)
      have hlt := splitN_lt (n := L.length) (by omega)
      by_cases hi : i < splitN L.length
      · rw [pathL_left L i w (by omega) hi]
        exact (ih _ i w (by rw [List.length_take]; omega) (h.take _)).append (Dgl.one (rootL_dg _ _ (h.drop _)))
      · rw [pathL_right L i w (by omega) hi]
        exact (ih _ _ w (by rw [List.length_drop]; omega) (h.drop _)).append (Dgl.one (rootL_dg _ _ (h.take _)))
theorem growL_dg (n : Nat) : ∀ (L : List (List Int)) (m : Nat) (b : Bool) (w : Int), L.length ≤ n → 1 ≤ m → m ≤ L.length → Dgl L → Dgl (growL L m b w) := by
  induction n with
  | zero => intro L m b w hn h1 h2 _; omega
  | succ n ih =>
    intro L m b w hn h1 h2 h
    by_cases hm : m = L.length
    · subst hm
      cases b
      · rw [growL_some]; exact Dgl.one (rootL_dg _ _ h)
      · rw [growL_all]; exact Dgl.nil
    · have hp := splitN_pos (n := L.length) (by omega)
      have hlt := splitN_lt (n := L.length) (by omega)
      by_cases hi : m ≤ splitN L.length
      · rw [growL_left L m b w h1 (by omega) hi]
        exact (ih _ m b w (by rw [List.length_take]; omega) h1 (by rw [List.length_take]; omega) (h.take _)).append (Dgl.one (rootL_dg _ _ (h.drop _)))
      · rw [growL_right L m b w (by omega) hi]
        exact (ih _ _ false w (by rw [List.length_drop]; omega) (by omega) (by rw [List.length_drop]; omega) (h.drop _)).append (Dgl.one (rootL_dg _ _ (h.take _)))
/-- lists shorter than 2^40 have paths no longer than themselves -/
theorem pathL_len (n : Nat) : ∀ (L : List (List Int)) (i : Nat) (w : Int), L.length ≤ n → (pathL L i w).length ≤ n := by
  induction n with
  | zero => intro L i w hn; rw [pathL_one L i w (by omega)]; exact Nat.zero_le _
  | succ n ih =>
    intro L i w hn
    by_cases h1 : L.length ≤ 1
    · rw [pathL_one L i w h1]; exact Nat.zero_le _
    · have hp := splitN_pos (n := L.length) (by omega)
      have hlt := splitN_lt (n := L.length) (by omega)
      by_cases hi : i < splitN L.length
      · rw [pathL_left L i w (by omega) hi, List.length_append]
        have := ih (L.take (splitN L.length)) i w (by rw [List.length_take]; omega)
        simp; omega
      · rw [pathL_right L i w (by omega) hi, List.length_append]
        have := ih (L.drop (splitN L.length)) (i - splitN L.length) w (by rw [List.length_drop]; omega)
        simp; omega
theorem growL_len (n : Nat) : ∀ (L : List (List Int)) (m : Nat) (b : Bool) (w : Int), L.length ≤ n → 1 ≤ m → m ≤ L.length → (growL L m b w).length ≤ n := by
  induction n with
  | zero => intro L m b w hn h1 h2; omega
  | succ n ih =>
    intro L m b w hn h1 h2
    by_cases hm : m = L.length
    · subst hm
      cases b
      · rw [growL_some]; simp
      · rw [growL_all]; simp
    · have hp := splitN_pos (n := L.length) (by omega)
      have hlt := splitN_lt (n := L.length) (by omega)
      by_cases hi : m ≤ splitN L.length
      · rw [growL_left L m b w h1 (by omega) hi, List.length_append]
        have := ih (L.take (splitN L.length)) m b w (by rw [List.length_take]; omega) h1 (by rw [List.length_take]; omega)
        simp; omega
      · rw [growL_right L m b w (by omega) hi, List.length_append]
        have := ih (L.drop (splitN L.length)) (m - splitN L.length) false w (by rw [List.length_drop]; omega) (by omega) (by rw [List.length_drop]; omega)
        simp; omega
end Go.Proofs.YtfkloilbjfleeaaDoor
namespace Go.Proofs.YtfkloilbjfleeaaDoor
open Go.RowKit
set_option linter.unusedVariables false

/-- the way down to a place: of each step whether it goes to the others -/
def stepsL (n i : Nat) : List Bool :=
  if h : n ≤ 1 then []
  else if i < splitN n then false :: stepsL (splitN n) i
  else true :: stepsL (n - splitN n) (i - splitN n)
  termination_by n
  decreasing_by
    · exact splitN_lt (by omega)
    · have := splitN_pos (n := n) (by omega)
      omega
set_option maxRecDepth 100000 in
theorem stepsL_one {n : Nat} (i : Nat) (h : n ≤ 1) : stepsL n i = [] := by rw [stepsL, dif_pos h]
set_option maxRecDepth 100000 in
theorem stepsL_left {n i : Nat} (h : 2 ≤ n) (hi : i < splitN n) : stepsL n i = false :: stepsL (splitN n) i := by rw [stepsL, dif_neg (by omega), if_pos hi]
set_option maxRecDepth 100000 in
theorem stepsL_right {n i : Nat} (h : 2 ≤ n) (hi : ¬ i < splitN n) : stepsL n i = true :: stepsL (n - splitN n) (i - splitN n) := by rw [stepsL, dif_neg (by omega), if_neg hi]
set_option maxRecDepth 100000 in
theorem stepsL_pos {n : Nat} (i : Nat) (h : 2 ≤ n) : 1 ≤ (stepsL n i).length := by
  by_cases hi : i < splitN n
  · rw [stepsL_left h hi, List.length_cons]; omega
  · rw [stepsL_right h hi, List.length_cons]; omega
set_option maxRecDepth 100000 in
/-- no more steps than the length has bits -/
theorem stepsL_bits (b : Nat) : ∀ n i, n ≤ 2 ^ b → (stepsL n i).length ≤ b := by
  induction b with
  | zero => intro n i h; rw [stepsL_one i (by simpa using h)]; exact Nat.le_refl _
  | succ b ih =>
    intro n i h
    by_cases h1 : n ≤ 1
    · rw [stepsL_one i h1]; exact Nat.zero_le _
    · obtain ⟨c, hc, hs⟩ := splitN_le (n := n) (by omega) h
      obtain rfl : b = c := by omega
      have hh := splitN_half (n := n) (by omega)
      by_cases hi : i < splitN n
      · rw [stepsL_left (by omega) hi, List.length_cons]
        have := ih (splitN n) i hs; omega
      · rw [stepsL_right (by omega) hi, List.length_cons]
        have := ih (n - splitN n) (i - splitN n) (by omega); omega
/-- up again -/
def upL (x : Int) : List Bool → List (List Int) → List Int → List Int
  | b :: bs, p :: ps, d => upL x bs ps (if b then nodeL p d x else nodeL d p x)
  | _, _, d => d
set_option maxRecDepth 100000 in
theorem upL_nil (x : Int) (ps : List (List Int)) (d : List Int) : upL x [] ps d = d := by cases ps <;> rfl
set_option maxRecDepth 100000 in
theorem upL_snoc (x : Int) (b : Bool) (p : List Int) : ∀ (rs : List Bool) (ps : List (List Int)) (d : List Int), rs.length = ps.length → upL x (rs ++ [b]) (ps ++ [p]) d = (if b then nodeL p (upL x rs ps d) x else nodeL (upL x rs ps d) p x) := by
  intro rs
  induction rs with
  | nil => intro ps d h; obtain rfl := List.eq_nil_of_length_eq_zero h.symm; rfl
  | cons c r ih =>
    intro ps d h
    cases ps with
    | nil => simp at h
    | cons q qs =>
      show upL x (r ++ [b]) (qs ++ [p]) _ = _
      rw [ih qs _ (by simpa using h)]; rfl
set_option maxRecDepth 100000 in
theorem upL_dg (x : Int) : ∀ (rs : List Bool) (ps : List (List Int)) (d : List Int), Dg d → Dg (upL x rs ps d) := by
  intro rs
  induction rs with
  | nil => intro ps d h; rw [upL_nil]; exact h
  | cons c r ih =>
    intro ps d h
    cases ps with
    | nil => exact h
    | cons q qs =>
      refine ih qs _ ?_
      split
      · exact nodeL_dg _ _ _
      · exact nodeL_dg _ _ _
set_option maxRecDepth 100000 in
theorem last_split (P : List (List Int)) (len : Nat) (h : P.length = len) (h1 : 1 ≤ len) : P = P.take (len - 1) ++ [P.getD (len - 1) []] := by
  have hlt : len - 1 < P.length := by omega
  have e := List.take_succ_eq_append_getElem hlt
  rw [List.getD_eq_getElem?_getD, List.getElem?_eq_getElem hlt]
  show _ = _ ++ [P[len - 1]]
  rw [← e, show len - 1 + 1 = P.length from by omega, List.take_length]
/-- whether a path is taken -/
def chkP (root : List Int) (n i : Int) (leaf : List Int) (P : List (List Int)) (x : Int) : Bool :=
  decide (0 ≤ i ∧ i < n) && (decide ((stepsL n.toNat i.toNat).length = P.length) && decide (upL x (stepsL n.toNat i.toNat).reverse P leaf = root))
set_option maxRecDepth 100000 in
/-- the path of a place leads to the root -/
theorem path_up (m : Nat) : ∀ (L : List (List Int)) (i : Nat) (x : Int), L.length ≤ m → i < L.length → (stepsL L.length i).length = (pathL L i x).length ∧ upL x (stepsL L.length i).reverse (pathL L i x) (L.getD i []) = rootL L x := by
  induction m with
  | zero => intro L i x h hi; omega
  | succ m ih =>
    intro L i x h hi
    by_cases h1 : L.length ≤ 1
    · obtain rfl : i = 0 := by omega
      rw [stepsL_one 0 h1, pathL_one L 0 x h1, rootL_one L x (by omega)]
      exact ⟨rfl, rfl⟩
    · have hp := splitN_pos (n := L.length) (by omega)
      have hlt := splitN_lt (n := L.length) (by omega)
      have et : (L.take (splitN L.length)).length = splitN L.length := by rw [List.length_take]; omega
      have ed : (L.drop (splitN L.length)).length = L.length - splitN L.length := List.length_drop ..
      rw [rootL_more L x (by omega)]
      by_cases hi2 : i < splitN L.length
      · rw [stepsL_left (by omega) hi2, pathL_left L i x (by omega) hi2]
        obtain ⟨e1, e2⟩ := ih (L.take (splitN L.length)) i x (by omega) (by omega)
        rw [et] at e1 e2
        have e3 : (L.take (splitN L.length)).getD i [] = L.getD i [] := by rw [List.getD_eq_getElem?_getD, List.getElem?_take, if_pos hi2, ← List.getD_eq_getElem?_getD]
        rw [e3] at e2
        refine ⟨by rw [List.length_cons, List.length_append, e1]; rfl, ?_⟩
        rw [List.reverse_cons, upL_snoc x false _ _ _ _ (by rw [List.length_reverse, e1]), e2]; rfl
      · rw [stepsL_right (by omega) hi2, pathL_right L i x (by omega) hi2]
        obtain ⟨e1, e2⟩ := ih (L.drop (splitN L.length)) (i - splitN L.length) x (by omega) (by omega)
        rw [ed] at e1 e2
        have e3 : (L.drop (splitN L.length)).getD (i - splitN L.length) [] = L.getD i [] := by rw [List.getD_eq_getElem?_getD, List.getElem?_drop, show splitN L.length + (i - splitN L.length) = i from by omega, ← List.getD_eq_getElem?_getD]
        rw [e3] at e2
        refine ⟨by rw [List.length_cons, List.length_append, e1]; rfl, ?_⟩
        rw [List.reverse_cons, upL_snoc x true _ _ _ _ (by rw [List.length_reverse, e1]), e2]; rfl
set_option maxRecDepth 100000 in
theorem chkP_yes (L : List (List Int)) (i : Nat) (x : Int) (hi : i < L.length) : chkP (rootL L x) (L.length : Int) (i : Int) (L.getD i []) (pathL L i x) x = true := by
  obtain ⟨e1, e2⟩ := path_up L.length L i x (Nat.le_refl _) hi
  unfold chkP
  rw [show ((L.length : Int)).toNat = L.length from by omega, show ((i : Int)).toNat = i from by omega, e1, e2]
  simp; omega

/-- the way down to where the first list ends -/
def gstepsL (n m : Nat) : List Bool :=
  if h : n ≤ m ∨ m = 0 then []
  else if m ≤ splitN n then false :: gstepsL (splitN n) m
  else true :: gstepsL (n - splitN n) (m - splitN n)
  termination_by n
  decreasing_by
    · exact splitN_lt (by omega)
    · have := splitN_pos (n := n) (by omega)
      omega
set_option maxRecDepth 100000 in
theorem gsteps_end {n m : Nat} (h : n ≤ m) : gstepsL n m = [] := by rw [gstepsL, dif_pos (.inl h)]
set_option maxRecDepth 100000 in
theorem gsteps_left {n m : Nat} (h1 : 1 ≤ m) (h : m < n) (hm : m ≤ splitN n) : gstepsL n m = false :: gstepsL (splitN n) m := by rw [gstepsL, dif_neg (by omega), if_pos hm]
set_option maxRecDepth 100000 in
theorem gsteps_right {n m : Nat} (h : m < n) (hm : ¬ m ≤ splitN n) : gstepsL n m = true :: gstepsL (n - splitN n) (m - splitN n) := by rw [gstepsL, dif_neg (by omega), if_neg hm]
set_option maxRecDepth 100000 in
theorem gsteps_bits (b : Nat) : ∀ n m, 1 ≤ m → n ≤ 2 ^ b → (gstepsL n m).length ≤ b := by
  induction b with
  | zero => intro n m h1 h; rw [gsteps_end (by have : n ≤ 1 := by simpa using h
                                               omega)]; exact Nat.le_refl _
  | succ b ih =>
    intro n m h1 h
    by_cases hm : n ≤ m
    · rw [gsteps_end hm]; exact Nat.zero_le _
    · obtain ⟨c, hc, hs⟩ := splitN_le (n := n) (by omega) h
      obtain rfl : b = c := by omega
      have hh := splitN_half (n := n) (by omega)
      by_cases hi : m ≤ splitN n
      · rw [gsteps_left h1 (by omega) hi, List.length_cons]
        have := ih (splitN n) m h1 hs; omega
      · rw [gsteps_right (by omega) hi, List.length_cons]
        have := ih (n - splitN n) (m - splitN n) (by omega) (by omega); omega
/-- is the first list whole at the way's end? -/
def gwh (b : Bool) (s : List Bool) : Bool := b && s.all (fun c => !c)
set_option maxRecDepth 100000 in
theorem gwh_false (b : Bool) (s : List Bool) : gwh b (false :: s) = gwh b s := by simp [gwh]
set_option maxRecDepth 100000 in
theorem gwh_true (b : Bool) (s : List Bool) : gwh b (true :: s) = false := by simp [gwh]
set_option maxRecDepth 100000 in
theorem gwh_no (s : List Bool) : gwh false s = false := rfl
/-- how many digests the growth has -/
def need (b : Bool) (s : List Bool) : Nat := s.length + (if gwh b s then 0 else 1)
set_option maxRecDepth 100000 in
theorem need_left (b : Bool) (s : List Bool) : need b (false :: s) = need b s + 1 := by
  unfold need; rw [gwh_false, List.length_cons]; omega
set_option maxRecDepth 100000 in
theorem need_right (b : Bool) (s : List Bool) : need b (true :: s) = need false s + 1 := by
  unfold need; rw [gwh_true, gwh_no, List.length_cons]; omega
/-- both roots, up again -/
def gup (x : Int) : List Bool → List (List Int) → List Int × List Int → List Int × List Int
  | b :: bs, p :: ps, d => gup x bs ps (if b then (nodeL p d.1 x, nodeL p d.2 x) else (d.1, nodeL d.2 p x))
  | _, _, d => d
set_option maxRecDepth 100000 in
theorem gup_nil (x : Int) (ps : List (List Int)) (d : List Int × List Int) : gup x [] ps d = d := by cases ps <;> rfl
set_option maxRecDepth 100000 in
theorem gup_snoc (x : Int) (b : Bool) (p : List Int) : ∀ (rs : List Bool) (ps : List (List Int)) (d : List Int × List Int), rs.length = ps.length → gup x (rs ++ [b]) (ps ++ [p]) d = (if b then (nodeL p (gup x rs ps d).1 x, nodeL p (gup x rs ps d).2 x) else ((gup x rs ps d).1, nodeL (gup x rs ps d).2 p x)) := by
  intro rs
  induction rs with
  | nil => intro ps d h; obtain rfl := List.eq_nil_of_length_eq_zero h.symm; rfl
  | cons c r ih =>
    intro ps d h
    cases ps with
    | nil => simp at h
    | cons q qs =>
      show gup x (r ++ [b]) (qs ++ [p]) _ = _
      rw [ih qs _ (by simpa using h)]; rfl
set_option maxRecDepth 100000 in
theorem gup_dg (x : Int) : ∀ (rs : List Bool) (ps : List (List Int)) (d : List Int × List Int), Dg d.1 → Dg d.2 → Dg (gup x rs ps d).1 ∧ Dg (gup x rs ps d).2 := by
  intro rs
  induction rs with
  | nil => intro ps d h1 h2; rw [gup_nil]; exact ⟨h1, h2⟩
  | cons c r ih =>
    intro ps d h1 h2
    cases ps with
    | nil => exact ⟨h1, h2⟩
    | cons q qs =>
      refine ih qs _ ?_ ?_ <;> split
      · exact nodeL_dg _ _ _
      · exact h1
      · exact nodeL_dg _ _ _
      · exact nodeL_dg _ _ _
/-- both roots, of the way, the old root and the growth -/
def gres (x : Int) (b : Bool) (s : List Bool) (P : List (List Int)) (old : List Int) : List Int × List Int :=
  if gwh b s then gup x s.reverse P (old, old) else gup x s.reverse (P.drop 1) (P.getD 0 [], P.getD 0 [])
set_option maxRecDepth 100000 in
theorem gres_left (x : Int) (b : Bool) (s : List Bool) (P : List (List Int)) (r old : List Int) (h : P.length = need b s) : gres x b (false :: s) (P ++ [r]) old = ((gres x b s P old).1, nodeL (gres x b s P old).2 r x) := by
  unfold gres need at *
  rw [gwh_false, List.reverse_cons]
  by_cases hg : gwh b s = true
  · rw [if_pos hg] at h ⊢
    rw [if_pos hg, gup_snoc x false r _ _ _ (by rw [List.length_reverse]; omega)]; rfl
  · rw [if_neg hg] at h ⊢
    rw [if_neg hg, List.drop_append_of_le_length (by omega), show (P ++ [r]).getD 0 [] = P.getD 0 [] from by rw [List.getD_eq_getElem?_getD, List.getElem?_append_left (by omega), ← List.getD_eq_getElem?_getD],
      gup_snoc x false r _ _ _ (by rw [List.length_reverse, List.length_drop]; omega)]; rfl
set_option maxRecDepth 100000 in
theorem gres_right (x : Int) (b : Bool) (s : List Bool) (P : List (List Int)) (r old : List Int) (h : P.length = need false s) : gres x b (true :: s) (P ++ [r]) old = (nodeL r (gres x false s P old).1 x, nodeL r (gres x false s P old).2 x) := by
  unfold gres need at *
  rw [gwh_true, gwh_no] at *
  simp only [Bool.false_eq_true, if_false] at h ⊢
  rw [List.reverse_cons, List.drop_append_of_le_length (by omega), show (P ++ [r]).getD 0 [] = P.getD 0 [] from by rw [List.getD_eq_getElem?_getD, List.getElem?_append_left (by omega), ← List.getD_eq_getElem?_getD],
    gup_snoc x true r _ _ _ (by rw [List.length_reverse, List.length_drop]; omega)]; rfl
/-- whether a growth is taken -/
def chkG (old : List Int) (m : Int) (root : List Int) (n : Int) (P : List (List Int)) (x : Int) : Bool :=
  decide (1 ≤ m ∧ m ≤ n) && (decide (P.length = need true (gstepsL n.toNat m.toNat)) && (decide ((gres x true (gstepsL n.toNat m.toNat) P old).1 = old) && decide ((gres x true (gstepsL n.toNat m.toNat) P old).2 = root)))
set_option maxRecDepth 100000 in
/-- the growth leads from the one root to the other -/
theorem grow_up (k : Nat) : ∀ (L : List (List Int)) (m : Nat) (b : Bool) (x : Int) (old : List Int), L.length ≤ k → 1 ≤ m → m ≤ L.length → (b = true → old = rootL (L.take m) x) → (growL L m b x).length = need b (gstepsL L.length m) ∧ gres x b (gstepsL L.length m) (growL L m b x) old = (rootL (L.take m) x, rootL L x) := by
  induction k with
  | zero => intro L m b x old h h1 h2; omega
  | succ k ih =>
    intro L m b x old h h1 h2 ho
    by_cases hm : m = L.length
    · subst hm
      rw [gsteps_end (Nat.le_refl _), List.take_length]
      rw [List.take_length] at ho
      cases b with
      | true => rw [growL_all, ← ho rfl]; exact ⟨rfl, rfl⟩
      | false => rw [growL_some]; exact ⟨rfl, rfl⟩
    · have hp := splitN_pos (n := L.length) (by omega)
      have hlt := splitN_lt (n := L.length) (by omega)
      have et : (L.take (splitN L.length)).length = splitN L.length := by rw [List.length_take]; omega
      have ed : (L.drop (splitN L.length)).length = L.length - splitN L.length := List.length_drop ..
      by_cases hi : m ≤ splitN L.length
      · have e3 : (L.take (splitN L.length)).take m = L.take m := by rw [List.take_take, Nat.min_eq_left hi]
        obtain ⟨e1, e2⟩ := ih (L.take (splitN L.length)) m b x old (by omega) h1 (by omega) (by rw [e3]; exact ho)
        rw [et] at e1 e2
        rw [gsteps_left h1 (by omega) hi, growL_left L m b x h1 (by omega) hi, need_left, gres_left x b _ _ _ old e1, e2, e3, ← rootL_more L x (by omega)]
        exact ⟨by rw [List.length_append, e1]; rfl, rfl⟩
      · obtain ⟨e1, e2⟩ := ih (L.drop (splitN L.length)) (m - splitN L.length) false x old (by omega) (by omega) (by omega) (by intro h; cases h)
        rw [ed] at e1 e2
        rw [gsteps_right (by omega) hi, growL_right L m b x (by omega) hi, need_right, gres_right x b _ _ _ old e1, e2]
        refine ⟨by rw [List.length_append, e1]; rfl, ?_⟩
        rw [← rootL_more L x (by omega)]
        congr 1
        have hml : (L.take m).length = m := by rw [List.length_take]; omega
        have hsp : splitN m = splitN L.length := by
          obtain ⟨j, hj⟩ := splitN_pow (n := L.length) (by omega)
          have hh := splitN_half (n := L.length) (by omega)
          rw [hj] at hi hh ⊢
          exact splitN_of (by omega) (by rw [Nat.pow_succ]; omega)
        rw [rootL_more (L.take m) x (by omega), hml, hsp, List.take_take, Nat.min_eq_left (by omega), List.drop_take]
set_option maxRecDepth 100000 in
theorem chkG_yes (L : List (List Int)) (m : Nat) (x : Int) (h1 : 1 ≤ m) (h2 : m ≤ L.length) : chkG (rootL (L.take m) x) (m : Int) (rootL L x) (L.length : Int) (growL L m true x) x = true := by
  obtain ⟨e1, e2⟩ := grow_up L.length L m true x (rootL (L.take m) x) (Nat.le_refl _) h1 h2 (fun _ => rfl)
  unfold chkG
  rw [show ((L.length : Int)).toNat = L.length from by omega, show ((m : Int)).toNat = m from by omega, e1, e2]
  simp; omega
set_option maxRecDepth 100000 in
theorem grow_bits (L : List (List Int)) (m b : Nat) (x : Int) (h1 : 1 ≤ m) (h2 : m ≤ L.length) (hb : L.length ≤ 2 ^ b) : (growL L m true x).length ≤ b + 1 := by
  obtain ⟨e1, _⟩ := grow_up L.length L m true x (rootL (L.take m) x) (Nat.le_refl _) h1 h2 (fun _ => rfl)
  have := gsteps_bits b L.length m h1 hb
  rw [e1]; unfold need; split <;> omega
set_option maxRecDepth 100000 in
theorem path_bits (L : List (List Int)) (i b : Nat) (x : Int) (h : i < L.length) (hb : L.length ≤ 2 ^ b) : (pathL L i x).length ≤ b := by
  obtain ⟨e1, _⟩ := path_up L.length L i x (Nat.le_refl _) h
  rw [← e1]; exact stepsL_bits b L.length i hb
end Go.Proofs.YtfkloilbjfleeaaDoor
namespace Go.Proofs.YtfkloilbjfleeaaDoor
open Go.RowKit
set_option linter.unusedVariables false

/-- the leaves of texts -/
def leavesL (T : List (List Int)) (x : Int) : List (List Int) := T.map fun b => leafL b x
set_option maxRecDepth 100000 in
theorem leavesL_len (T : List (List Int)) (x : Int) : (leavesL T x).length = T.length := by simp [leavesL]
set_option maxRecDepth 100000 in
theorem leavesL_dg (T : List (List Int)) (x : Int) : Dgl (leavesL T x) := by
  intro d hd
  obtain ⟨b, _, rfl⟩ := List.mem_map.1 hd
  exact leafL_dg b x
set_option maxRecDepth 100000 in
theorem leavesL_getD (T : List (List Int)) (x : Int) (i : Nat) (hi : i < T.length) : (leavesL T x).getD i [] = leafL (T.getD i []) x := by
  unfold leavesL
  rw [List.getD_eq_getElem?_getD, List.getElem?_map, List.getElem?_eq_getElem hi, List.getD_eq_getElem?_getD, List.getElem?_eq_getElem hi]; rfl
set_option maxRecDepth 100000 in
theorem leavesL_more (T : List (List Int)) (x : Int) (k : Nat) (hk : k < T.length) : leavesL (T.take (k + 1)) x = leavesL (T.take k) x ++ [leafL (T.getD k []) x] := by
  unfold leavesL
  rw [List.take_succ_eq_append_getElem hk, List.map_append, List.getD_eq_getElem?_getD, List.getElem?_eq_getElem hk]; rfl

/-- two texts clash -/
def clashB (a b : List Int) (x : Int) : Bool := !decide (a = b) && decide (cutL (sumL a) x = cutL (sumL b) x)
set_option maxRecDepth 100000 in
theorem clashB_self (a : List Int) (x : Int) : clashB a a x = false := by simp [clashB]
set_option maxRecDepth 100000 in
theorem clashB_iff (a b : List Int) (x : Int) : clashB a b x = true ↔ a ≠ b ∧ cutL (sumL a) x = cutL (sumL b) x := by simp [clashB]

/-- what a node is made of -/
def kids (b : Bool) (d p : List Int) : List Int := if b then p ++ d else d ++ p
set_option maxRecDepth 100000 in
theorem kids_byt {b : Bool} {d p : List Int} (hd : Dg d) (hp : Dg p) : Byt (kids b d p) := by
  unfold kids; split
  · exact hp.2.append hd.2
  · exact hd.2.append hp.2
set_option maxRecDepth 100000 in
theorem kids_len {b : Bool} {d p : List Int} (hd : Dg d) (hp : Dg p) : (kids b d p).length = 64 := by
  unfold kids; split <;> rw [List.length_append, hd.1, hp.1]
set_option maxRecDepth 100000 in
theorem kids_inj {b : Bool} {d p e q : List Int} (hd : Dg d) (hp : Dg p) (he : Dg e) (hq : Dg q) (h : kids b d p = kids b e q) : d = e ∧ p = q := by
  unfold kids at h
  cases b with
  | true => have := List.append_inj h (by rw [hp.1, hq.1]); exact ⟨this.2, this.1⟩
  | false => exact List.append_inj h (by rw [hd.1, he.1])
set_option maxRecDepth 100000 in
theorem node_kids (b : Bool) (d p : List Int) (x : Int) : (if b then nodeL p d x else nodeL d p x) = cutL (sumL (1 :: kids b d p)) x := by
  unfold kids nodeL; cases b <;> rfl

/-- up on two ways at once: the first clash -/
def climbL (x : Int) : List Bool → List (List Int) → List (List Int) → List Int → List Int → Option (List Int × List Int)
  | b :: bs, p :: ps, q :: qs, X, Y =>
    if clashB (1 :: kids b X p) (1 :: kids b Y q) x then some (1 :: kids b X p, 1 :: kids b Y q)
    else climbL x bs ps qs (cutL (sumL (1 :: kids b X p)) x) (cutL (sumL (1 :: kids b Y q)) x)
  | _, _, _, _, _ => none
set_option maxRecDepth 100000 in
theorem climb_end (x : Int) (ps qs : List (List Int)) (X Y : List Int) : climbL x [] ps qs X Y = none := by cases ps <;> cases qs <;> rfl
set_option maxRecDepth 100000 in
theorem climb_yes (x : Int) (b : Bool) (bs : List Bool) (p q : List Int) (ps qs : List (List Int)) (X Y : List Int) (h : clashB (1 :: kids b X p) (1 :: kids b Y q) x = true) : climbL x (b :: bs) (p :: ps) (q :: qs) X Y = some (1 :: kids b X p, 1 :: kids b Y q) := by
  rw [climbL, if_pos h]
set_option maxRecDepth 100000 in
theorem climb_no (x : Int) (b : Bool) (bs : List Bool) (p q : List Int) (ps qs : List (List Int)) (X Y : List Int) (h : clashB (1 :: kids b X p) (1 :: kids b Y q) x = false) : climbL x (b :: bs) (p :: ps) (q :: qs) X Y = climbL x bs ps qs (cutL (sumL (1 :: kids b X p)) x) (cutL (sumL (1 :: kids b Y q)) x) := by
  rw [climbL, if_neg (by rw [h]; decide)]
set_option maxRecDepth 100000 in
theorem climb_some (x : Int) : ∀ (bs : List Bool) (ps qs : List (List Int)) (X Y A B : List Int), climbL x bs ps qs X Y = some (A, B) → clashB A B x = true := by
  intro bs
  induction bs with
  | nil => intro ps qs X Y A B h; rw [climb_end] at h; cases h
  | cons b bs ih =>
    intro ps qs X Y A B h
    cases ps with
    | nil => cases h
    | cons p ps =>
      cases qs with
      | nil => cases h
      | cons q qs =>
        cases hc : clashB (1 :: kids b X p) (1 :: kids b Y q) x with
        | true => rw [climb_yes x b bs p q ps qs X Y hc] at h; cases h; exact hc
        | false => rw [climb_no x b bs p q ps qs X Y hc] at h; exact ih _ _ _ _ _ _ h
set_option maxRecDepth 100000 in
/-- where there is none, two ways to one root are the same -/
theorem climb_none (x : Int) : ∀ (bs : List Bool) (ps qs : List (List Int)) (X Y : List Int), ps.length = bs.length → qs.length = bs.length → Dgl ps → Dgl qs → Dg X → Dg Y → climbL x bs ps qs X Y = none → upL x bs ps X = upL x bs qs Y → X = Y ∧ ps = qs := by
  intro bs
  induction bs with
  | nil =>
    intro ps qs X Y hp hq _ _ _ _ _ h
    obtain rfl := List.eq_nil_of_length_eq_zero hp
    obtain rfl := List.eq_nil_of_length_eq_zero hq
    exact ⟨h, rfl⟩
  | cons b bs ih =>
    intro ps qs X Y hp hq dp dq dX dY hn h
    cases ps with
    | nil => simp at hp
    | cons p ps =>
      cases qs with
      | nil => simp at hq
      | cons q qs =>
        have hpd := dp p (by simp)
        have hqd := dq q (by simp)
        cases hc : clashB (1 :: kids b X p) (1 :: kids b Y q) x with
        | true => rw [climb_yes x b bs p q ps qs X Y hc] at hn; cases hn
        | false =>
          rw [climb_no x b bs p q ps qs X Y hc] at hn
          have h' : upL x bs ps (cutL (sumL (1 :: kids b X p)) x) = upL x bs qs (cutL (sumL (1 :: kids b Y q)) x) := by
            rw [← node_kids, ← node_kids]; exact h
          obtain ⟨e1, e2⟩ := ih ps qs _ _ (by simpa using hp) (by simpa using hq) (fun d hd => dp d (by simp [hd])) (fun d hd => dq d (by simp [hd])) (cutL_dg (sum_byt _) x) (cutL_dg (sum_byt _) x) hn h'
          have e3 : (1 :: kids b X p) = (1 :: kids b Y q) := by
            by_cases e : (1 :: kids b X p) = (1 :: kids b Y q)
            · exact e
            · rw [(clashB_iff _ _ x).2 ⟨e, e1⟩] at hc; cases hc
          obtain ⟨e4, e5⟩ := kids_inj dX hpd dY hqd (List.tail_eq_of_cons_eq e3)
          exact ⟨e4, by rw [e5, e2]⟩
set_option maxRecDepth 100000 in
/-- two ways to one root that part have a clash -/
theorem climb_must (x : Int) (bs : List Bool) (ps qs : List (List Int)) (X Y : List Int) (hp : ps.length = bs.length) (hq : qs.length = bs.length) (dp : Dgl ps) (dq : Dgl qs) (dX : Dg X) (dY : Dg Y) (h : upL x bs ps X = upL x bs qs Y) (hne : ¬ (X = Y ∧ ps = qs)) : ∃ A B, climbL x bs ps qs X Y = some (A, B) := by
  cases hc : climbL x bs ps qs X Y with
  | none => exact absurd (climb_none x bs ps qs X Y hp hq dp dq dX dY hc h) hne
  | some r => exact ⟨r.1, r.2, rfl⟩
set_option maxRecDepth 100000 in
/-- the clash's texts are bytes -/
theorem climb_byt (x : Int) : ∀ (bs : List Bool) (ps qs : List (List Int)) (X Y A B : List Int), Dgl ps → Dgl qs → Dg X → Dg Y → climbL x bs ps qs X Y = some (A, B) → (Byt A ∧ A.length = 65) ∧ (Byt B ∧ B.length = 65) := by
  intro bs
  induction bs with
  | nil => intro ps qs X Y A B _ _ _ _ h; rw [climb_end] at h; cases h
  | cons b bs ih =>
    intro ps qs X Y A B dp dq dX dY h
    cases ps with
    | nil => cases h
    | cons p ps =>
      cases qs with
      | nil => cases h
      | cons q qs =>
        have hpd := dp p (by simp)
        have hqd := dq q (by simp)
        cases hc : clashB (1 :: kids b X p) (1 :: kids b Y q) x with
        | true =>
          rw [climb_yes x b bs p q ps qs X Y hc] at h; cases h
          exact ⟨⟨(kids_byt dX hpd).cons (by decide), by rw [List.length_cons, kids_len dX hpd]⟩, ⟨(kids_byt dY hqd).cons (by decide), by rw [List.length_cons, kids_len dY hqd]⟩⟩
        | false =>
          rw [climb_no x b bs p q ps qs X Y hc] at h
          exact ih _ _ _ _ _ _ (fun d hd => dp d (by simp [hd])) (fun d hd => dq d (by simp [hd])) (cutL_dg (sum_byt _) x) (cutL_dg (sum_byt _) x) h

/-- whether a path shows another leaf -/
def mustP (T : List (List Int)) (i : Int) (leaf : List Int) (P : List (List Int)) (x : Int) : Bool :=
  decide (0 ≤ i ∧ i < (T.length : Int) ∧ T.getD i.toNat [] ≠ leaf) && chkP (rootL (leavesL T x) x) (T.length : Int) i (leafL leaf x) P x
set_option maxRecDepth 100000 in
/-- the clash that a path has: that of the leaves, or one of the ways -/
theorem path_must (T : List (List Int)) (i : Nat) (leaf : List Int) (P : List (List Int)) (x : Int) (hi : i < T.length) (hne : T.getD i [] ≠ leaf) (hP : Dgl P)
    (hc : chkP (rootL (leavesL T x) x) (T.length : Int) (i : Int) (leafL leaf x) P x = true) (hno : clashB (0 :: T.getD i []) (0 :: leaf) x = false) :
    P.length = (stepsL T.length i).length ∧ (pathL (leavesL T x) i x).length = (stepsL T.length i).length ∧ ∃ A B, climbL x (stepsL T.length i).reverse (pathL (leavesL T x) i x) P (leafL (T.getD i []) x) (leafL leaf x) = some (A, B) := by
  have hl := leavesL_len T x
  have hi' : i < (leavesL T x).length := by rw [hl]; exact hi
  obtain ⟨e1, e2⟩ := path_up _ (leavesL T x) i x (Nat.le_refl _) hi'
  rw [hl] at e1 e2
  rw [leavesL_getD T x i hi] at e2
  unfold chkP at hc
  rw [show ((T.length : Int)).toNat = T.length from by omega, show ((i : Int)).toNat = i from by omega] at hc
  simp only [Bool.and_eq_true, decide_eq_true_eq] at hc
  obtain ⟨_, c1, c2⟩ := hc
  refine ⟨c1.symm, e1.symm, climb_must x _ _ _ _ _ (by rw [List.length_reverse]; exact e1.symm) (by rw [List.length_reverse]; exact c1.symm) (pathL_dg _ _ i x (Nat.le_refl _) (leavesL_dg T x)) hP (leafL_dg _ x) (leafL_dg _ x) (by rw [e2, c2]) ?_⟩
  rintro ⟨h, _⟩
  have : clashB (0 :: T.getD i []) (0 :: leaf) x = true := (clashB_iff _ _ x).2 ⟨fun h => hne (List.tail_eq_of_cons_eq h), h⟩
  rw [this] at hno; cases hno

/-- whether a growth shows another beginning -/
def mustG (T : List (List Int)) (m : Int) (old : List Int) (P : List (List Int)) (x : Int) : Bool :=
  decide (1 ≤ m ∧ m ≤ (T.length : Int)) && (decide (old ≠ rootL ((leavesL T x).take m.toNat) x) && chkG old m (rootL (leavesL T x) x) (T.length : Int) P x)
set_option maxRecDepth 100000 in
theorem gup_snd (x : Int) : ∀ (rs : List Bool) (ps : List (List Int)) (d : List Int × List Int), (gup x rs ps d).2 = upL x rs ps d.2 := by
  intro rs
  induction rs with
  | nil => intro ps d; rw [gup_nil, upL_nil]
  | cons c r ih =>
    intro ps d
    cases ps with
    | nil => rfl
    | cons q qs =>
      show (gup x r qs _).2 = upL x r qs _
      rw [ih]
      cases c <;> rfl
set_option maxRecDepth 100000 in
/-- the way to a beginning's end is the way to its last place, not to its end -/
theorem gsteps_pre (k : Nat) : ∀ n m, n ≤ k → 1 ≤ m → m ≤ n → gstepsL n m = (stepsL n (m - 1)).take (gstepsL n m).length := by
  induction k with
  | zero => intro n m h h1 h2; omega
  | succ k ih =>
    intro n m h h1 h2
    by_cases hm : m = n
    · subst hm; rw [gsteps_end (Nat.le_refl _)]; rfl
    · have hp := splitN_pos (n := n) (by omega)
      have hlt := splitN_lt (n := n) (by omega)
      by_cases hi : m ≤ splitN n
      · rw [gsteps_left h1 (by omega) hi, stepsL_left (by omega) (show m - 1 < splitN n by omega), List.length_cons, List.take_succ_cons]
        have := ih (splitN n) m (by omega) h1 hi
        exact congrArg _ this
      · rw [gsteps_right (by omega) hi, stepsL_right (by omega) (show ¬ m - 1 < splitN n by omega), List.length_cons, List.take_succ_cons]
        have := ih (n - splitN n) (m - splitN n) (by omega) (by omega) (by omega)
        rw [show m - 1 - splitN n = m - splitN n - 1 from by omega]
        exact congrArg _ this
set_option maxRecDepth 100000 in
/-- a piece of a longer list's tree is as long as a power of two -/
theorem gwh_pow (k : Nat) : ∀ n m, n ≤ k → 1 ≤ m → m < n → (gwh true (gstepsL n m) = true ↔ ∃ j, m = 2 ^ j) := by
  induction k with
  | zero => intro n m h h1 h2; omega
  | succ k ih =>
    intro n m h h1 h2
    have hp := splitN_pos (n := n) (by omega)
    have hlt := splitN_lt (n := n) (by omega)
    obtain ⟨j, hj⟩ := splitN_pow (n := n) (by omega)
    by_cases hi : m ≤ splitN n
    · rw [gsteps_left h1 h2 hi, gwh_false]
      by_cases he : m = splitN n
      · rw [gsteps_end (by omega)]
        exact ⟨fun _ => ⟨j, by rw [he, hj]⟩, fun _ => rfl⟩
      · exact ih (splitN n) m (by omega) h1 (by omega)
    · rw [gsteps_right h2 hi, gwh_true]
      refine ⟨fun h => by (cases h), ?_⟩
      rintro ⟨i, rfl⟩
      have hh := splitN_half (n := n) (by omega)
      rw [hj] at hi hh
      have h3 : j < i := (Nat.pow_lt_pow_iff_right (by decide : 1 < 2)).1 (by omega)
      have h4 : 2 ^ (j + 1) ≤ 2 ^ i := Nat.pow_le_pow_right (by decide) h3
      rw [Nat.pow_succ] at h4
      omega
set_option maxRecDepth 100000 in
/-- the clash that a growth has -/
theorem grow_must (T : List (List Int)) (m : Nat) (old : List Int) (P : List (List Int)) (x : Int) (h1 : 1 ≤ m) (hm : m ≤ T.length) (hP : Dgl P) (hod : Dg old) (hne : old ≠ rootL ((leavesL T x).take m) x)
    (hc : chkG old (m : Int) (rootL (leavesL T x) x) (T.length : Int) P x = true) :
    m < T.length ∧ P.length = need true (gstepsL T.length m) ∧ (growL (leavesL T x) m true x).length = need true (gstepsL T.length m) ∧
    (gwh true (gstepsL T.length m) = true → ∃ A B, climbL x (gstepsL T.length m).reverse (growL (leavesL T x) m true x) P (rootL ((leavesL T x).take m) x) old = some (A, B)) ∧
    (gwh true (gstepsL T.length m) = false → ∃ A B, climbL x (gstepsL T.length m).reverse ((growL (leavesL T x) m true x).drop 1) (P.drop 1) ((growL (leavesL T x) m true x).getD 0 []) (P.getD 0 []) = some (A, B)) := by
  have hl := leavesL_len T x
  obtain ⟨e1, e2⟩ := grow_up _ (leavesL T x) m true x (rootL ((leavesL T x).take m) x) (Nat.le_refl _) h1 (by rw [hl]; exact hm) (fun _ => rfl)
  rw [hl] at e1 e2
  unfold chkG at hc
  rw [show ((T.length : Int)).toNat = T.length from by omega, show ((m : Int)).toNat = m from by omega] at hc
  simp only [Bool.and_eq_true, decide_eq_true_eq] at hc
  obtain ⟨_, c1, c2, c3⟩ := hc
  have hGd := growL_dg _ (leavesL T x) m true x (Nat.le_refl _) h1 (by rw [hl]; exact hm) (leavesL_dg T x)
  have hRd := rootL_dg ((leavesL T x).take m) x ((leavesL_dg T x).take m)
  have hlt : m < T.length := by
    refine Classical.byContradiction fun h => hne ?_
    obtain rfl : m = T.length := by omega
    rw [gsteps_end (Nat.le_refl _)] at c2 c3
    have e : ∀ p o, (gres x true [] p o).2 = o := fun p o => by unfold gres gwh; simp [gup_nil]
    rw [e] at c3
    rw [c3, ← hl, List.take_length]
  refine ⟨hlt, c1, e1, fun hg => ?_, fun hg => ?_⟩
  · unfold gres at c2 c3 e2
    rw [if_pos hg] at c2 c3 e2
    unfold need at c1 e1
    rw [if_pos hg] at c1 e1
    have e3 := congrArg Prod.snd e2
    rw [gup_snd] at c3 e3
    exact climb_must x _ _ _ _ _ (by rw [List.length_reverse]; exact e1) (by rw [List.length_reverse]; exact c1) hGd hP hRd hod (by rw [e3, c3]) (fun h => hne h.1.symm)
  · have hPl : 1 ≤ P.length := by unfold need at c1; rw [hg] at c1; simp at c1; omega
    have hGl : 1 ≤ (growL (leavesL T x) m true x).length := by unfold need at e1; rw [hg] at e1; simp at e1; omega
    have hcons : ∀ L : List (List Int), 1 ≤ L.length → L = L.getD 0 [] :: L.drop 1 := by
      intro L hL
      cases L with
      | nil => simp at hL
      | cons a l => rfl
    have e2' := e2
    unfold gres at c3 e2
    rw [hg] at c3 e2
    simp only [Bool.false_eq_true, if_false] at c3 e2
    unfold need at c1 e1
    rw [hg] at c1 e1
    simp only [Bool.false_eq_true, if_false] at c1 e1
    have e3 := congrArg Prod.snd e2
    rw [gup_snd] at c3 e3
    refine climb_must x _ _ _ _ _ (by rw [List.length_reverse, List.length_drop, e1]; rfl) (by rw [List.length_reverse, List.length_drop, c1]; rfl) (hGd.drop 1) (hP.drop 1) (hGd.getD 0 (by omega)) (hP.getD 0 (by omega)) (by rw [e3, c3]) ?_
    rintro ⟨h, h'⟩
    have hE : growL (leavesL T x) m true x = P := by rw [hcons _ hGl, hcons _ hPl, h, h']
    rw [hE] at e2'
    unfold gres at e2' c2
    rw [hg] at e2' c2
    simp only [Bool.false_eq_true, if_false] at e2' c2
    rw [e2'] at c2
    exact hne c2.symm
end Go.Proofs.YtfkloilbjfleeaaDoor
