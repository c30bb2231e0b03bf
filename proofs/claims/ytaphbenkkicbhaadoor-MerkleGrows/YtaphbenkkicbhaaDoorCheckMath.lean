/- Which paths and growths are taken, and that those made are: no walk. -/
import Derived.Test.YtaphbenkkicbhaaDoorMerkMath
namespace Go.Proofs.YtaphbenkkicbhaaDoor
open Go.RowKit
set_option linter.unusedVariables false

/-- the way down to a place: of each step whether it goes to the others -/
def stepsL (n i : Nat) : List Bool :=
  if h : n ≤ 1 then []
  else if i < splitN n then false :: stepsL (splitN n) i
  else true :: stepsL (n - splitN n) (i - splitN n)
  termination_by n
  decreasing_by
    · exact splitN_lt (by omega)
    · have := splitN_pos (n := n) (by omega)
      omega
theorem stepsL_one {n : Nat} (i : Nat) (h : n ≤ 1) : stepsL n i = [] := by rw [stepsL, dif_pos h]
theorem stepsL_left {n i : Nat} (h : 2 ≤ n) (hi : i < splitN n) : stepsL n i = false :: stepsL (splitN n) i := by rw [stepsL, dif_neg (by omega), if_pos hi]
theorem stepsL_right {n i : Nat} (h : 2 ≤ n) (hi : ¬ i < splitN n) : stepsL n i = true :: stepsL (n - splitN n) (i - splitN n) := by rw [stepsL, dif_neg (by omega), if_neg hi]
theorem stepsL_pos {n : Nat} (i : Nat) (h : 2 ≤ n) : 1 ≤ (stepsL n i).length := by
  by_cases hi : i < splitN n
  · rw [stepsL_left h hi, List.length_cons]; omega
  · rw [stepsL_right h hi, List.length_cons]; omega
/-- no more steps than the length has bits -/
theorem stepsL_bits (b : Nat) : ∀ n i, n ≤ 2 ^ b → (stepsL n i).length ≤ b := by
  induction b with
  | zero => intro n i h; rw [stepsL_one i (by simpa using h)]; exact Nat.le_refl _
  | succ b ih =>
    intro n i h
    by_cases h1 : n ≤ 1
    · rw [stepsL_one i h1]; exact Nat.zero_le _
    · obtain ⟨c, hc, hs⟩ := splitN_le (n := n) (by omega) h
      obtain rfl : b = c := by omega
      have hh := splitN_half (n := n) (by omega)
      by_cases hi : i < splitN n
      · rw [stepsL_left (by omega) hi, List.length_cons]
        have := ih (splitN n) i hs; omega
      · rw [stepsL_right (by omega) hi, List.length_cons]
        have := ih (n - splitN n) (i - splitN n) (by omega); omega
/-- up again -/
def upL (x : Int) : List Bool → List (List Int) → List Int → List Int
  | b :: bs, p :: ps, d => upL x bs ps (if b then nodeL p d x else nodeL d p x)
  | _, _, d => d
theorem upL_nil (x : Int) (ps : List (List Int)) (d : List Int) : upL x [] ps d = d := by cases ps <;> rfl
theorem upL_snoc (x : Int) (b : Bool) (p : List Int) : ∀ (rs : List Bool) (ps : List (List Int)) (d : List Int), rs.length = ps.length → upL x (rs ++ [b]) (ps ++ [p]) d = (if b then nodeL p (upL x rs ps d) x else nodeL (upL x rs ps d) p x) := by
  intro rs
  induction rs with
  | nil => intro ps d h; obtain rfl := List.eq_nil_of_length_eq_zero h.symm; rfl
  | cons c r ih =>
    intro ps d h
    cases ps with
    | nil => simp at h
    | cons q qs =>
      show upL x (r ++ [b]) (qs ++ [p]) _ = _
      rw [ih qs _ (by simpa using h)]; rfl
theorem upL_dg (x : Int) : ∀ (rs : List Bool) (ps : List (List Int)) (d : List Int), Dg d → Dg (upL x rs ps d) := by
  intro rs
  induction rs with
  | nil => intro ps d h; rw [upL_nil]; exact h
  | cons c r ih =>
    intro ps d h
    cases ps with
    | nil => exact h
    | cons q qs =>
      refine ih qs _ ?_
      split
      · exact nodeL_dg _ _ _
      · exact nodeL_dg _ _ _
theorem last_split (P : List (List Int)) (len : Nat) (h : P.length = len) (h1 : 1 ≤ len) : P = P.take (len - 1) ++ [P.getD (len - 1) []] := by
  have hlt : len - 1 < P.length := by omega
  have e := List.take_succ_eq_append_getElem hlt
  rw [List.getD_eq_getElem?_getD, List.getElem?_eq_getElem hlt]
  show _ = _ ++ [P[len - 1]]
  rw [← e, show len - 1 + 1 = P.length from by omega, List.take_length]
/-- whether a path is taken -/
def chkP (root : List Int) (n i : Int) (leaf : List Int) (P : List (List Int)) (x : Int) : Bool :=
  decide (0 ≤ i ∧ i < n) && (decide ((stepsL n.toNat i.toNat).length = P.length) && decide (upL x (stepsL n.toNat i.toNat).reverse P leaf = root))
/-- the path of a place leads to the root -/
theorem path_up (m : Nat) : ∀ (L : List (List Int)) (i : Nat) (x : Int), L.length ≤ m → i < L.length → (stepsL L.length i).length = (pathL L i x).length ∧ upL x (stepsL L.length i).reverse (pathL L i x) (L.getD i []) = rootL L x := by
  induction m with
  | zero => intro L i x h hi; omega
  | succ m ih =>
    intro L i x h hi
    by_cases h1 : L.length ≤ 1
    · obtain rfl : i = 0 := by omega
      rw [stepsL_one 0 h1, pathL_one L 0 x h1, rootL_one L x (by omega)]
      exact ⟨rfl, rfl⟩
    · have hp := splitN_pos (n := L.length) (by omega)
      have hlt := splitN_lt (n := L.length) (by omega)
      have et : (L.take (splitN L.length)).length = splitN L.length := by rw [List.length_take]; omega
      have ed : (L.drop (splitN L.length)).length = L.length - splitN L.length := List.length_drop ..
      rw [rootL_more L x (by omega)]
      by_cases hi2 : i < splitN L.length
      · rw [stepsL_left (by omega) hi2, pathL_left L i x (by omega) hi2]
        obtain ⟨e1, e2⟩ := ih (L.take (splitN L.length)) i x (by omega) (by omega)
        rw [et] at e1 e2
        have e3 : (L.take (splitN L.length)).getD i [] = L.getD i [] := by rw [List.getD_eq_getElem?_getD, List.getElem?_take, if_pos hi2, ← List.getD_eq_getElem?_getD]
        rw [e3] at e2
        refine ⟨by rw [List.length_cons, List.length_append, e1]; rfl, ?_⟩
        rw [List.reverse_cons, upL_snoc x false _ _ _ _ (by rw [List.length_reverse, e1]), e2]; rfl
      · rw [stepsL_right (by omega) hi2, pathL_right L i x (by omega) hi2]
        obtain ⟨e1, e2⟩ := ih (L.drop (splitN L.length)) (i - splitN L.length) x (by omega) (by omega)
        rw [ed] at e1 e2
        have e3 : (L.drop (splitN L.length)).getD (i - splitN L.length) [] = L.getD i [] := by rw [List.getD_eq_getElem?_getD, List.getElem?_drop, show splitN L.length + (i - splitN L.length) = i from by omega, ← List.getD_eq_getElem?_getD]
        rw [e3] at e2
        refine ⟨by rw [List.length_cons, List.length_append, e1]; rfl, ?_⟩
        rw [List.reverse_cons, upL_snoc x true _ _ _ _ (by rw [List.length_reverse, e1]), e2]; rfl
theorem chkP_yes (L : List (List Int)) (i : Nat) (x : Int) (hi : i < L.length) : chkP (rootL L x) (L.length : Int) (i : Int) (L.getD i []) (pathL L i x) x = true := by
  obtain ⟨e1, e2⟩ := path_up L.length L i x (Nat.le_refl _) hi
  unfold chkP
  rw [show ((L.length : Int)).toNat = L.length from by omega, show ((i : Int)).toNat = i from by omega, e1, e2]
  simp; omega

/-- the way down to where the first list ends -/
def gstepsL (n m : Nat) : List Bool :=
  if h : n ≤ m ∨ m = 0 then []
  else if m ≤ splitN n then false :: gstepsL (splitN n) m
  else true :: gstepsL (n - splitN n) (m - splitN n)
  termination_by n
  decreasing_by
    · exact splitN_lt (by omega)
    · have := splitN_pos (n := n) (by omega)
      omega
theorem gsteps_end {n m : Nat} (h : n ≤ m) : gstepsL n m = [] := by rw [gstepsL, dif_pos (.inl h)]
theorem gsteps_left {n m : Nat} (h1 : 1 ≤ m) (h : m < n) (hm : m ≤ splitN n) : gstepsL n m = false :: gstepsL (splitN n) m := by rw [gstepsL, dif_neg (by omega), if_pos hm]
theorem gsteps_right {n m : Nat} (h : m < n) (hm : ¬ m ≤ splitN n) : gstepsL n m = true :: gstepsL (n - splitN n) (m - splitN n) := by rw [gstepsL, dif_neg (by omega), if_neg hm]
theorem gsteps_bits (b : Nat) : ∀ n m, 1 ≤ m → n ≤ 2 ^ b → (gstepsL n m).length ≤ b := by
  induction b with
  | zero => intro n m h1 h; rw [gsteps_end (by have : n ≤ 1 := by simpa using h
                                               omega)]; exact Nat.le_refl _
  | succ b ih =>
    intro n m h1 h
    by_cases hm : n ≤ m
    · rw [gsteps_end hm]; exact Nat.zero_le _
    · obtain ⟨c, hc, hs⟩ := splitN_le (n := n) (by omega) h
      obtain rfl : b = c := by omega
      have hh := splitN_half (n := n) (by omega)
      by_cases hi : m ≤ splitN n
      · rw [gsteps_left h1 (by omega) hi, List.length_cons]
        have := ih (splitN n) m h1 hs; omega
      · rw [gsteps_right (by omega) hi, List.length_cons]
        have := ih (n - splitN n) (m - splitN n) (by omega) (by omega); omega
/-- is the first list whole at the way's end? -/
def gwh (b : Bool) (s : List Bool) : Bool := b && s.all (fun c => !c)
theorem gwh_false (b : Bool) (s : List Bool) : gwh b (false :: s) = gwh b s := by simp [gwh]
theorem gwh_true (b : Bool) (s : List Bool) : gwh b (true :: s) = false := by simp [gwh]
theorem gwh_no (s : List Bool) : gwh false s = false := rfl
/-- how many digests the growth has -/
def need (b : Bool) (s : List Bool) : Nat := s.length + (if gwh b s then 0 else 1)
theorem need_left (b : Bool) (s : List Bool) : need b (false :: s) = need b s + 1 := by
  unfold need; rw [gwh_false, List.length_cons]; omega
theorem need_right (b : Bool) (s : List Bool) : need b (true :: s) = need false s + 1 := by
  unfold need; rw [gwh_true, gwh_no, List.length_cons]; omega
/-- both roots, up again -/
def gup (x : Int) : List Bool → List (List Int) → List Int × List Int → List Int × List Int
  | b :: bs, p :: ps, d => gup x bs ps (if b then (nodeL p d.1 x, nodeL p d.2 x) else (d.1, nodeL d.2 p x))
  | _, _, d => d
theorem gup_nil (x : Int) (ps : List (List Int)) (d : List Int × List Int) : gup x [] ps d = d := by cases ps <;> rfl
theorem gup_snoc (x : Int) (b : Bool) (p : List Int) : ∀ (rs : List Bool) (ps : List (List Int)) (d : List Int × List Int), rs.length = ps.length → gup x (rs ++ [b]) (ps ++ [p]) d = (if b then (nodeL p (gup x rs ps d).1 x, nodeL p (gup x rs ps d).2 x) else ((gup x rs ps d).1, nodeL (gup x rs ps d).2 p x)) := by
  intro rs
  induction rs with
  | nil => intro ps d h; obtain rfl := List.eq_nil_of_length_eq_zero h.symm; rfl
  | cons c r ih =>
    intro ps d h
    cases ps with
    | nil => simp at h
    | cons q qs =>
      show gup x (r ++ [b]) (qs ++ [p]) _ = _
      rw [ih qs _ (by simpa using h)]; rfl
theorem gup_dg (x : Int) : ∀ (rs : List Bool) (ps : List (List Int)) (d : List Int × List Int), Dg d.1 → Dg d.2 → Dg (gup x rs ps d).1 ∧ Dg (gup x rs ps d).2 := by
  intro rs
  induction rs with
  | nil => intro ps d h1 h2; rw [gup_nil]; exact ⟨h1, h2⟩
  | cons c r ih =>
    intro ps d h1 h2
    cases ps with
    | nil => exact ⟨h1, h2⟩
    | cons q qs =>
      refine ih qs _ ?_ ?_ <;> split
      · exact nodeL_dg _ _ _
      · exact h1
      · exact nodeL_dg _ _ _
      · exact nodeL_dg _ _ _
/-- both roots, of the way, the old root and the growth -/
def gres (x : Int) (b : Bool) (s : List Bool) (P : List (List Int)) (old : List Int) : List Int × List Int :=
  if gwh b s then gup x s.reverse P (old, old) else gup x s.reverse (P.drop 1) (P.getD 0 [], P.getD 0 [])
theorem gres_left (x : Int) (b : Bool) (s : List Bool) (P : List (List Int)) (r old : List Int) (h : P.length = need b s) : gres x b (false :: s) (P ++ [r]) old = ((gres x b s P old).1, nodeL (gres x b s P old).2 r x) := by
  unfold gres need at *
  rw [gwh_false, List.reverse_cons]
  by_cases hg : gwh b s = true
  · rw [if_pos hg] at h ⊢
    rw [if_pos hg, gup_snoc x false r _ _ _ (by rw [List.length_reverse]; omega)]; rfl
  · rw [if_neg hg] at h ⊢
    rw [if_neg hg, List.drop_append_of_le_length (by omega), show (P ++ [r]).getD 0 [] = P.getD 0 [] from by rw [List.getD_eq_getElem?_getD, List.getElem?_append_left (by omega), ← List.getD_eq_getElem?_getD],
      gup_snoc x false r _ _ _ (by rw [List.length_reverse, List.length_drop]; omega)]; rfl
theorem gres_right (x : Int) (b : Bool) (s : List Bool) (P : List (List Int)) (r old : List Int) (h : P.length = need false s) : gres x b (true :: s) (P ++ [r]) old = (nodeL r (gres x false s P old).1 x, nodeL r (gres x false s P old).2 x) := by
  unfold gres need at *
  rw [gwh_true, gwh_no] at *
  simp only [Bool.false_eq_true, if_false] at h ⊢
  rw [List.reverse_cons, List.drop_append_of_le_length (by omega), show (P ++ [r]).getD 0 [] = P.getD 0 [] from by rw [List.getD_eq_getElem?_getD, List.getElem?_append_left (by omega), ← List.getD_eq_getElem?_getD],
    gup_snoc x true r _ _ _ (by rw [List.length_reverse, List.length_drop]; omega)]; rfl
/-- whether a growth is taken -/
def chkG (old : List Int) (m : Int) (root : List Int) (n : Int) (P : List (List Int)) (x : Int) : Bool :=
  decide (1 ≤ m ∧ m ≤ n) && (decide (P.length = need true (gstepsL n.toNat m.toNat)) && (decide ((gres x true (gstepsL n.toNat m.toNat) P old).1 = old) && decide ((gres x true (gstepsL n.toNat m.toNat) P old).2 = root)))
/-- the growth leads from the one root to the other -/
theorem grow_up (k : Nat) : ∀ (L : List (List Int)) (m : Nat) (b : Bool) (x : Int) (old : List Int), L.length ≤ k → 1 ≤ m → m ≤ L.length → (b = true → old = rootL (L.take m) x) → (growL L m b x).length = need b (gstepsL L.length m) ∧ gres x b (gstepsL L.length m) (growL L m b x) old = (rootL (L.take m) x, rootL L x) := by
  induction k with
  | zero => intro L m b x old h h1 h2; omega
  | succ k ih =>
    intro L m b x old h h1 h2 ho
    by_cases hm : m = L.length
    · subst hm
      rw [gsteps_end (Nat.le_refl _), List.take_length]
      rw [List.take_length] at ho
      cases b with
      | true => rw [growL_all, ← ho rfl]; exact ⟨rfl, rfl⟩
      | false => rw [growL_some]; exact ⟨rfl, rfl⟩
    · have hp := splitN_pos (n := L.length) (by omega)
      have hlt := splitN_lt (n := L.length) (by omega)
      have et : (L.take (splitN L.length)).length = splitN L.length := by rw [List.length_take]; omega
      have ed : (L.drop (splitN L.length)).length = L.length - splitN L.length := List.length_drop ..
      by_cases hi : m ≤ splitN L.length
      · have e3 : (L.take (splitN L.length)).take m = L.take m := by rw [List.take_take, Nat.min_eq_left hi]
        obtain ⟨e1, e2⟩ := ih (L.take (splitN L.length)) m b x old (by omega) h1 (by omega) (by rw [e3]; exact ho)
        rw [et] at e1 e2
        rw [gsteps_left h1 (by omega) hi, growL_left L m b x h1 (by omega) hi, need_left, gres_left x b _ _ _ old e1, e2, e3, ← rootL_more L x (by omega)]
        exact ⟨by rw [List.length_append, e1]; rfl, rfl⟩
      · obtain ⟨e1, e2⟩ := ih (L.drop (splitN L.length)) (m - splitN L.length) false x old (by omega) (by omega) (by omega) (by intro h; cases h)
        rw [ed] at e1 e2
        rw [gsteps_right (by omega) hi, growL_right L m b x (by omega) hi, need_right, gres_right x b _ _ _ old e1, e2]
        refine ⟨by rw [List.length_append, e1]; rfl, ?_⟩
        rw [← rootL_more L x (by omega)]
        congr 1
        have hml : (L.take m).length = m := by rw [List.length_take]; omega
        have hsp : splitN m = splitN L.length := by
          obtain ⟨j, hj⟩ := splitN_pow (n := L.length) (by omega)
          have hh := splitN_half (n := L.length) (by omega)
          rw [hj] at hi hh ⊢
          exact splitN_of (by omega) (by rw [Nat.pow_succ]; omega)
        rw [rootL_more (L.take m) x (by omega), hml, hsp, List.take_take, Nat.min_eq_left (by omega), List.drop_take]
theorem chkG_yes (L : List (List Int)) (m : Nat) (x : Int) (h1 : 1 ≤ m) (h2 : m ≤ L.length) : chkG (rootL (L.take m) x) (m : Int) (rootL L x) (L.length : Int) (growL L m true x) x = true := by
  obtain ⟨e1, e2⟩ := grow_up L.length L m true x (rootL (L.take m) x) (Nat.le_refl _) h1 h2 (fun _ => rfl)
  unfold chkG
  rw [show ((L.length : Int)).toNat = L.length from by omega, show ((m : Int)).toNat = m from by omega, e1, e2]
  simp; omega
theorem grow_bits (L : List (List Int)) (m b : Nat) (x : Int) (h1 : 1 ≤ m) (h2 : m ≤ L.length) (hb : L.length ≤ 2 ^ b) : (growL L m true x).length ≤ b + 1 := by
  obtain ⟨e1, _⟩ := grow_up L.length L m true x (rootL (L.take m) x) (Nat.le_refl _) h1 h2 (fun _ => rfl)
  have := gsteps_bits b L.length m h1 hb
  rw [e1]; unfold need; split <;> omega
theorem path_bits (L : List (List Int)) (i b : Nat) (x : Int) (h : i < L.length) (hb : L.length ≤ 2 ^ b) : (pathL L i x).length ≤ b := by
  obtain ⟨e1, _⟩ := path_up L.length L i x (Nat.le_refl _) h
  rw [← e1]; exact stepsL_bits b L.length i hb
end Go.Proofs.YtaphbenkkicbhaaDoor
