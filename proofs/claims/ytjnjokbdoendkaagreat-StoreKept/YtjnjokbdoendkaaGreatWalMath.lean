/- A log on a disk, as the mathematics has it: frames in sectors, what is read of them, what is written. No walk. -/
import Derived.Test.YtjnjokbdoendkaaGreatFBurst
import Derived.Test.YtjnjokbdoendkaaGreatDiskMath
namespace Go.Proofs.YtjnjokbdoendkaaGreat
open Go.RowKit
set_option linter.unusedVariables false

/-- how many sectors so many bytes take -/
def ns (n : Nat) : Nat := (n + 63) / 64
/-- the bytes of sectors -/
def flat (F : List (List Int)) : List Int := F.flatten
set_option maxRecDepth 100000 in
theorem flat_nil : flat [] = [] := rfl
set_option maxRecDepth 100000 in
theorem flat_cons (x : List Int) (F : List (List Int)) : flat (x :: F) = x ++ flat F := rfl
set_option maxRecDepth 100000 in
theorem flat_append (F G : List (List Int)) : flat (F ++ G) = flat F ++ flat G := by simp [flat]
set_option maxRecDepth 100000 in
theorem flat_len {F : List (List Int)} (h : Sxl F) : (flat F).length = 64 * F.length := by
  induction F with
  | nil => rfl
  | cons x r ih =>
    rw [flat_cons, List.length_append, ih (fun d hd => h d (by simp [hd])), (h x (by simp)).1, List.length_cons]; omega
set_option maxRecDepth 100000 in
theorem flat_byt {F : List (List Int)} (h : Sxl F) : Byt (flat F) := by
  intro c hc
  obtain ⟨d, hd, hcd⟩ := List.mem_flatten.1 hc
  exact (h d hd).2 c hcd
set_option maxRecDepth 100000 in
theorem Sxl.drop {F : List (List Int)} (h : Sxl F) (k : Nat) : Sxl (F.drop k) := fun d hd => h d (List.mem_of_mem_drop hd)
set_option maxRecDepth 100000 in
theorem Sxl.take {F : List (List Int)} (h : Sxl F) (k : Nat) : Sxl (F.take k) := fun d hd => h d (List.mem_of_mem_take hd)
set_option maxRecDepth 100000 in
theorem Sxl.append {F G : List (List Int)} (h : Sxl F) (k : Sxl G) : Sxl (F ++ G) := fun d hd => by
  rcases List.mem_append.1 hd with h1 | h1
  · exact h d h1
  · exact k d h1
set_option maxRecDepth 100000 in
theorem flat_drop {F : List (List Int)} (h : Sxl F) (k : Nat) : (flat F).drop (64 * k) = flat (F.drop k) := by
  by_cases hk : k ≤ F.length
  · have e : flat F = flat (F.take k) ++ flat (F.drop k) := by rw [← flat_append, List.take_append_drop]
    have hl : (flat (F.take k)).length = 64 * k := by rw [flat_len (h.take k), List.length_take]; congr 1; omega
    rw [e, ← hl, List.drop_left]
  · rw [List.drop_of_length_le (by rw [flat_len h]; omega), List.drop_of_length_le (by omega)]; rfl
set_option maxRecDepth 100000 in
theorem flat_sec {F : List (List Int)} (h : Sxl F) (k : Nat) (hk : k < F.length) : ((flat F).drop (64 * k)).take 64 = F.getD k [] := by
  rw [flat_drop h, List.drop_eq_getElem_cons hk, flat_cons, List.getD_eq_getElem?_getD, List.getElem?_eq_getElem hk]
  have h1 := (h _ (List.getElem_mem hk)).1
  show List.take 64 (F[k] ++ _) = F[k]
  rw [← h1, List.take_left]

/-- bytes cut into pieces of 64 -/
def prtN : Nat → List Int → List (List Int)
  | 0, _ => []
  | n + 1, f => f.take 64 :: prtN n (f.drop 64)
def prt (f : List Int) : List (List Int) := prtN (ns f.length) f
set_option maxRecDepth 100000 in
theorem prtN_len (n : Nat) (f : List Int) : (prtN n f).length = n := by
  induction n generalizing f with
  | zero => rfl
  | succ n ih => rw [prtN, List.length_cons, ih]
set_option maxRecDepth 100000 in
theorem prt_len (f : List Int) : (prt f).length = ns f.length := prtN_len _ _
set_option maxRecDepth 100000 in
theorem prtN_getD (n : Nat) (f : List Int) (i : Nat) (h : i < n) : (prtN n f).getD i [] = (f.drop (64 * i)).take 64 := by
  induction n generalizing f i with
  | zero => omega
  | succ n ih =>
    cases i with
    | zero => rfl
    | succ i =>
      show (prtN n (f.drop 64)).getD i [] = _
      rw [ih _ _ (by omega), List.drop_drop, show 64 + 64 * i = 64 * (i + 1) from by omega]
set_option maxRecDepth 100000 in
theorem prt_getD (f : List Int) (i : Nat) (h : i < ns f.length) : (prt f).getD i [] = (f.drop (64 * i)).take 64 := prtN_getD _ _ _ h
/-- its sectors -/
def chk (f : List Int) : List (List Int) := (prt f).map pad64
set_option maxRecDepth 100000 in
theorem chk_len (f : List Int) : (chk f).length = ns f.length := by rw [chk, List.length_map, prt_len]
set_option maxRecDepth 100000 in
theorem prtN_mem (n : Nat) (f : List Int) (h : Byt f) : ∀ p ∈ prtN n f, p.length ≤ 64 ∧ Byt p := by
  induction n generalizing f with
  | zero => intro p hp; cases hp
  | succ n ih =>
    intro p hp
    rw [prtN] at hp
    rcases List.mem_cons.1 hp with h1 | h1
    · rw [h1]; exact ⟨List.length_take_le _ _, h.take 64⟩
    · exact ih (f.drop 64) (fun c hc => h c (List.mem_of_mem_drop hc)) p h1
set_option maxRecDepth 100000 in
theorem chk_sx (f : List Int) (h : Byt f) : Sxl (chk f) := fun d hd => by
  obtain ⟨p, hp, rfl⟩ := List.mem_map.1 hd
  obtain ⟨h1, h2⟩ := prtN_mem _ f h p hp
  exact pad64_sx h2 h1
set_option maxRecDepth 100000 in
theorem pad_nil (n : Nat) : flat ((prtN n []).map pad64) = List.replicate (64 * n) 0 := by
  induction n with
  | zero => rfl
  | succ n ih =>
    show pad64 (([] : List Int).take 64) ++ flat ((prtN n (([] : List Int).drop 64)).map pad64) = _
    rw [List.take_nil, List.drop_nil, ih, show 64 * (n + 1) = 64 + 64 * n from by omega, ← List.replicate_append_replicate]; rfl
set_option maxRecDepth 100000 in
theorem flat_prtN (n : Nat) (f : List Int) (h : f.length ≤ 64 * n) : flat ((prtN n f).map pad64) = f ++ List.replicate (64 * n - f.length) 0 := by
  induction n generalizing f with
  | zero =>
    have : f = [] := List.eq_nil_of_length_eq_zero (by omega)
    subst this; rfl
  | succ n ih =>
    show pad64 (f.take 64) ++ flat ((prtN n (f.drop 64)).map pad64) = _
    by_cases h64 : f.length ≤ 64
    · have e1 : f.take 64 = f := List.take_of_length_le h64
      have e2 : f.drop 64 = [] := List.drop_of_length_le h64
      rw [e1, e2, pad_nil, pad64, List.append_assoc, List.replicate_append_replicate]
      congr 2; omega
    · have e1 : pad64 (f.take 64) = f.take 64 := by
        unfold pad64
        rw [List.length_take, show 64 - min 64 f.length = 0 from by omega]; simp
      rw [e1, ih _ (by rw [List.length_drop]; omega), ← List.append_assoc, List.take_append_drop, List.length_drop]
      congr 2; omega
set_option maxRecDepth 100000 in
theorem ns_ge (n : Nat) : n ≤ 64 * ns n := by unfold ns; omega
set_option maxRecDepth 100000 in
theorem flat_chk (f : List Int) : flat (chk f) = f ++ List.replicate (64 * ns f.length - f.length) 0 := flat_prtN _ _ (ns_ge _)

/-- a text that goes into a frame -/
def TOk (T : List (List Int)) : Prop := ∀ t ∈ T, t.length ≤ 16384 ∧ Byt t
set_option maxRecDepth 100000 in
theorem TOk.nil : TOk [] := fun t ht => by cases ht
set_option maxRecDepth 100000 in
theorem TOk.append {T U : List (List Int)} (h : TOk T) (k : TOk U) : TOk (T ++ U) := fun t ht => by
  rcases List.mem_append.1 ht with h1 | h1
  · exact h t h1
  · exact k t h1
set_option maxRecDepth 100000 in
theorem TOk.one {t : List Int} (h : t.length ≤ 16384) (hb : Byt t) : TOk [t] := fun u hu => by rw [List.mem_singleton.1 hu]; exact ⟨h, hb⟩
set_option maxRecDepth 100000 in
theorem TOk.snoc {T : List (List Int)} {t : List Int} (h : TOk T) (h1 : t.length ≤ 16384) (hb : Byt t) : TOk (T ++ [t]) := h.append (TOk.one h1 hb)
/-- the frames of texts, behind k others -/
def FrS : Nat → List (List Int) → List (List Int)
  | _, [] => []
  | k, t :: r => chk (frmL ((k : Int) + 1) t) ++ FrS (k + 1) r
set_option maxRecDepth 100000 in
theorem FrS_append (k : Nat) (T U : List (List Int)) : FrS k (T ++ U) = FrS k T ++ FrS (k + T.length) U := by
  induction T generalizing k with
  | nil => rfl
  | cons t r ih =>
    rw [List.cons_append, FrS, FrS, ih, List.append_assoc, List.length_cons, show k + 1 + r.length = k + (r.length + 1) from by omega]
set_option maxRecDepth 100000 in
theorem FrS_snoc (T : List (List Int)) (t : List Int) : FrS 0 (T ++ [t]) = FrS 0 T ++ chk (frmL ((T.length : Int) + 1) t) := by
  rw [FrS_append, Nat.zero_add]
  show _ ++ (chk _ ++ []) = _
  rw [List.append_nil]
set_option maxRecDepth 100000 in
theorem FrS_sx (k : Nat) (T : List (List Int)) (h : TOk T) : Sxl (FrS k T) := by
  induction T generalizing k with
  | nil => intro d hd; cases hd
  | cons t r ih => exact (chk_sx _ (frmL_byt _ _ (h t (by simp)).2)).append (ih (k + 1) (fun u hu => h u (by simp [hu])))
set_option maxRecDepth 100000 in
theorem ns_pos (n : Nat) : 1 ≤ ns (20 + n) := by unfold ns; omega
set_option maxRecDepth 100000 in
theorem FrS_len_ge (k : Nat) (T : List (List Int)) : T.length ≤ (FrS k T).length := by
  induction T generalizing k with
  | nil => exact Nat.le_refl _
  | cons t r ih =>
    have := ih (k + 1)
    have h2 := ns_pos t.length
    rw [FrS, List.length_append, chk_len, frmL_len, List.length_cons]; omega

/-- what is read: the texts, and where they end -/
def rfr (F : List (List Int)) : Nat → Nat → List (List Int) → Option (List (List Int) × Nat)
  | 0, _, _ => none
  | u + 1, p, T => if p < F.length ∧ F.getD p [] ≠ s0 then (if rdE (flat (F.drop p)) = 0 ∧ rdS (flat (F.drop p)) = (T.length : Int) + 1 then rfr F u (p + ns (rdN (flat (F.drop p)))) (T ++ [rdT (flat (F.drop p))]) else none) else some (T, p)
def rdF (F : List (List Int)) : Option (List (List Int) × Nat) := rfr F (F.length + 1) 0 []
set_option maxRecDepth 100000 in
/-- a frame's first sector is not noughts -/
theorem putL_zero (x : Int) (n : Nat) (h0 : 1 ≤ x) (h : x < 256 ^ n) : putL x n ≠ List.replicate n 0 := by
  intro e
  have h1 := getV_putL x n (by omega)
  rw [e, Int.emod_eq_of_lt (by omega) h] at h1
  have h2 : getV (List.replicate n 0) = 0 := by
    unfold getV
    suffices H : ∀ n : Nat, (List.replicate n (0 : Int)).foldl (fun y c => 256 * y + c) 0 = 0 from H n
    intro n
    induction n with
    | zero => rfl
    | succ n ih => rw [List.replicate_succ, List.foldl_cons]; exact ih
  omega
set_option maxRecDepth 100000 in
theorem chk_first (k : Nat) (t : List Int) (z : List (List Int)) (hk : k < 1000000) : (chk (frmL ((k : Int) + 1) t) ++ z).getD 0 [] ≠ s0 := by
  have hl : 20 ≤ (frmL ((k : Int) + 1) t).length := by rw [frmL_len]; omega
  have hn : 0 < ns (frmL ((k : Int) + 1) t).length := by unfold ns; omega
  have e : (chk (frmL ((k : Int) + 1) t) ++ z).getD 0 [] = pad64 ((frmL ((k : Int) + 1) t).take 64) := by
    have h1 : 0 < (chk (frmL ((k : Int) + 1) t)).length := by rw [chk_len]; exact hn
    have h2 := prt_getD (frmL ((k : Int) + 1) t) 0 hn
    have h3 : 0 < (prt (frmL ((k : Int) + 1) t)).length := by rw [prt_len]; exact hn
    rw [List.getD_eq_getElem?_getD, List.getElem?_append_left h1]
    unfold chk
    rw [List.getElem?_map, List.getElem?_eq_getElem h3]
    rw [List.getD_eq_getElem?_getD, List.getElem?_eq_getElem h3] at h2
    show pad64 (prt _)[0] = _
    rw [show (prt (frmL ((k : Int) + 1) t))[0] = ((frmL ((k : Int) + 1) t).drop (64 * 0)).take 64 from h2]; rfl
  rw [e]
  intro hs
  have h12 : (s0.drop 4).take 8 = List.replicate 8 0 := by decide
  have hd : ((frmL ((k : Int) + 1) t).drop 4).take 8 = putL ((k : Int) + 1) 8 := by
    unfold frmL headL
    rw [List.append_assoc, List.drop_append_of_le_length (by rw [putL_length]; exact Nat.le_refl _), List.drop_of_length_le (by rw [putL_length]; exact Nat.le_refl _), List.nil_append, List.take_append_of_le_length (by rw [putL_length]; exact Nat.le_refl _), List.take_of_length_le (by rw [putL_length]; exact Nat.le_refl _)]
  have e2 : ((pad64 ((frmL ((k : Int) + 1) t).take 64)).drop 4).take 8 = ((frmL ((k : Int) + 1) t).drop 4).take 8 := by
    unfold pad64
    rw [List.drop_append_of_le_length (by rw [List.length_take]; omega), List.take_append_of_le_length (by rw [List.length_drop, List.length_take]; omega), List.drop_take, List.take_take]
    congr 1
  rw [hs, h12, hd] at e2
  exact putL_zero _ 8 (by omega) (by omega) e2.symm
/-- behind the log's end a sector of noughts, or nothing -/
def Hd (D : List (List Int)) : Prop := ∀ x, D[0]? = some x → x = s0
def Lay (T : List (List Int)) (F : List (List Int)) : Prop := ∃ D, F = FrS 0 T ++ D ∧ Hd D
set_option maxRecDepth 100000 in
theorem rfr_lay (F D : List (List Int)) (hF : Sxl F) (hD : Hd D) : ∀ (R : List (List Int)) (u p : Nat) (T : List (List Int)), F.drop p = FrS T.length R ++ D → p ≤ F.length → R.length < u → TOk R → T.length + R.length < 1000000 → rfr F u p T = some (T ++ R, p + (FrS T.length R).length) := by
  intro R
  induction R with
  | nil =>
    intro u p T hd hp hu _ _
    obtain ⟨u, rfl⟩ : ∃ v, u = v + 1 := ⟨u - 1, by simp at hu; omega⟩
    have hd : F.drop p = D := hd
    rw [rfr, if_neg, List.append_nil]; rfl
    rintro ⟨h1, h2⟩
    refine h2 (hD _ ?_)
    rw [← hd, List.getElem?_drop, List.getD_eq_getElem?_getD, Nat.add_zero, List.getElem?_eq_getElem h1]; rfl
  | cons t r ih =>
    intro u p T hd hp hu hT hs
    obtain ⟨u, rfl⟩ : ∃ v, u = v + 1 := ⟨u - 1, by simp at hu; omega⟩
    simp only [List.length_cons] at hu hs
    have hc1 := chk_len (frmL ((T.length : Int) + 1) t)
    rw [frmL_len] at hc1
    have hpos := ns_pos t.length
    have hd : F.drop p = chk (frmL ((T.length : Int) + 1) t) ++ (FrS (T.length + 1) r ++ D) := by rw [hd, FrS, List.append_assoc]
    have hfl : flat (F.drop p) = frmL ((T.length : Int) + 1) t ++ (List.replicate (64 * ns (20 + t.length) - (20 + t.length)) 0 ++ flat (FrS (T.length + 1) r ++ D)) := by
      rw [hd, flat_append, flat_chk, frmL_len, List.append_assoc]
    obtain ⟨b1, b2, b3, b4⟩ := rd_back ((T.length : Int) + 1) t (List.replicate (64 * ns (20 + t.length) - (20 + t.length)) 0 ++ flat (FrS (T.length + 1) r ++ D)) (by omega) (by omega) (hT t (by simp)).1
    rw [← hfl] at b1 b2 b3 b4
    have hlen : (F.drop p).length = F.length - p := List.length_drop
    have hlt : p < F.length := by
      have : 0 < (F.drop p).length := by rw [hd, List.length_append, hc1]; omega
      omega
    have hfst : F.getD p [] ≠ s0 := by
      have h1 := chk_first T.length t (FrS (T.length + 1) r ++ D) (by omega)
      rw [← hd, List.getD_eq_getElem?_getD, List.getElem?_drop, Nat.add_zero, ← List.getD_eq_getElem?_getD] at h1
      exact h1
    rw [rfr, if_pos ⟨hlt, hfst⟩, if_pos ⟨b1, b2⟩, b3, b4]
    have hdr : F.drop (p + ns (20 + t.length)) = FrS (T ++ [t]).length r ++ D := by
      rw [← List.drop_drop, hd, ← hc1, List.drop_left, List.length_append]; rfl
    have hle : p + ns (20 + t.length) ≤ F.length := by
      have : (F.drop p).length = ns (20 + t.length) + (FrS (T.length + 1) r ++ D).length := by rw [hd, List.length_append, hc1]
      omega
    rw [ih u (p + ns (20 + t.length)) (T ++ [t]) hdr hle (by omega) (fun x hx => hT x (by simp [hx])) (by rw [List.length_append]; simp; omega)]
    rw [List.append_assoc, FrS, List.length_append, List.length_append, hc1]
    show some (T ++ t :: r, _) = some (T ++ t :: r, _)
    rw [show T.length + [t].length = T.length + 1 from rfl, Nat.add_assoc]
set_option maxRecDepth 100000 in
theorem rd_lay {T F : List (List Int)} (hF : Sxl F) (h : Lay T F) (hT : TOk T) (hn : F.length ≤ 4096) : rdF F = some (T, (FrS 0 T).length) := by
  obtain ⟨D, hd, hD⟩ := h
  have h1 := FrS_len_ge 0 T
  have h2 : F.length = (FrS 0 T).length + D.length := by rw [hd, List.length_append]
  have := rfr_lay F D hF hD T (F.length + 1) 0 [] hd (Nat.zero_le _) (by omega) hT (by simp; omega)
  rw [rdF, this, List.nil_append, Nat.zero_add]; rfl
set_option maxRecDepth 100000 in
/-- what is read, step by step, stays on the disk -/
theorem rdN_le {X : List Int} (hX : Byt X) (h : rdE X = 0) : rdN X ≤ X.length ∧ 20 ≤ rdN X ∧ (rdT X).length ≤ 16384 ∧ rdN X = 20 + (rdT X).length ∧ rdS X < 18446744073709551616 := by
  obtain ⟨_, _, h3, h4, h5, h6⟩ := rd_one X hX h
  have : rdN X = 20 + rdC X := by unfold rdN; rw [if_pos h]
  exact ⟨h5, by omega, h4, by omega, h3⟩
set_option maxRecDepth 100000 in
theorem rdT_byt {X : List Int} (hX : Byt X) : Byt (rdT X) := by
  unfold rdT; split
  · exact fun c hc => hX c (List.mem_of_mem_drop (List.mem_of_mem_take hc))
  · exact Byt.nil
end Go.Proofs.YtjnjokbdoendkaaGreat
