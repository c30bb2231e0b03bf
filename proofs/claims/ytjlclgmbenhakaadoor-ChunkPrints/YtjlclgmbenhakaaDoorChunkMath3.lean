/- Bytes in chunks of a size, and that they are read. No walk. -/
import Derived.Test.YtjlclgmbenhakaaDoorChunkMath2
namespace Go.Proofs.YtjlclgmbenhakaaDoor
open Go.RowKit
set_option linter.unusedVariables false

def hxD (n : Nat) : Int := if n < 10 then 48 + (n : Int) else 87 + (n : Int)
set_option maxRecDepth 100000 in
theorem dgt_hx (n : Nat) (h : n < 16) : dgt (hxD n) = n := by
  unfold dgt hxD
  by_cases h1 : n < 10
  · rw [if_pos h1, if_pos (by omega)]; omega
  · rw [if_neg h1, if_neg (by omega), if_pos (by omega)]; omega
set_option maxRecDepth 100000 in
theorem hx_13 (n : Nat) : hxD n ≠ 13 := by unfold hxD; split <;> omega
set_option maxRecDepth 100000 in
theorem hxD_byt (n : Nat) (h : n < 16) : 0 ≤ hxD n ∧ hxD n ≤ 255 := by unfold hxD; split <;> omega
/-- a number's digits; f: enough -/
def hexF : Nat → Nat → List Int
  | 0, _ => []
  | f + 1, n => if n < 16 then [hxD n] else hexF f (n / 16) ++ [hxD (n % 16)]
def hexN (n : Nat) : List Int := hexF (n + 1) n
set_option maxRecDepth 100000 in
theorem hexF_enough : ∀ (f g n : Nat), n < f → n < g → hexF f n = hexF g n
  | 0, _, n, h, _ => by omega
  | _ + 1, 0, n, _, h => by omega
  | f + 1, g + 1, n, h1, h2 => by
    show (if n < 16 then _ else hexF f (n / 16) ++ _) = if n < 16 then _ else hexF g (n / 16) ++ _
    by_cases h : n < 16
    · rw [if_pos h, if_pos h]
    · rw [if_neg h, if_neg h, hexF_enough f g (n / 16) (by omega) (by omega)]
set_option maxRecDepth 100000 in
theorem hexN_lt {n : Nat} (h : n < 16) : hexN n = [hxD n] := by unfold hexN hexF; rw [if_pos h]
set_option maxRecDepth 100000 in
theorem hexN_ge {n : Nat} (h : ¬ n < 16) : hexN n = hexN (n / 16) ++ [hxD (n % 16)] := by
  unfold hexN
  show (if n < 16 then _ else hexF n (n / 16) ++ _) = _
  rw [if_neg h, hexF_enough n (n / 16 + 1) (n / 16) (by omega) (by omega)]
set_option maxRecDepth 100000 in
theorem hexN_byt (n : Nat) : Byt (hexN n) := by
  induction n using Nat.strongRecOn with
  | ind n ih =>
    by_cases h : n < 16
    · rw [hexN_lt h]
      intro c hc
      obtain rfl : c = hxD n := by simpa using hc
      exact hxD_byt n h
    · rw [hexN_ge h]
      refine Byt.append (ih (n / 16) (by omega)) ?_
      intro c hc
      obtain rfl : c = hxD (n % 16) := by simpa using hc
      exact hxD_byt _ (by omega)
set_option maxRecDepth 100000 in
theorem hexN_len (n : Nat) : 1 ≤ (hexN n).length ∧ (n ≤ 4095 → (hexN n).length ≤ 3) := by
  by_cases h : n < 16
  · rw [hexN_lt h]; exact ⟨Nat.le_refl 1, fun _ => (by show 1 ≤ 3; decide)⟩
  · rw [hexN_ge h, List.length_append]
    refine ⟨by show 1 ≤ _ + 1; omega, fun hn => ?_⟩
    by_cases h2 : n / 16 < 16
    · rw [hexN_lt h2]; show 1 + 1 ≤ 3; decide
    · rw [hexN_ge h2, List.length_append, hexN_lt (by omega : n / 16 / 16 < 16)]; show 1 + 1 + 1 ≤ 3; decide
set_option maxRecDepth 100000 in
/-- a size is read -/
theorem hex_fld (most : Nat) (body : List Int) (n : Nat) : 1 ≤ n → body.length + n ≤ most → fld most ⟨0, 0, body⟩ (hexN n) = some ⟨2, n, body⟩ := by
  induction n using Nat.strongRecOn with
  | ind n ih =>
    intro hn hm
    by_cases h : n < 16
    · have e : stp most ⟨0, 0, body⟩ (hxD n) = (⟨2, n, body⟩, 0) := by
        show (if dgt (hxD n) = 16 then _ else if dgt (hxD n) = 0 then _ else if most < body.length + dgt (hxD n) then _ else _) = _
        rw [dgt_hx n h, if_neg (by omega), if_neg (by omega), if_neg (by omega)]
      rw [hexN_lt h, fld_go e (by show (2 : Nat) ≠ 10; decide)]; rfl
    · rw [hexN_ge h, fld_app, ih (n / 16) (by omega) (by omega) (by omega)]
      show fld most ⟨2, n / 16, body⟩ [hxD (n % 16)] = _
      have e : stp most ⟨2, n / 16, body⟩ (hxD (n % 16)) = (⟨2, n, body⟩, 0) := by
        show (if hxD (n % 16) = 13 then _ else if dgt (hxD (n % 16)) = 16 then _ else if most < body.length + (16 * (n / 16) + dgt (hxD (n % 16))) then _ else ((⟨2, 16 * (n / 16) + dgt (hxD (n % 16)), body⟩ : CS), (0 : Int))) = _
        rw [if_neg (hx_13 _), dgt_hx _ (by omega), if_neg (by omega), show 16 * (n / 16) + n % 16 = n from by omega, if_neg (by omega)]
      rw [fld_go e (by show (2 : Nat) ≠ 10; decide)]; rfl
set_option maxRecDepth 100000 in
/-- .. or it is too great -/
theorem hex_big (most : Nat) (body l : List Int) (n k : Nat) : body.length ≤ most → most < body.length + n → runW most ⟨0, 0, body⟩ (hexN n ++ l) k = ([], 0, 5) := by
  induction n using Nat.strongRecOn generalizing l with
  | ind n ih =>
    intro hb hm
    by_cases h : n < 16
    · have e : stp most ⟨0, 0, body⟩ (hxD n) = (⟨0, 0, body⟩, 5) := by
        show (if dgt (hxD n) = 16 then _ else if dgt (hxD n) = 0 then _ else if most < body.length + dgt (hxD n) then _ else _) = _
        rw [dgt_hx n h, if_neg (by omega), if_neg (by omega), if_pos hm]
      rw [hexN_lt h]
      exact run_err e (by decide)
    · rw [hexN_ge h, List.append_assoc]
      by_cases h2 : most < body.length + n / 16
      · exact ih (n / 16) (by omega) _ hb h2
      · rw [run_fld most _ _ _ _ _ (hex_fld most body (n / 16) (by omega) (by omega))]
        have e : stp most ⟨2, n / 16, body⟩ (hxD (n % 16)) = (⟨2, n / 16, body⟩, 5) := by
          show (if hxD (n % 16) = 13 then _ else if dgt (hxD (n % 16)) = 16 then _ else if most < body.length + (16 * (n / 16) + dgt (hxD (n % 16))) then _ else _) = _
          rw [if_neg (hx_13 _), dgt_hx _ (by omega), if_neg (by omega), if_pos (by omega)]
        exact run_err e (by decide)
/-- a chunk -/
def ckL (d : List Int) : List Int := hexN d.length ++ ([13, 10] ++ (d ++ [13, 10]))
set_option maxRecDepth 100000 in
theorem ck_fld (most : Nat) (body d : List Int) (hd : d ≠ []) (hm : body.length + d.length ≤ most) : fld most ⟨0, 0, body⟩ (ckL d) = some ⟨0, 0, body ++ d⟩ := by
  have h1 : 1 ≤ d.length := List.length_pos_iff.2 hd
  unfold ckL
  rw [fld_app, hex_fld most body d.length h1 hm]
  show fld most ⟨2, d.length, body⟩ (13 :: 10 :: (d ++ [13, 10])) = _
  rw [fld_go (s' := ⟨3, d.length, body⟩) rfl (by show (3 : Nat) ≠ 10; decide), fld_go (s' := ⟨4, d.length, body⟩) rfl (by show (4 : Nat) ≠ 10; decide), fld4 _ _ _ _ h1, if_neg (by rw [List.length_append]; omega), List.take_left' rfl, List.drop_left' rfl]
  rfl
set_option maxRecDepth 100000 in
theorem ck_len (d : List Int) : d.length + 5 ≤ (ckL d).length := by
  have := (hexN_len d.length).1
  unfold ckL
  rw [List.length_append, List.length_append, List.length_append]
  show d.length + 5 ≤ _ + (2 + (d.length + 2))
  omega
/-- bytes in chunks of so many; f: enough -/
def prF (size : Nat) : Nat → List Int → List Int
  | 0, _ => [48, 13, 10, 13, 10]
  | f + 1, b => if b = [] then [48, 13, 10, 13, 10] else ckL (b.take size) ++ prF size f (b.drop size)
def prL (size : Nat) (b : List Int) : List Int := prF size b.length b
set_option maxRecDepth 100000 in
theorem prF_enough (size : Nat) (hs : 1 ≤ size) : ∀ (f g : Nat) (b : List Int), b.length ≤ f → b.length ≤ g → prF size f b = prF size g b
  | 0, g, b, h, _ => by
    have hb : b = [] := List.eq_nil_of_length_eq_zero (by omega)
    subst hb
    cases g with
    | zero => rfl
    | succ g => show _ = if ([] : List Int) = [] then _ else _; rw [if_pos rfl]; rfl
  | f + 1, 0, b, _, h => by
    have hb : b = [] := List.eq_nil_of_length_eq_zero (by omega)
    subst hb
    show (if ([] : List Int) = [] then _ else _) = _; rw [if_pos rfl]; rfl
  | f + 1, g + 1, b, h1, h2 => by
    show (if b = [] then _ else ckL (b.take size) ++ prF size f (b.drop size)) = if b = [] then _ else ckL (b.take size) ++ prF size g (b.drop size)
    by_cases hb : b = []
    · rw [if_pos hb, if_pos hb]
    · have := List.length_pos_iff.2 hb
      rw [if_neg hb, if_neg hb, prF_enough size hs f g _ (by rw [List.length_drop]; omega) (by rw [List.length_drop]; omega)]
set_option maxRecDepth 100000 in
theorem prL_nil (size : Nat) : prL size [] = [48, 13, 10, 13, 10] := rfl
set_option maxRecDepth 100000 in
theorem prL_cons (size : Nat) (hs : 1 ≤ size) {b : List Int} (hb : b ≠ []) : prL size b = ckL (b.take size) ++ prL size (b.drop size) := by
  have h1 := List.length_pos_iff.2 hb
  unfold prL
  obtain ⟨n, hn⟩ : ∃ n, b.length = n + 1 := ⟨b.length - 1, by omega⟩
  rw [hn]
  show (if b = [] then _ else ckL (b.take size) ++ prF size n (b.drop size)) = _
  rw [if_neg hb, prF_enough size hs n (b.drop size).length (b.drop size) (by rw [List.length_drop]; omega) (Nat.le_refl _)]
set_option maxRecDepth 100000 in
theorem end_run (most : Nat) (body l : List Int) (k : Nat) : runW most ⟨0, 0, body⟩ ([48, 13, 10, 13, 10] ++ l) k = (body, k + 5, 0) := by
  show runW most ⟨0, 0, body⟩ (48 :: 13 :: 10 :: 13 :: 10 :: l) k = _
  rw [run_go (s' := ⟨1, 0, body⟩) rfl (by show (1 : Nat) ≠ 10; decide), run_go (s' := ⟨7, 0, body⟩) rfl (by show (7 : Nat) ≠ 10; decide), run_go (s' := ⟨8, 0, body⟩) rfl (by show (8 : Nat) ≠ 10; decide), run_go (s' := ⟨9, 0, body⟩) rfl (by show (9 : Nat) ≠ 10; decide), run_done (s' := ⟨10, 0, body⟩) rfl rfl]
set_option maxRecDepth 100000 in
/-- what is printed is read, whatever stands behind -/
theorem pr_run (most size : Nat) (hs : 1 ≤ size) (l : List Int) : ∀ (N : Nat) (b body : List Int) (k : Nat), b.length ≤ N → body.length + b.length ≤ most → runW most ⟨0, 0, body⟩ (prL size b ++ l) k = (body ++ b, k + (prL size b).length, 0)
  | 0, b, body, k, hN, hm => by
    have hb : b = [] := List.eq_nil_of_length_eq_zero (by omega)
    subst hb
    rw [prL_nil, end_run, List.append_nil]; rfl
  | N + 1, b, body, k, hN, hm => by
    by_cases hb : b = []
    · subst hb
      rw [prL_nil, end_run, List.append_nil]; rfl
    · have h1 := List.length_pos_iff.2 hb
      have ht : (b.take size).length ≤ b.length := by rw [List.length_take]; omega
      have htd : (b.take size).length + (b.drop size).length = b.length := by rw [← List.length_append, List.take_append_drop]
      have hne : b.take size ≠ [] := fun e => by have := congrArg List.length e; rw [List.length_take, List.length_nil] at this; omega
      rw [prL_cons size hs hb, List.append_assoc, run_fld most _ _ _ _ _ (ck_fld most body (b.take size) hne (by omega)), pr_run most size hs l N (b.drop size) (body ++ b.take size) _ (by rw [List.length_drop]; omega) (by rw [List.length_append]; omega), List.append_assoc, List.take_append_drop, List.length_append]
      rw [show k + (ckL (b.take size)).length + (prL size (b.drop size)).length = k + ((ckL (b.take size)).length + (prL size (b.drop size)).length) from by omega]
set_option maxRecDepth 100000 in
/-- .. and refused where it says too much -/
theorem pr_big (most size : Nat) (hs : 1 ≤ size) (l : List Int) : ∀ (N : Nat) (b body : List Int) (k : Nat), b.length ≤ N → body.length ≤ most → most < body.length + b.length → runW most ⟨0, 0, body⟩ (prL size b ++ l) k = ([], 0, 5)
  | 0, b, body, k, hN, hb, hm => by omega
  | N + 1, b, body, k, hN, hb0, hm => by
    have hb : b ≠ [] := fun e => by rw [e, List.length_nil] at hm; omega
    have h1 := List.length_pos_iff.2 hb
    have htd : (b.take size).length + (b.drop size).length = b.length := by rw [← List.length_append, List.take_append_drop]
    have hne : b.take size ≠ [] := fun e => by have := congrArg List.length e; rw [List.length_take, List.length_nil] at this; omega
    rw [prL_cons size hs hb, List.append_assoc]
    by_cases h2 : body.length + (b.take size).length ≤ most
    · rw [run_fld most _ _ _ _ _ (ck_fld most body (b.take size) hne h2)]
      exact pr_big most size hs l N (b.drop size) (body ++ b.take size) _ (by rw [List.length_drop]; omega) (by rw [List.length_append]; exact h2) (by rw [List.length_append]; omega)
    · unfold ckL
      rw [List.append_assoc]
      exact hex_big most body _ _ k hb0 (by omega)
set_option maxRecDepth 100000 in
/-- what ends with its last byte: each beginning goes on -/
theorem run_begin (most : Nat) : ∀ (l : List Int) (s : CS) (k : Nat) (x : List Int), runW most s l k = (x, k + l.length, 0) → ∀ j, j < l.length → ∃ t, fld most s (l.take j) = some t
  | [], s, k, x, h, j, hj => by cases hj
  | b :: r, s, k, x, h, j, hj => by
    cases j with
    | zero => exact ⟨s, rfl⟩
    | succ j =>
      rw [runW_cons] at h
      by_cases h1 : (stp most s b).2 ≠ 0
      · rw [if_pos h1] at h; exact absurd (congrArg (fun x : List Int × Nat × Int => x.2.2) h) h1
      · rw [if_neg h1] at h
        by_cases h2 : (stp most s b).1.ph = 10
        · rw [if_pos h2] at h
          have h3 : k + 1 = k + (b :: r).length := congrArg (fun x : List Int × Nat × Int => x.2.1) h
          rw [List.length_cons] at h3 hj
          omega
        · rw [if_neg h2] at h
          rw [List.take_succ_cons, fld_cons, if_neg h1, if_neg h2]
          refine run_begin most r _ (k + 1) x ?_ j (by rw [List.length_cons] at hj; omega)
          rw [h, List.length_cons]
          rw [show k + 1 + r.length = k + (r.length + 1) from by omega]
set_option maxRecDepth 100000 in
theorem pr_begin (most size : Nat) (hs : 1 ≤ size) (b : List Int) (hm : b.length ≤ most) (j : Nat) (hj : j < (prL size b).length) : runW most ⟨0, 0, []⟩ ((prL size b).take j) 0 = ([], 0, 3) := by
  have h := pr_run most size hs [] b.length b [] 0 (Nat.le_refl _) (by rw [List.length_nil]; omega)
  rw [List.append_nil] at h
  obtain ⟨t, ht⟩ := run_begin most _ _ _ _ h j hj
  exact run_none most _ _ _ t ht
set_option maxRecDepth 100000 in
theorem prL_byt (size : Nat) (hs : 1 ≤ size) : ∀ (N : Nat) (b : List Int), b.length ≤ N → Byt b → Byt (prL size b)
  | 0, b, hN, hb => by
    have hb : b = [] := List.eq_nil_of_length_eq_zero (by omega)
    subst hb
    rw [prL_nil]
    intro c hc
    simp at hc
    rcases hc with rfl | rfl | rfl | rfl | rfl <;> decide
  | N + 1, b, hN, hb => by
    by_cases h0 : b = []
    · exact prL_byt size hs 0 b (by rw [h0]; exact Nat.le_refl _) hb
    · have h1 := List.length_pos_iff.2 h0
      have crlf : Byt [13, 10] := by
        intro c hc
        simp at hc
        rcases hc with rfl | rfl <;> decide
      rw [prL_cons size hs h0]
      unfold ckL
      exact Byt.append (Byt.append (hexN_byt _) (Byt.append crlf (Byt.append (hb.take size) crlf))) (prL_byt size hs N _ (by rw [List.length_drop]; omega) (fun c hc => hb c (List.mem_of_mem_drop hc)))
end Go.Proofs.YtjlclgmbenhakaaDoor
