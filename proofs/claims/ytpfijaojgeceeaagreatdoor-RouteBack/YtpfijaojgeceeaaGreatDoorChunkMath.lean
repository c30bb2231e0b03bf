/- Bodies in chunks, byte by byte and all at once, as the mathematics has them. No walk. -/
import Derived.Test.YtpfijaojgeceeaaGreatDoorBase
namespace Go.Proofs.YtpfijaojgeceeaaGreatDoor
open Go.RowKit
set_option linter.unusedVariables false

/-- what a digit counts; 16: it is none -/
def dgt (b : Int) : Nat := if 48 ≤ b ∧ b ≤ 57 then (b - 48).toNat else if 97 ≤ b ∧ b ≤ 102 then (b - 87).toNat else 16
set_option maxRecDepth 100000 in
theorem dgt_le (b : Int) : dgt b ≤ 16 := by unfold dgt; split; omega; split <;> omega
set_option maxRecDepth 100000 in
theorem dgt_13 : dgt 13 = 16 := by decide
/-- where a reader stands: 0 ahead of a size, 1 behind a nought, 2 within a size, 3 behind its CR, 4 within a chunk's bytes, 5 and 6 ahead of the CR and the LF behind them, 7 behind the nought's CR, 8 and 9 ahead of the last CR and LF, 10 at the end -/
structure CS where
  ph : Nat
  n : Nat
  body : List Int
/-- one byte: what it makes, and the error (then it makes nothing) -/
def stp (most : Nat) (s : CS) (b : Int) : CS × Int :=
  match s.ph with
  | 0 => if dgt b = 16 then (s, 4) else if dgt b = 0 then (⟨1, 0, s.body⟩, 0) else if most < s.body.length + dgt b then (s, 5) else (⟨2, dgt b, s.body⟩, 0)
  | 1 => if b = 13 then (⟨7, 0, s.body⟩, 0) else (s, 4)
  | 2 => if b = 13 then (⟨3, s.n, s.body⟩, 0) else if dgt b = 16 then (s, 4) else if most < s.body.length + (16 * s.n + dgt b) then (s, 5) else (⟨2, 16 * s.n + dgt b, s.body⟩, 0)
  | 3 => if b = 10 then (⟨4, s.n, s.body⟩, 0) else (s, 4)
  | 4 => if s.n = 1 then (⟨5, 0, s.body ++ [b]⟩, 0) else (⟨4, s.n - 1, s.body ++ [b]⟩, 0)
  | 5 => if b = 13 then (⟨6, 0, s.body⟩, 0) else (s, 4)
  | 6 => if b = 10 then (⟨0, 0, s.body⟩, 0) else (s, 4)
  | 7 => if b = 10 then (⟨8, 0, s.body⟩, 0) else (s, 4)
  | 8 => if b = 13 then (⟨9, 0, s.body⟩, 0) else (s, 4)
  | 9 => if b = 10 then (⟨10, 0, s.body⟩, 0) else (s, 4)
  | _ => (s, 20)
/-- all bytes: what is said, how many there are, the error -/
def runW (most : Nat) : CS → List Int → Nat → List Int × Nat × Int
  | _, [], _ => ([], 0, 3)
  | s, b :: r, k => if (stp most s b).2 ≠ 0 then ([], 0, (stp most s b).2) else if (stp most s b).1.ph = 10 then ((stp most s b).1.body, k + 1, 0) else runW most (stp most s b).1 r (k + 1)
/-- where a reader stands behind bytes that neither end it nor have an error -/
def fld (most : Nat) : CS → List Int → Option CS
  | s, [] => some s
  | s, b :: r => if (stp most s b).2 ≠ 0 then none else if (stp most s b).1.ph = 10 then none else fld most (stp most s b).1 r
set_option maxRecDepth 100000 in
theorem fld_snoc (most : Nat) (B : List Int) (b : Int) : ∀ (s : CS), fld most s (B ++ [b]) = (fld most s B).bind fun t => if (stp most t b).2 ≠ 0 then none else if (stp most t b).1.ph = 10 then none else some (stp most t b).1 := by
  induction B with
  | nil => intro s; rfl
  | cons c r ih =>
    intro s
    show (if (stp most s c).2 ≠ 0 then none else if (stp most s c).1.ph = 10 then none else fld most (stp most s c).1 (r ++ [b])) = _
    show _ = (if (stp most s c).2 ≠ 0 then none else if (stp most s c).1.ph = 10 then none else fld most (stp most s c).1 r).bind _
    by_cases h1 : (stp most s c).2 ≠ 0
    · rw [if_pos h1, if_pos h1]; rfl
    · rw [if_neg h1, if_neg h1]
      by_cases h2 : (stp most s c).1.ph = 10
      · rw [if_pos h2, if_pos h2]; rfl
      · rw [if_neg h2, if_neg h2]; exact ih _
set_option maxRecDepth 100000 in
theorem run_fld (most : Nat) (B l : List Int) : ∀ (s : CS) (k : Nat) (t : CS), fld most s B = some t → runW most s (B ++ l) k = runW most t l (k + B.length) := by
  induction B with
  | nil => intro s k t h; cases h; rfl
  | cons c r ih =>
    intro s k t h
    have h0 : (if (stp most s c).2 ≠ 0 then none else if (stp most s c).1.ph = 10 then none else fld most (stp most s c).1 r) = some t := h
    by_cases h1 : (stp most s c).2 ≠ 0
    · rw [if_pos h1] at h0; cases h0
    · rw [if_neg h1] at h0
      by_cases h2 : (stp most s c).1.ph = 10
      · rw [if_pos h2] at h0; cases h0
      · rw [if_neg h2] at h0
        show (if (stp most s c).2 ≠ 0 then _ else if (stp most s c).1.ph = 10 then _ else runW most (stp most s c).1 (r ++ l) (k + 1)) = _
        rw [if_neg h1, if_neg h2, ih _ _ _ h0, List.length_cons]
        congr 1; omega
set_option maxRecDepth 100000 in
theorem run_none (most : Nat) (B : List Int) : ∀ (s : CS) (k : Nat) (t : CS), fld most s B = some t → runW most s B k = ([], 0, 3) := fun s k t h => by
  have := run_fld most B [] s k t h
  rw [List.append_nil] at this
  rw [this]; rfl
set_option maxRecDepth 100000 in
theorem run_one (most : Nat) (B : List Int) (b : Int) (s : CS) (k : Nat) (t : CS) (h : fld most s B = some t) : runW most s (B ++ [b]) k = if (stp most t b).2 ≠ 0 then ([], 0, (stp most t b).2) else if (stp most t b).1.ph = 10 then ((stp most t b).1.body, k + B.length + 1, 0) else ([], 0, 3) := by
  rw [run_fld most B [b] s k t h]; rfl
/-- CR LF, or why not -/
def twoR (b : List Int) : Int := if (1 ≤ b.length ∧ b.getD 0 0 ≠ 13) ∨ (2 ≤ b.length ∧ b.getD 1 0 ≠ 10) then 4 else if b.length < 2 then 3 else 0
set_option maxRecDepth 100000 in
theorem two_nil : twoR [] = 3 := by decide
set_option maxRecDepth 100000 in
theorem two_one (b : Int) : twoR [b] = if b = 13 then 3 else 4 := by
  unfold twoR
  by_cases h : b = 13
  · simp [h]
  · simp [h]
set_option maxRecDepth 100000 in
theorem two_two (b c : Int) (r : List Int) : twoR (b :: c :: r) = if b = 13 ∧ c = 10 then 0 else 4 := by
  unfold twoR
  by_cases h : b = 13
  · by_cases h2 : c = 10
    · simp [h, h2]
    · simp [h, h2]
  · simp [h]
set_option maxRecDepth 100000 in
theorem runW_cons (most : Nat) (s : CS) (b : Int) (r : List Int) (k : Nat) : runW most s (b :: r) k = if (stp most s b).2 ≠ 0 then ([], 0, (stp most s b).2) else if (stp most s b).1.ph = 10 then ((stp most s b).1.body, k + 1, 0) else runW most (stp most s b).1 r (k + 1) := rfl
set_option maxRecDepth 100000 in
theorem run_err {most : Nat} {s : CS} {b : Int} {r : List Int} {k : Nat} {s' : CS} {e : Int} (h : stp most s b = (s', e)) (he : e ≠ 0) : runW most s (b :: r) k = ([], 0, e) := by
  rw [runW_cons, h]; exact if_pos he
set_option maxRecDepth 100000 in
theorem run_go {most : Nat} {s : CS} {b : Int} {r : List Int} {k : Nat} {s' : CS} (h : stp most s b = (s', 0)) (he : s'.ph ≠ 10) : runW most s (b :: r) k = runW most s' r (k + 1) := by
  rw [runW_cons, h, if_neg (by simp), if_neg he]
set_option maxRecDepth 100000 in
theorem run_done {most : Nat} {s : CS} {b : Int} {r : List Int} {k : Nat} {s' : CS} (h : stp most s b = (s', 0)) (he : s'.ph = 10) : runW most s (b :: r) k = (s'.body, k + 1, 0) := by
  rw [runW_cons, h, if_neg (by simp), if_pos he]
set_option maxRecDepth 100000 in
/-- two bytes that must be CR and LF, from a state ahead of both -/
theorem run_two {most : Nat} {p : Nat} {n1 n2 n3 : Nat} {body : List Int} (q r : Nat) (hq : q ≠ 10) (h1 : ∀ b, stp most ⟨p, n1, body⟩ b = if b = 13 then (⟨q, n2, body⟩, 0) else (⟨p, n1, body⟩, 4)) (h2 : ∀ b, stp most ⟨q, n2, body⟩ b = if b = 10 then (⟨r, n3, body⟩, 0) else (⟨q, n2, body⟩, 4)) (l : List Int) (k : Nat) :
    runW most ⟨p, n1, body⟩ l k = if twoR l ≠ 0 then ([], 0, twoR l) else if r = 10 then (body, k + 2, 0) else runW most ⟨r, n3, body⟩ (l.drop 2) (k + 2) := by
  match l with
  | [] => rw [two_nil]; rfl
  | [b] =>
    by_cases hb : b = 13
    · have e : twoR [b] = 3 := by rw [two_one, if_pos hb]
      rw [e, run_go (s' := ⟨q, n2, body⟩) (by rw [h1, if_pos hb]) hq]; rfl
    · have e : twoR [b] = 4 := by rw [two_one, if_neg hb]
      rw [e, run_err (s' := ⟨p, n1, body⟩) (e := 4) (by rw [h1, if_neg hb]) (by decide)]; rfl
  | b :: c :: t =>
    by_cases hb : b = 13
    · rw [run_go (s' := ⟨q, n2, body⟩) (by rw [h1, if_pos hb]) hq]
      by_cases hc : c = 10
      · have e : twoR (b :: c :: t) = 0 := by rw [two_two, if_pos ⟨hb, hc⟩]
        rw [e, if_neg (by simp)]
        by_cases hr : r = 10
        · rw [if_pos hr, run_done (s' := ⟨r, n3, body⟩) (by rw [h2, if_pos hc]) hr]
        · rw [if_neg hr, run_go (s' := ⟨r, n3, body⟩) (by rw [h2, if_pos hc]) hr]; rfl
      · have e : twoR (b :: c :: t) = 4 := by rw [two_two, if_neg (fun h => hc h.2)]
        rw [e, run_err (s' := ⟨q, n2, body⟩) (e := 4) (by rw [h2, if_neg hc]) (by decide)]; rfl
    · have e : twoR (b :: c :: t) = 4 := by rw [two_two, if_neg (fun h => hb h.1)]
      rw [e, run_err (s' := ⟨p, n1, body⟩) (e := 4) (by rw [h1, if_neg hb]) (by decide)]; rfl
set_option maxRecDepth 100000 in
theorem run5 (most : Nat) (body l : List Int) (k : Nat) : runW most ⟨5, 0, body⟩ l k = if twoR l ≠ 0 then ([], 0, twoR l) else runW most ⟨0, 0, body⟩ (l.drop 2) (k + 2) := by
  have := run_two (most := most) (p := 5) (n1 := 0) (n2 := 0) (n3 := 0) (body := body) 6 0 (by decide) (fun b => rfl) (fun b => rfl) l k
  rw [this]; simp
set_option maxRecDepth 100000 in
theorem run8 (most : Nat) (body l : List Int) (k : Nat) : runW most ⟨8, 0, body⟩ l k = if twoR l ≠ 0 then ([], 0, twoR l) else (body, k + 2, 0) := by
  have := run_two (most := most) (p := 8) (n1 := 0) (n2 := 0) (n3 := 0) (body := body) 9 10 (by decide) (fun b => rfl) (fun b => rfl) l k
  rw [this]; simp
set_option maxRecDepth 100000 in
/-- a chunk's bytes -/
theorem run4 (most : Nat) : ∀ (l : List Int) (n : Nat) (body : List Int) (k : Nat), 1 ≤ n → runW most ⟨4, n, body⟩ l k = if l.length < n then ([], 0, 3) else runW most ⟨5, 0, body ++ l.take n⟩ (l.drop n) (k + n)
  | [], n, body, k, hn => by rw [if_pos (by rw [List.length_nil]; omega)]; rfl
  | b :: r, n, body, k, hn => by
    by_cases h1 : n = 1
    · have e : stp most ⟨4, n, body⟩ b = (⟨5, 0, body ++ [b]⟩, 0) := by show (if n = 1 then _ else _) = _; rw [if_pos h1]
      rw [run_go e (by show (5 : Nat) ≠ 10; decide), if_neg (by rw [List.length_cons]; omega)]
      subst h1
      rw [show (b :: r).take 1 = [b] from rfl, show (b :: r).drop 1 = r from rfl]
    · have e : stp most ⟨4, n, body⟩ b = (⟨4, n - 1, body ++ [b]⟩, 0) := by show (if n = 1 then _ else _) = _; rw [if_neg h1]
      rw [run_go e (by show (4 : Nat) ≠ 10; decide), run4 most r (n - 1) (body ++ [b]) (k + 1) (by omega)]
      obtain ⟨m, rfl⟩ : ∃ m, n = m + 1 := ⟨n - 1, by omega⟩
      rw [Nat.add_sub_cancel, List.length_cons]
      by_cases h2 : r.length < m
      · rw [if_pos h2, if_pos (by omega)]
      · rw [if_neg h2, if_neg (by omega), List.take_succ_cons, List.drop_succ_cons, show body ++ [b] ++ r.take m = body ++ b :: r.take m from by simp, show k + 1 + m = k + (m + 1) from by omega]
/-- a size and CR LF: the size, how many bytes these are, the error -/
def szR (most : Int) : List Int → Nat → Nat → Nat × Nat × Int
  | [], n, c => if c = 0 then (0, 0, 3) else (n, c + 2, 3)
  | b :: r, n, c => if 0 < c ∧ b = 13 then (n, c + 2, twoR (b :: r)) else if dgt b = 16 ∨ (0 < c ∧ n = 0) then (0, 0, 4) else if most < 16 * (n : Int) + dgt b then (0, 0, 5) else szR most r (16 * n + dgt b) (c + 1)
set_option maxRecDepth 100000 in
theorem szR_cons (most : Int) (b : Int) (r : List Int) (n c : Nat) : szR most (b :: r) n c = if 0 < c ∧ b = 13 then (n, c + 2, twoR (b :: r)) else if dgt b = 16 ∨ (0 < c ∧ n = 0) then (0, 0, 4) else if most < 16 * (n : Int) + dgt b then (0, 0, 5) else szR most r (16 * n + dgt b) (c + 1) := rfl
set_option maxRecDepth 100000 in
/-- within a size -/
theorem run2 (most : Nat) (body : List Int) (hb : body.length ≤ most) : ∀ (l : List Int) (n c k : Nat), 1 ≤ n → 1 ≤ c → body.length + n ≤ most →
    ((szR ((most : Int) - body.length) l n c).2.2 ≠ 0 ∧ runW most ⟨2, n, body⟩ l k = ([], 0, (szR ((most : Int) - body.length) l n c).2.2)) ∨
    ((szR ((most : Int) - body.length) l n c).2.2 = 0 ∧ 1 ≤ (szR ((most : Int) - body.length) l n c).1 ∧ body.length + (szR ((most : Int) - body.length) l n c).1 ≤ most ∧ c + 2 ≤ (szR ((most : Int) - body.length) l n c).2.1 ∧ (szR ((most : Int) - body.length) l n c).2.1 ≤ c + l.length ∧
      runW most ⟨2, n, body⟩ l k = runW most ⟨4, (szR ((most : Int) - body.length) l n c).1, body⟩ (l.drop ((szR ((most : Int) - body.length) l n c).2.1 - c)) (k + ((szR ((most : Int) - body.length) l n c).2.1 - c)))
  | [], n, c, k, hn, hc, hm => .inl (by
    have e : szR ((most : Int) - body.length) [] n c = (n, c + 2, 3) := by show (if c = 0 then _ else _) = _; rw [if_neg (by omega)]
    rw [e]; exact ⟨by show (3 : Int) ≠ 0; decide, rfl⟩)
  | b :: r, n, c, k, hn, hc, hm => by
    rw [szR_cons]
    by_cases h13 : b = 13
    · have e1 : stp most ⟨2, n, body⟩ b = (⟨3, n, body⟩, 0) := by show (if b = 13 then _ else _) = _; rw [if_pos h13]
      rw [if_pos ⟨by omega, h13⟩, run_go e1 (by show (3 : Nat) ≠ 10; decide)]
      match r with
      | [] =>
        rw [two_one, if_pos h13]
        exact .inl ⟨by show (3 : Int) ≠ 0; decide, rfl⟩
      | x :: t =>
        rw [two_two]
        by_cases hx : x = 10
        · have e2 : stp most ⟨3, n, body⟩ x = (⟨4, n, body⟩, 0) := by show (if x = 10 then _ else _) = _; rw [if_pos hx]
          rw [if_pos ⟨h13, hx⟩, run_go e2 (by show (4 : Nat) ≠ 10; decide)]
          refine .inr ⟨rfl, hn, hm, Nat.le_refl _, by show c + 2 ≤ c + _; rw [List.length_cons, List.length_cons]; omega, ?_⟩
          show _ = runW most ⟨4, n, body⟩ ((b :: x :: t).drop (c + 2 - c)) (k + (c + 2 - c))
          rw [show c + 2 - c = 2 from by omega]; rfl
        · have e2 : stp most ⟨3, n, body⟩ x = (⟨3, n, body⟩, 4) := by show (if x = 10 then _ else _) = _; rw [if_neg hx]
          rw [if_neg (fun h => hx h.2), run_err e2 (by decide)]
          exact .inl ⟨by show (4 : Int) ≠ 0; decide, rfl⟩
    · rw [if_neg (fun h => h13 h.2)]
      by_cases hd : dgt b = 16
      · have e1 : stp most ⟨2, n, body⟩ b = (⟨2, n, body⟩, 4) := by show (if b = 13 then _ else if dgt b = 16 then _ else _) = _; rw [if_neg h13, if_pos hd]
        rw [if_pos (.inl hd), run_err e1 (by decide)]
        exact .inl ⟨by decide, rfl⟩
      · rw [if_neg (fun h => by rcases h with h | h; exact hd h; omega)]
        by_cases hbig : most < body.length + (16 * n + dgt b)
        · have e1 : stp most ⟨2, n, body⟩ b = (⟨2, n, body⟩, 5) := by show (if b = 13 then _ else if dgt b = 16 then _ else if most < body.length + (16 * n + dgt b) then _ else _) = _; rw [if_neg h13, if_neg hd, if_pos hbig]
          rw [if_pos (by omega), run_err e1 (by decide)]
          exact .inl ⟨by decide, rfl⟩
        · have e1 : stp most ⟨2, n, body⟩ b = (⟨2, 16 * n + dgt b, body⟩, 0) := by show (if b = 13 then _ else if dgt b = 16 then _ else if most < body.length + (16 * n + dgt b) then _ else _) = _; rw [if_neg h13, if_neg hd, if_neg hbig]
          rw [if_neg (by omega), run_go e1 (by show (2 : Nat) ≠ 10; decide)]
          have ih := run2 most body hb r (16 * n + dgt b) (c + 1) (k + 1) (by omega) (by omega) (by omega)
          rcases ih with ⟨h1, h2⟩ | ⟨h1, h2, h3, h4, h5, h6⟩
          · exact .inl ⟨h1, h2⟩
          · refine .inr ⟨h1, h2, h3, by omega, by rw [List.length_cons]; omega, ?_⟩
            rw [h6]
            generalize (szR ((most : Int) - body.length) r (16 * n + dgt b) (c + 1)).2.1 = q at h4 h5
            obtain ⟨j, rfl⟩ : ∃ j, q = c + 1 + j := ⟨q - (c + 1), by omega⟩
            rw [show c + 1 + j - (c + 1) = j from by omega, show c + 1 + j - c = j + 1 from by omega, List.drop_succ_cons]
            congr 1; omega
set_option maxRecDepth 100000 in
/-- from a size's beginning on -/
theorem run0 (most : Nat) (body : List Int) (hb : body.length ≤ most) (l : List Int) (k : Nat) :
    ((szR ((most : Int) - body.length) l 0 0).2.2 ≠ 0 ∧ runW most ⟨0, 0, body⟩ l k = ([], 0, (szR ((most : Int) - body.length) l 0 0).2.2)) ∨
    ((szR ((most : Int) - body.length) l 0 0).2.2 = 0 ∧ 3 ≤ (szR ((most : Int) - body.length) l 0 0).2.1 ∧ (szR ((most : Int) - body.length) l 0 0).2.1 ≤ l.length ∧ body.length + (szR ((most : Int) - body.length) l 0 0).1 ≤ most ∧
      runW most ⟨0, 0, body⟩ l k = runW most (if (szR ((most : Int) - body.length) l 0 0).1 = 0 then ⟨8, 0, body⟩ else ⟨4, (szR ((most : Int) - body.length) l 0 0).1, body⟩) (l.drop (szR ((most : Int) - body.length) l 0 0).2.1) (k + (szR ((most : Int) - body.length) l 0 0).2.1)) := by
  match l with
  | [] => exact .inl ⟨by show (3 : Int) ≠ 0; decide, rfl⟩
  | b :: r =>
    rw [szR_cons, if_neg (fun h => by omega)]
    by_cases hd : dgt b = 16
    · have e1 : stp most ⟨0, 0, body⟩ b = (⟨0, 0, body⟩, 4) := by show (if dgt b = 16 then _ else _) = _; rw [if_pos hd]
      rw [if_pos (.inl hd), run_err e1 (by decide)]
      exact .inl ⟨by decide, rfl⟩
    · rw [if_neg (fun h => by rcases h with h | h; exact hd h; omega)]
      by_cases h0 : dgt b = 0
      · have e1 : stp most ⟨0, 0, body⟩ b = (⟨1, 0, body⟩, 0) := by show (if dgt b = 16 then _ else if dgt b = 0 then _ else _) = _; rw [if_neg hd, if_pos h0]
        rw [if_neg (by omega), run_go e1 (by show (1 : Nat) ≠ 10; decide), h0]
        match r with
        | [] => exact .inl ⟨by show (3 : Int) ≠ 0; decide, rfl⟩
        | x :: t =>
          rw [show 16 * 0 + 0 = 0 from rfl, szR_cons]
          by_cases hx : x = 13
          · have e2 : stp most ⟨1, 0, body⟩ x = (⟨7, 0, body⟩, 0) := by show (if x = 13 then _ else _) = _; rw [if_pos hx]
            rw [if_pos ⟨by omega, hx⟩, run_go e2 (by show (7 : Nat) ≠ 10; decide)]
            match t with
            | [] =>
              rw [two_one, if_pos hx]
              exact .inl ⟨by decide, rfl⟩
            | y :: t =>
              rw [two_two]
              by_cases hy : y = 10
              · have e3 : stp most ⟨7, 0, body⟩ y = (⟨8, 0, body⟩, 0) := by show (if y = 10 then _ else _) = _; rw [if_pos hy]
                rw [if_pos ⟨hx, hy⟩, run_go e3 (by show (8 : Nat) ≠ 10; decide)]
                exact .inr ⟨rfl, Nat.le_refl _, by show 0 + 1 + 2 ≤ _; rw [List.length_cons, List.length_cons, List.length_cons]; omega, hb, rfl⟩
              · have e3 : stp most ⟨7, 0, body⟩ y = (⟨7, 0, body⟩, 4) := by show (if y = 10 then _ else _) = _; rw [if_neg hy]
                rw [if_neg (fun h => hy h.2), run_err e3 (by decide)]
                exact .inl ⟨by decide, rfl⟩
          · have e2 : stp most ⟨1, 0, body⟩ x = (⟨1, 0, body⟩, 4) := by show (if x = 13 then _ else _) = _; rw [if_neg hx]
            rw [if_neg (fun h => hx h.2), if_pos (.inr ⟨by omega, rfl⟩), run_err e2 (by decide)]
            exact .inl ⟨by decide, rfl⟩
      · by_cases hbig : most < body.length + dgt b
        · have e1 : stp most ⟨0, 0, body⟩ b = (⟨0, 0, body⟩, 5) := by show (if dgt b = 16 then _ else if dgt b = 0 then _ else if most < body.length + dgt b then _ else _) = _; rw [if_neg hd, if_neg h0, if_pos hbig]
          rw [if_pos (by omega), run_err e1 (by decide)]
          exact .inl ⟨by decide, rfl⟩
        · have e1 : stp most ⟨0, 0, body⟩ b = (⟨2, dgt b, body⟩, 0) := by show (if dgt b = 16 then _ else if dgt b = 0 then _ else if most < body.length + dgt b then _ else _) = _; rw [if_neg hd, if_neg h0, if_neg hbig]
          rw [if_neg (by omega), run_go e1 (by show (2 : Nat) ≠ 10; decide), show 16 * 0 + dgt b = dgt b from by omega]
          rcases run2 most body hb r (dgt b) (0 + 1) (k + 1) (by omega) (by omega) (by omega) with ⟨h1, h2⟩ | ⟨h1, h2, h3, h4, h5, h6⟩
          · exact .inl ⟨h1, h2⟩
          · refine .inr ⟨h1, by omega, by rw [List.length_cons]; omega, h3, ?_⟩
            rw [h6, if_neg (by omega)]
            generalize (szR ((most : Int) - body.length) r (dgt b) (0 + 1)).2.1 = q at h4 h5
            obtain ⟨j, rfl⟩ : ∃ j, q = j + 1 := ⟨q - 1, by omega⟩
            rw [show j + 1 - (0 + 1) = j from by omega, List.drop_succ_cons]
            congr 1; omega
/-- chunk by chunk, of all bytes at once -/
def whR (most : Int) (b : List Int) : Nat → Nat → List Int → List Int × Nat × Int
  | 0, _, _ => ([], 0, 3)
  | f + 1, p, body =>
    if (szR (most - body.length) (b.drop p) 0 0).2.2 ≠ 0 then ([], 0, (szR (most - body.length) (b.drop p) 0 0).2.2) else
    if (szR (most - body.length) (b.drop p) 0 0).1 = 0 then (if twoR (b.drop (p + (szR (most - body.length) (b.drop p) 0 0).2.1)) ≠ 0 then ([], 0, twoR (b.drop (p + (szR (most - body.length) (b.drop p) 0 0).2.1))) else (body, p + (szR (most - body.length) (b.drop p) 0 0).2.1 + 2, 0)) else
    if b.length < p + (szR (most - body.length) (b.drop p) 0 0).2.1 + (szR (most - body.length) (b.drop p) 0 0).1 then ([], 0, 3) else
    if twoR (b.drop (p + (szR (most - body.length) (b.drop p) 0 0).2.1 + (szR (most - body.length) (b.drop p) 0 0).1)) ≠ 0 then ([], 0, twoR (b.drop (p + (szR (most - body.length) (b.drop p) 0 0).2.1 + (szR (most - body.length) (b.drop p) 0 0).1))) else
    whR most b f (p + (szR (most - body.length) (b.drop p) 0 0).2.1 + (szR (most - body.length) (b.drop p) 0 0).1 + 2) (body ++ (b.drop (p + (szR (most - body.length) (b.drop p) 0 0).2.1)).take (szR (most - body.length) (b.drop p) 0 0).1)
set_option maxRecDepth 100000 in
theorem wh_run (most : Nat) (b : List Int) : ∀ (f p : Nat) (body : List Int), body.length ≤ most → p ≤ b.length → b.length < f + p → whR most b f p body = runW most ⟨0, 0, body⟩ (b.drop p) p
  | 0, p, body, hb, hp, hf => by omega
  | f + 1, p, body, hb, hp, hf => by
    unfold whR
    rcases run0 most body hb (b.drop p) p with ⟨h1, h2⟩ | ⟨h1, h2, h3, h4, h5⟩
    · rw [if_pos h1, h2]
    · rw [if_neg (fun h => h h1), h5]
      generalize szR ((most : Int) - body.length) (b.drop p) 0 0 = z at h1 h2 h3 h4
      obtain ⟨n, c, e⟩ := z
      simp only at h1 h2 h3 h4 ⊢
      rw [List.length_drop] at h3
      by_cases hn : n = 0
      · rw [if_pos hn, if_pos hn, run8, List.drop_drop]
      · rw [if_neg hn, if_neg hn, run4 _ _ _ _ _ (by omega), List.drop_drop, List.length_drop]
        by_cases hs : b.length < p + c + n
        · rw [if_pos hs, if_pos (show b.length - (p + c) < n from by omega)]
        · rw [if_neg hs, if_neg (show ¬ b.length - (p + c) < n from by omega), run5, List.drop_drop, List.drop_drop]
          by_cases ht : twoR (b.drop (p + c + n)) ≠ 0
          · rw [if_pos ht, if_pos ht]
          · rw [if_neg ht, if_neg ht]
            have hl : p + c + n + 2 ≤ b.length := by
              refine Classical.byContradiction fun hh => ht ?_
              have h6 : (b.drop (p + c + n)).length < 2 := by rw [List.length_drop]; omega
              intro h7
              unfold twoR at h7
              split at h7
              · cases h7
              · first | cases h7 | (rw [if_pos h6] at h7; cases h7)
            refine wh_run most b f _ _ ?_ (by omega) (by omega)
            rw [List.length_append, List.length_take, List.length_drop]
            omega
end Go.Proofs.YtpfijaojgeceeaaGreatDoor
