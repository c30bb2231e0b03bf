/- What was said till now; bytes in chunks, and that they are read. No walk. -/
import Derived.Test.YtpfijaojgeceeaaGreatDoorChunkMath
namespace Go.Proofs.YtpfijaojgeceeaaGreatDoor
open Go.RowKit
set_option linter.unusedVariables false

set_option maxRecDepth 100000 in
theorem fld_cons (most : Nat) (s : CS) (b : Int) (r : List Int) : fld most s (b :: r) = if (stp most s b).2 ≠ 0 then none else if (stp most s b).1.ph = 10 then none else fld most (stp most s b).1 r := rfl
set_option maxRecDepth 100000 in
theorem fld_go {most : Nat} {s : CS} {b : Int} {r : List Int} {s' : CS} (h : stp most s b = (s', 0)) (he : s'.ph ≠ 10) : fld most s (b :: r) = fld most s' r := by
  rw [fld_cons, h, if_neg (by simp), if_neg he]
set_option maxRecDepth 100000 in
theorem fld_app (most : Nat) (B l : List Int) : ∀ (s : CS), fld most s (B ++ l) = (fld most s B).bind fun t => fld most t l := by
  induction B with
  | nil => intro s; rfl
  | cons c r ih =>
    intro s
    rw [List.cons_append, fld_cons, fld_cons]
    by_cases h1 : (stp most s c).2 ≠ 0
    · rw [if_pos h1, if_pos h1]; rfl
    · rw [if_neg h1, if_neg h1]
      by_cases h2 : (stp most s c).1.ph = 10
      · rw [if_pos h2, if_pos h2]; rfl
      · rw [if_neg h2, if_neg h2]; exact ih _
set_option maxRecDepth 100000 in
/-- within a size: it goes on, or it is there -/
theorem fld2 (most : Nat) (body : List Int) : ∀ (l : List Int) (n c : Nat), 1 ≤ n → 1 ≤ c → body.length + n ≤ most →
    ((szR ((most : Int) - body.length) l n c).2.2 = 3 → ∃ t, fld most ⟨2, n, body⟩ l = some t ∧ t.body = body) ∧
    ((szR ((most : Int) - body.length) l n c).2.2 = 0 → c + 2 ≤ (szR ((most : Int) - body.length) l n c).2.1 ∧ fld most ⟨2, n, body⟩ (l.take ((szR ((most : Int) - body.length) l n c).2.1 - c)) = some ⟨4, (szR ((most : Int) - body.length) l n c).1, body⟩)
  | [], n, c, hn, hc, hm => by
    have e : szR ((most : Int) - body.length) [] n c = (n, c + 2, 3) := by show (if c = 0 then _ else _) = _; rw [if_neg (by omega)]
    rw [e]
    exact ⟨fun _ => ⟨_, rfl, rfl⟩, fun h => by cases h⟩
  | b :: r, n, c, hn, hc, hm => by
    rw [szR_cons]
    by_cases h13 : b = 13
    · have e1 : stp most ⟨2, n, body⟩ b = (⟨3, n, body⟩, 0) := by show (if b = 13 then _ else _) = _; rw [if_pos h13]
      rw [if_pos ⟨by omega, h13⟩]
      match r with
      | [] =>
        rw [two_one, if_pos h13, fld_go e1 (by show (3 : Nat) ≠ 10; decide)]
        exact ⟨fun _ => ⟨_, rfl, rfl⟩, fun h => by cases h⟩
      | x :: t =>
        rw [two_two]
        by_cases hx : x = 10
        · have e2 : stp most ⟨3, n, body⟩ x = (⟨4, n, body⟩, 0) := by show (if x = 10 then _ else _) = _; rw [if_pos hx]
          rw [if_pos ⟨h13, hx⟩]
          refine ⟨fun h => (by cases h), fun _ => ⟨Nat.le_refl _, ?_⟩⟩
          show fld most ⟨2, n, body⟩ ((b :: x :: t).take (c + 2 - c)) = some ⟨4, n, body⟩
          rw [show c + 2 - c = 2 from by omega, show (b :: x :: t).take 2 = [b, x] from rfl, fld_go e1 (by show (3 : Nat) ≠ 10; decide), fld_go e2 (by show (4 : Nat) ≠ 10; decide)]; rfl
        · rw [if_neg (fun h => hx h.2)]
          exact ⟨fun h => (by cases h), fun h => by cases h⟩
    · rw [if_neg (fun h => h13 h.2)]
      by_cases hd : dgt b = 16
      · rw [if_pos (.inl hd)]
        exact ⟨fun h => (by cases h), fun h => by cases h⟩
      · rw [if_neg (fun h => by rcases h with h | h; exact hd h; omega)]
        by_cases hbig : most < body.length + (16 * n + dgt b)
        · rw [if_pos (by omega)]
          exact ⟨fun h => (by cases h), fun h => by cases h⟩
        · have e1 : stp most ⟨2, n, body⟩ b = (⟨2, 16 * n + dgt b, body⟩, 0) := by show (if b = 13 then _ else if dgt b = 16 then _ else if most < body.length + (16 * n + dgt b) then _ else _) = _; rw [if_neg h13, if_neg hd, if_neg hbig]
          rw [if_neg (by omega)]
          obtain ⟨i1, i2⟩ := fld2 most body r (16 * n + dgt b) (c + 1) (by omega) (by omega) (by omega)
          refine ⟨fun h => by rw [fld_go e1 (by show (2 : Nat) ≠ 10; decide)]; exact i1 h, fun h => ?_⟩
          obtain ⟨j1, j2⟩ := i2 h
          generalize (szR ((most : Int) - body.length) r (16 * n + dgt b) (c + 1)) = z at j1 j2 ⊢
          obtain ⟨q, hq⟩ : ∃ q, z.2.1 = c + 1 + q := ⟨z.2.1 - (c + 1), by omega⟩
          rw [hq, show c + 1 + q - (c + 1) = q from by omega] at j2
          rw [hq]
          refine ⟨by omega, ?_⟩
          rw [show c + 1 + q - c = q + 1 from by omega, List.take_succ_cons, fld_go e1 (by show (2 : Nat) ≠ 10; decide)]
          exact j2
set_option maxRecDepth 100000 in
theorem fld0 (most : Nat) (body : List Int) (l : List Int) :
    ((szR ((most : Int) - body.length) l 0 0).2.2 = 3 → ∃ t, fld most ⟨0, 0, body⟩ l = some t ∧ t.body = body) ∧
    ((szR ((most : Int) - body.length) l 0 0).2.2 = 0 → fld most ⟨0, 0, body⟩ (l.take (szR ((most : Int) - body.length) l 0 0).2.1) = some (if (szR ((most : Int) - body.length) l 0 0).1 = 0 then ⟨8, 0, body⟩ else ⟨4, (szR ((most : Int) - body.length) l 0 0).1, body⟩)) := by
  match l with
  | [] => exact ⟨fun _ => ⟨_, rfl, rfl⟩, fun h => by cases h⟩
  | b :: r =>
    rw [szR_cons, if_neg (fun h => by omega)]
    by_cases hd : dgt b = 16
    · rw [if_pos (.inl hd)]
      exact ⟨fun h => (by cases h), fun h => by cases h⟩
    · rw [if_neg (fun h => by rcases h with h | h; exact hd h; omega)]
      by_cases h0 : dgt b = 0
      · have e1 : stp most ⟨0, 0, body⟩ b = (⟨1, 0, body⟩, 0) := by show (if dgt b = 16 then _ else if dgt b = 0 then _ else _) = _; rw [if_neg hd, if_pos h0]
        by_cases hbig : (most : Int) - body.length < 16 * ((0 : Nat) : Int) + dgt b
        · rw [if_pos hbig]
          exact ⟨fun h => (by cases h), fun h => by cases h⟩
        rw [if_neg hbig, h0]
        match r with
        | [] =>
          rw [fld_go e1 (by show (1 : Nat) ≠ 10; decide)]
          exact ⟨fun _ => ⟨_, rfl, rfl⟩, fun h => by cases h⟩
        | x :: t =>
          rw [show 16 * 0 + 0 = 0 from rfl, szR_cons]
          by_cases hx : x = 13
          · have e2 : stp most ⟨1, 0, body⟩ x = (⟨7, 0, body⟩, 0) := by show (if x = 13 then _ else _) = _; rw [if_pos hx]
            rw [if_pos ⟨by omega, hx⟩]
            match t with
            | [] =>
              rw [two_one, if_pos hx, fld_go e1 (by show (1 : Nat) ≠ 10; decide), fld_go e2 (by show (7 : Nat) ≠ 10; decide)]
              exact ⟨fun _ => ⟨_, rfl, rfl⟩, fun h => by cases h⟩
            | y :: t =>
              rw [two_two]
              by_cases hy : y = 10
              · have e3 : stp most ⟨7, 0, body⟩ y = (⟨8, 0, body⟩, 0) := by show (if y = 10 then _ else _) = _; rw [if_pos hy]
                rw [if_pos ⟨hx, hy⟩]
                refine ⟨fun h => (by cases h), fun _ => ?_⟩
                show fld most ⟨0, 0, body⟩ [b, x, y] = some ⟨8, 0, body⟩
                rw [fld_go e1 (by show (1 : Nat) ≠ 10; decide), fld_go e2 (by show (7 : Nat) ≠ 10; decide), fld_go e3 (by show (8 : Nat) ≠ 10; decide)]; rfl
              · rw [if_neg (fun h => hy h.2)]
                exact ⟨fun h => (by cases h), fun h => by cases h⟩
          · rw [if_neg (fun h => hx h.2), if_pos (.inr ⟨by omega, rfl⟩)]
            exact ⟨fun h => (by cases h), fun h => by cases h⟩
      · by_cases hbig : most < body.length + dgt b
        · rw [if_pos (by omega)]
          exact ⟨fun h => (by cases h), fun h => by cases h⟩
        · have e1 : stp most ⟨0, 0, body⟩ b = (⟨2, dgt b, body⟩, 0) := by show (if dgt b = 16 then _ else if dgt b = 0 then _ else if most < body.length + dgt b then _ else _) = _; rw [if_neg hd, if_neg h0, if_neg hbig]
          rw [if_neg (by omega), show 16 * 0 + dgt b = dgt b from by omega]
          obtain ⟨i1, i2⟩ := fld2 most body r (dgt b) (0 + 1) (by omega) (by omega) (by omega)
          have hge : (szR ((most : Int) - body.length) r (dgt b) (0 + 1)).2.2 = 0 → 1 ≤ (szR ((most : Int) - body.length) r (dgt b) (0 + 1)).1 := fun h => by
            rcases run2 most body (by omega) r (dgt b) (0 + 1) 0 (by omega) (by omega) (by omega) with ⟨h1, _⟩ | ⟨_, h2, _⟩
            · exact absurd h h1
            · exact h2
          refine ⟨fun h => by rw [fld_go e1 (by show (2 : Nat) ≠ 10; decide)]; exact i1 h, fun h => ?_⟩
          have hn1 := hge h
          obtain ⟨j1, j2⟩ := i2 h
          generalize (szR ((most : Int) - body.length) r (dgt b) (0 + 1)) = z at j1 j2 hn1 ⊢
          obtain ⟨q, hq⟩ : ∃ q, z.2.1 = q + 1 := ⟨z.2.1 - 1, by omega⟩
          rw [hq, show q + 1 - (0 + 1) = q from by omega] at j2
          rw [hq, if_neg (by omega), List.take_succ_cons, fld_go e1 (by show (2 : Nat) ≠ 10; decide)]
          exact j2
set_option maxRecDepth 100000 in
/-- more room changes nothing where there was enough -/
theorem szR_room {room room2 : Int} (h : room ≤ room2) : ∀ (l : List Int) (n c : Nat), (szR room l n c).2.2 ≠ 4 → (szR room l n c).2.2 ≠ 5 → szR room2 l n c = szR room l n c
  | [], n, c, _, _ => rfl
  | b :: r, n, c, h4, h5 => by
    rw [szR_cons] at h4 h5 ⊢
    rw [szR_cons]
    by_cases h1 : 0 < c ∧ b = 13
    · rw [if_pos h1, if_pos h1]
    · rw [if_neg h1] at h4 h5 ⊢
      rw [if_neg h1]
      by_cases h2 : dgt b = 16 ∨ (0 < c ∧ n = 0)
      · rw [if_pos h2, if_pos h2]
      · rw [if_neg h2] at h4 h5 ⊢
        rw [if_neg h2]
        by_cases h3 : room < 16 * (n : Int) + dgt b
        · rw [if_pos h3] at h5; exact absurd rfl h5
        · rw [if_neg h3] at h4 h5 ⊢
          rw [if_neg (by omega)]
          exact szR_room h r _ _ h4 h5
set_option maxRecDepth 100000 in
/-- within a chunk's bytes -/
theorem fld4 (most : Nat) : ∀ (l : List Int) (n : Nat) (body : List Int), 1 ≤ n → fld most ⟨4, n, body⟩ l = if l.length < n then some ⟨4, n - l.length, body ++ l⟩ else fld most ⟨5, 0, body ++ l.take n⟩ (l.drop n)
  | [], n, body, hn => by rw [if_pos (by rw [List.length_nil]; omega), List.append_nil]; rfl
  | b :: r, n, body, hn => by
    by_cases h1 : n = 1
    · have e : stp most ⟨4, n, body⟩ b = (⟨5, 0, body ++ [b]⟩, 0) := by show (if n = 1 then _ else _) = _; rw [if_pos h1]
      rw [fld_go e (by show (5 : Nat) ≠ 10; decide), if_neg (by rw [List.length_cons]; omega)]
      subst h1
      rw [show (b :: r).take 1 = [b] from rfl, show (b :: r).drop 1 = r from rfl]
    · have e : stp most ⟨4, n, body⟩ b = (⟨4, n - 1, body ++ [b]⟩, 0) := by show (if n = 1 then _ else _) = _; rw [if_neg h1]
      rw [fld_go e (by show (4 : Nat) ≠ 10; decide), fld4 most r (n - 1) (body ++ [b]) (by omega)]
      obtain ⟨m, rfl⟩ : ∃ m, n = m + 1 := ⟨n - 1, by omega⟩
      rw [Nat.add_sub_cancel, List.length_cons]
      by_cases h2 : r.length < m
      · rw [if_pos h2, if_pos (by omega), show m - r.length = m + 1 - (r.length + 1) from by omega, show body ++ [b] ++ r = body ++ b :: r from by simp]
      · rw [if_neg h2, if_neg (by omega), List.take_succ_cons, List.drop_succ_cons, show body ++ [b] ++ r.take m = body ++ b :: r.take m from by simp]
set_option maxRecDepth 100000 in
/-- behind a chunk's bytes: at most the CR came, or both, or there is an error -/
theorem fld5 (most : Nat) (body l : List Int) (t : CS) (h : fld most ⟨5, 0, body⟩ l = some t) : (l.length < 2 ∧ t.body = body) ∨ (2 ≤ l.length ∧ fld most ⟨0, 0, body⟩ (l.drop 2) = some t) := by
  match l with
  | [] => cases h; exact .inl ⟨by decide, rfl⟩
  | b :: r =>
    by_cases hb : b = 13
    · have e1 : stp most ⟨5, 0, body⟩ b = (⟨6, 0, body⟩, 0) := by show (if b = 13 then _ else _) = _; rw [if_pos hb]
      rw [fld_go e1 (by show (6 : Nat) ≠ 10; decide)] at h
      match r with
      | [] => cases h; exact .inl ⟨by show 1 < 2; decide, rfl⟩
      | x :: r =>
        by_cases hx : x = 10
        · have e2 : stp most ⟨6, 0, body⟩ x = (⟨0, 0, body⟩, 0) := by show (if x = 10 then _ else _) = _; rw [if_pos hx]
          rw [fld_go e2 (by show (0 : Nat) ≠ 10; decide)] at h
          exact .inr ⟨by rw [List.length_cons, List.length_cons]; omega, h⟩
        · have e2 : stp most ⟨6, 0, body⟩ x = (⟨6, 0, body⟩, 4) := by show (if x = 10 then _ else _) = _; rw [if_neg hx]
          rw [fld_cons, e2, if_pos (by show (4 : Int) ≠ 0; decide)] at h; cases h
    · have e1 : stp most ⟨5, 0, body⟩ b = (⟨5, 0, body⟩, 4) := by show (if b = 13 then _ else _) = _; rw [if_neg hb]
      rw [fld_cons, e1, if_pos (by show (4 : Int) ≠ 0; decide)] at h; cases h
set_option maxRecDepth 100000 in
/-- at the end nothing more is said -/
theorem stp_end (most : Nat) (t : CS) (b : Int) (h : 8 ≤ t.ph) : (stp most t b).1.body = t.body ∧ 8 ≤ (stp most t b).1.ph := by
  obtain ⟨p, n, bd⟩ := t
  have h : 8 ≤ p := h
  match p, h with
  | 8, _ => show ((if b = 13 then _ else _) : CS × Int).1.body = _ ∧ _ ≤ ((if b = 13 then _ else _) : CS × Int).1.ph; by_cases hb : b = 13; rw [if_pos hb]; exact ⟨rfl, (by show 8 ≤ 9; decide)⟩; rw [if_neg hb]; exact ⟨rfl, (by show 8 ≤ 8; decide)⟩
  | 9, _ => show ((if b = 10 then _ else _) : CS × Int).1.body = _ ∧ _ ≤ ((if b = 10 then _ else _) : CS × Int).1.ph; by_cases hb : b = 10; rw [if_pos hb]; exact ⟨rfl, (by show 8 ≤ 10; decide)⟩; rw [if_neg hb]; exact ⟨rfl, (by show 8 ≤ 9; decide)⟩
  | p + 10, h => exact ⟨rfl, h⟩
set_option maxRecDepth 100000 in
theorem fld_end (most : Nat) : ∀ (l : List Int) (s t : CS), 8 ≤ s.ph → fld most s l = some t → t.body = s.body
  | [], s, t, _, h => by cases h; rfl
  | b :: r, s, t, h8, h => by
    rw [fld_cons] at h
    obtain ⟨g1, g2⟩ := stp_end most s b h8
    by_cases h1 : (stp most s b).2 ≠ 0
    · rw [if_pos h1] at h; cases h
    · rw [if_neg h1] at h
      by_cases h2 : (stp most s b).1.ph = 10
      · rw [if_pos h2] at h; cases h
      · rw [if_neg h2] at h
        rw [fld_end most r _ t g2 h, g1]
/-- what all bytes say, as far as they go -/
def bdR (most : Int) (B : List Int) : Nat → Nat → List Int → List Int
  | 0, _, body => body
  | f + 1, p, body =>
    if B.length ≤ p then body else
    if (szR most (B.drop p) 0 0).2.2 ≠ 0 ∨ (szR most (B.drop p) 0 0).1 = 0 then body else
    bdR most B f (p + (szR most (B.drop p) 0 0).2.1 + (szR most (B.drop p) 0 0).1 + 2) (body ++ (B.drop (p + (szR most (B.drop p) 0 0).2.1)).take (szR most (B.drop p) 0 0).1)
set_option maxRecDepth 100000 in
theorem bdR_over (most : Int) (B : List Int) (f p : Nat) (body : List Int) (h : B.length ≤ p) : bdR most B f p body = body := by
  cases f with
  | zero => rfl
  | succ f => unfold bdR; rw [if_pos h]
set_option maxRecDepth 100000 in
/-- .. and that is what the reader has, where it stands, and at its end -/
theorem bd_fld (most : Nat) (B : List Int) : ∀ (f p : Nat) (body : List Int) (t : CS), body.length ≤ most → B.length < f + p → fld most ⟨0, 0, body⟩ (B.drop p) = some t → bdR most B f p body = t.body
  | 0, p, body, t, hb, hf, h => by
    rw [List.drop_of_length_le (by omega)] at h; cases h; rfl
  | f + 1, p, body, t, hb, hf, h => by
    by_cases hp : B.length ≤ p
    · rw [bdR_over _ _ _ _ _ hp]
      rw [List.drop_of_length_le hp] at h; cases h; rfl
    · have hrun := run_none most _ _ 0 t h
      obtain ⟨g1, g2⟩ := fld0 most body (B.drop p)
      have hcase : (szR ((most : Int) - body.length) (B.drop p) 0 0).2.2 = 3 ∨ ((szR ((most : Int) - body.length) (B.drop p) 0 0).2.2 = 0 ∧ (szR ((most : Int) - body.length) (B.drop p) 0 0).2.1 ≤ (B.drop p).length ∧ 3 ≤ (szR ((most : Int) - body.length) (B.drop p) 0 0).2.1 ∧ body.length + (szR ((most : Int) - body.length) (B.drop p) 0 0).1 ≤ most) := by
        rcases run0 most body hb (B.drop p) 0 with ⟨h1, h2⟩ | ⟨h1, h2, h3, h4, _⟩
        · rw [hrun] at h2; exact .inl (congrArg (fun x : List Int × Nat × Int => x.2.2) h2).symm
        · exact .inr ⟨h1, h3, h2, h4⟩
      have hroom : szR (most : Int) (B.drop p) 0 0 = szR ((most : Int) - body.length) (B.drop p) 0 0 := szR_room (by omega) _ _ _ (by rcases hcase with h1 | h1; rw [h1]; decide; rw [h1.1]; decide) (by rcases hcase with h1 | h1; rw [h1]; decide; rw [h1.1]; decide)
      unfold bdR
      rw [if_neg hp, hroom]
      rcases hcase with h3 | ⟨h0, hc, hc3, hroom2⟩
      · rw [if_pos (.inl (by rw [h3]; decide))]
        obtain ⟨t2, k1, k2⟩ := g1 h3
        rw [h] at k1; cases k1; exact k2.symm
      · have k1 := g2 h0
        generalize szR ((most : Int) - body.length) (B.drop p) 0 0 = z at h0 hc hc3 hroom2 k1 ⊢
        obtain ⟨n, c, e⟩ := z
        simp only at h0 hc hc3 hroom2 k1 ⊢
        have hsplit : B.drop p = (B.drop p).take c ++ B.drop (p + c) := by rw [← List.drop_drop]; exact (List.take_append_drop c _).symm
        rw [hsplit, fld_app, k1] at h
        replace h : fld most (if n = 0 then ⟨8, 0, body⟩ else ⟨4, n, body⟩) (B.drop (p + c)) = some t := h
        by_cases hn : n = 0
        · rw [if_pos (.inr hn)]
          rw [if_pos hn] at h
          exact (fld_end most _ _ t (by show 8 ≤ 8; decide) h).symm
        · rw [if_neg (fun hh => by rcases hh with hh | hh; exact hh h0; exact hn hh)]
          rw [if_neg hn, fld4 _ _ _ _ (by omega)] at h
          rw [List.length_drop] at h
          by_cases hs : B.length - (p + c) < n
          · rw [if_pos hs] at h
            cases h
            rw [bdR_over _ _ _ _ _ (by omega), List.take_of_length_le (by rw [List.length_drop]; omega)]
          · rw [if_neg hs, List.drop_drop] at h
            rw [List.length_drop] at hc
            rcases fld5 most _ _ t h with ⟨h5, h6⟩ | ⟨h5, h6⟩
            · rw [List.length_drop] at h5
              rw [bdR_over _ _ _ _ _ (by omega), h6]
            · rw [List.drop_drop] at h6
              exact bd_fld most B f _ _ t (by rw [List.length_append, List.length_take, List.length_drop]; omega) (by omega) h6
set_option maxRecDepth 100000 in
theorem fld_snoc_some {most : Nat} {s t : CS} {B : List Int} {b : Int} (h : fld most s B = some t) (h1 : (stp most t b).2 = 0) (h2 : (stp most t b).1.ph ≠ 10) : fld most s (B ++ [b]) = some (stp most t b).1 := by
  rw [fld_snoc, h]
  show (if (stp most t b).2 ≠ 0 then none else if (stp most t b).1.ph = 10 then none else some (stp most t b).1) = _
  rw [if_neg (fun k => k h1), if_neg h2]
end Go.Proofs.YtpfijaojgeceeaaGreatDoor
