/- Requests, byte by byte and all at once, as the mathematics has them (what a line says is left open here). No walk. -/
import Derived.Test.YtpfijaojgeceeaaGreatDoorChunkMath2
namespace Go.Proofs.YtpfijaojgeceeaaGreatDoor
open Go.RowKit
set_option linter.unusedVariables false

/-- what the lines of a head said -/
structure HD where
  m : ByteArray
  t : ByteArray
  k : ByteArray
  auth : Bool
  len : Bool
  enc : Bool
  n : Nat
/-- a request: its method, target, token and body -/
structure WX where
  m : ByteArray
  t : ByteArray
  k : ByteArray
  b : List Int
def wx0 : WX := ⟨⟨#[]⟩, ⟨#[]⟩, ⟨#[]⟩, []⟩
def hd0 : HD := ⟨⟨#[]⟩, ⟨#[]⟩, ⟨#[]⟩, false, false, false, 0⟩
def HD.x (h : HD) (b : List Int) : WX := ⟨h.m, h.t, h.k, b⟩
/-- what lines say: the first one (none: it is no such line), a further one (the error besides) -/
structure WP where
  F : List Int → Option (ByteArray × ByteArray)
  G : HD → List Int → HD × Int
/-- where a reader stands: in a head (what was said, how many lines, how many bytes, the line till now), in a body of so many bytes, in a body in chunks, at the end -/
inductive WS where
  | head (h : HD) (lines cnt : Nat) (cur : List Int)
  | fix (h : HD) (left : Nat) (body : List Int)
  | chk (h : HD) (c : CS)
  | done (x : WX)
/-- the line's last byte is CR -/
def bhd (cur : List Int) : Bool := decide (cur.getLast? = some 13)
/-- a byte that stands where it must not -/
def badB (cur : List Int) (b : Int) : Bool := bhd cur || (decide (b = 10) || (decide (b ≠ 13) && (decide (b < 32) || decide (127 ≤ b))))
/-- behind the empty line -/
def bgQ (h : HD) : WS := if h.enc = true then .chk h ⟨0, 0, []⟩ else if h.n = 0 then .done (h.x []) else .fix h h.n []
/-- a line that is whole: what it makes, and the error -/
def eol (P : WP) (h : HD) (lines cnt : Nat) (l : List Int) : WS × Int :=
  if lines = 0 then (match P.F l with | none => (.head h lines cnt l, 4) | some (m, t) => (.head { h with m := m, t := t } 1 cnt [], 0))
  else if l = [] then (bgQ h, 0) else if 17 ≤ lines then (.head h lines cnt l, 5) else (.head (P.G h l).1 (lines + 1) cnt [], (P.G h l).2)
/-- one byte: what it makes, and the error -/
def wst (P : WP) : WS → Int → WS × Int
  | .head h lines cnt cur, b =>
    if 1024 ≤ cnt then (.head h lines cnt cur, 5) else
    if bhd cur = true ∧ b = 10 then eol P h lines (cnt + 1) cur.dropLast else
    if badB cur b = true then (.head h lines cnt cur, 4) else (.head h lines (cnt + 1) (cur ++ [b]), 0)
  | .fix h left body, b => if left = 1 then (.done (h.x (body ++ [b])), 0) else (.fix h (left - 1) (body ++ [b]), 0)
  | .chk h c, b => if (stp 2048 c b).2 ≠ 0 then (.chk h c, (stp 2048 c b).2) else if (stp 2048 c b).1.ph = 10 then (.done (h.x (stp 2048 c b).1.body), 0) else (.chk h (stp 2048 c b).1, 0)
  | .done x, _ => (.done x, 20)
/-- all bytes: the request, how many there are, the error -/
def runQ (P : WP) : WS → List Int → Nat → WX × Nat × Int
  | .done x, _, k => (x, k, 0)
  | _, [], _ => (wx0, 0, 3)
  | s, b :: r, k => if (wst P s b).2 ≠ 0 then (wx0, 0, (wst P s b).2) else runQ P (wst P s b).1 r (k + 1)
set_option maxRecDepth 100000 in
theorem runQ_done (P : WP) (x : WX) (l : List Int) (k : Nat) : runQ P (.done x) l k = (x, k, 0) := by cases l <;> rfl
def WS.over : WS → Bool | .done _ => true | _ => false
set_option maxRecDepth 100000 in
theorem runQ_nil (P : WP) {s : WS} (h : s.over = false) (k : Nat) : runQ P s [] k = (wx0, 0, 3) := by cases s <;> first | rfl | cases h
set_option maxRecDepth 100000 in
theorem runQ_cons (P : WP) {s : WS} (h : s.over = false) (b : Int) (r : List Int) (k : Nat) : runQ P s (b :: r) k = if (wst P s b).2 ≠ 0 then (wx0, 0, (wst P s b).2) else runQ P (wst P s b).1 r (k + 1) := by cases s <;> first | rfl | cases h
set_option maxRecDepth 100000 in
/-- a body of so many bytes -/
theorem runQ_fix (P : WP) (h : HD) : ∀ (l : List Int) (n : Nat) (body : List Int) (k : Nat), 1 ≤ n → runQ P (.fix h n body) l k = if l.length < n then (wx0, 0, 3) else (h.x (body ++ l.take n), k + n, 0)
  | [], n, body, k, hn => by rw [runQ_nil P rfl, if_pos (by simp; omega)]
  | b :: r, n, body, k, hn => by
    rw [runQ_cons P rfl]
    by_cases h1 : n = 1
    · have e : wst P (.fix h n body) b = (.done (h.x (body ++ [b])), 0) := by simp [wst, h1]
      rw [e, if_neg (by simp), runQ_done, h1, if_neg (by simp)]; simp
    · have e : wst P (.fix h n body) b = (.fix h (n - 1) (body ++ [b]), 0) := by simp [wst, h1]
      rw [e, if_neg (by simp)]
      show runQ P (.fix h (n - 1) (body ++ [b])) r (k + 1) = _
      rw [runQ_fix P h r (n - 1) _ _ (by omega), List.length_cons]
      by_cases h2 : r.length < n - 1
      · rw [if_pos h2, if_pos (by omega)]
      · obtain ⟨j, rfl⟩ : ∃ j, n = j + 1 := ⟨n - 1, by omega⟩
        rw [if_neg h2, if_neg (by omega), Nat.add_sub_cancel, List.take_succ_cons, show k + 1 + j = k + (j + 1) from by omega]; simp
set_option maxRecDepth 100000 in
/-- a body in chunks -/
theorem runQ_chk (P : WP) (h : HD) : ∀ (l : List Int) (c : CS) (k : Nat), runQ P (.chk h c) l k = if (runW 2048 c l k).2.2 ≠ 0 then (wx0, 0, (runW 2048 c l k).2.2) else (h.x (runW 2048 c l k).1, (runW 2048 c l k).2.1, 0)
  | [], c, k => by rw [runQ_nil P rfl]; rfl
  | b :: r, c, k => by
    rw [runQ_cons P rfl, runW_cons]
    by_cases h1 : (stp 2048 c b).2 ≠ 0
    · have e : wst P (.chk h c) b = (.chk h c, (stp 2048 c b).2) := by simp only [wst]; rw [if_pos h1]
      rw [e, if_pos h1, if_pos h1, if_pos h1]
    · by_cases h2 : (stp 2048 c b).1.ph = 10
      · have e : wst P (.chk h c) b = (.done (h.x (stp 2048 c b).1.body), 0) := by simp only [wst]; rw [if_neg h1, if_pos h2]
        rw [e, if_neg (by simp), runQ_done, if_neg h1, if_pos h2, if_neg (by simp)]
      · have e : wst P (.chk h c) b = (.chk h (stp 2048 c b).1, 0) := by simp only [wst]; rw [if_neg h1, if_neg h2]
        rw [e, if_neg (by simp), if_neg h1, if_neg h2]
        exact runQ_chk P h r _ _
/-- behind the empty line, all at once -/
def bodR (h : HD) (b : List Int) (p : Nat) : WX × Nat × Int :=
  if h.enc = true then (if (runW 2048 ⟨0, 0, []⟩ (b.drop p) 0).2.2 ≠ 0 then (wx0, 0, (runW 2048 ⟨0, 0, []⟩ (b.drop p) 0).2.2) else (h.x (runW 2048 ⟨0, 0, []⟩ (b.drop p) 0).1, p + (runW 2048 ⟨0, 0, []⟩ (b.drop p) 0).2.1, 0))
  else if b.length - p < h.n then (wx0, 0, 3) else (h.x ((b.drop p).take h.n), p + h.n, 0)
set_option maxRecDepth 100000 in
theorem runW_shift (most : Nat) : ∀ (l : List Int) (s : CS) (k p : Nat), runW most s l (p + k) = if (runW most s l k).2.2 ≠ 0 then runW most s l k else ((runW most s l k).1, p + (runW most s l k).2.1, 0)
  | [], s, k, p => by rw [if_pos (by show (3 : Int) ≠ 0; decide)]; rfl
  | b :: r, s, k, p => by
    rw [runW_cons, runW_cons]
    by_cases h1 : (stp most s b).2 ≠ 0
    · rw [if_pos h1, if_pos h1, if_pos h1]
    · rw [if_neg h1, if_neg h1]
      by_cases h2 : (stp most s b).1.ph = 10
      · rw [if_pos h2, if_pos h2, if_neg (by simp)]; rfl
      · rw [if_neg h2, if_neg h2, Nat.add_assoc]
        exact runW_shift most r _ (k + 1) p
set_option maxRecDepth 100000 in
theorem run_bod (P : WP) (h : HD) (b : List Int) (p : Nat) : runQ P (bgQ h) (b.drop p) p = bodR h b p := by
  unfold bgQ bodR
  by_cases h1 : h.enc = true
  · rw [if_pos h1, if_pos h1, runQ_chk]
    have e := runW_shift 2048 (b.drop p) ⟨0, 0, []⟩ 0 p
    rw [Nat.add_zero] at e
    rw [e]
    by_cases h2 : (runW 2048 ⟨0, 0, []⟩ (b.drop p) 0).2.2 ≠ 0
    · rw [if_pos h2, if_pos h2, if_pos h2]
    · rw [if_neg h2, if_neg (by simp), if_neg h2]
  · rw [if_neg h1, if_neg h1]
    by_cases h2 : h.n = 0
    · rw [if_pos h2, runQ_done, h2, if_neg (by omega)]; simp
    · rw [if_neg h2, runQ_fix P h _ _ _ _ (by omega), List.length_drop, List.nil_append]
end Go.Proofs.YtpfijaojgeceeaaGreatDoor
