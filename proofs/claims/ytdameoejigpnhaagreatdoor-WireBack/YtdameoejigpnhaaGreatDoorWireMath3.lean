/- Readers of requests: where one stands behind bytes; what Put, Take and Idle answer; the document's own reader. No walk. -/
import Derived.Test.YtdameoejigpnhaaGreatDoorWireMath2
namespace Go.Proofs.YtdameoejigpnhaaGreatDoor
open Go.RowKit
set_option linter.unusedVariables false

/-- where a reader stands behind bytes that have no error -/
def fldQ (P : WP) : WS → List Int → Option WS
  | s, [] => some s
  | s, b :: r => if (wst P s b).2 ≠ 0 then none else fldQ P (wst P s b).1 r
/-- at the beginning -/
def ws0 : WS := .head hd0 0 0 []
set_option maxRecDepth 100000 in
theorem fldQ_cons (P : WP) (s : WS) (b : Int) (r : List Int) : fldQ P s (b :: r) = if (wst P s b).2 ≠ 0 then none else fldQ P (wst P s b).1 r := rfl
set_option maxRecDepth 100000 in
theorem fldQ_done (P : WP) (x : WX) (b : Int) (r : List Int) : fldQ P (.done x) (b :: r) = none := by rw [fldQ_cons, if_pos (by simp [wst])]
set_option maxRecDepth 100000 in
theorem fldQ_app (P : WP) (B l : List Int) : ∀ s, fldQ P s (B ++ l) = (fldQ P s B).bind fun t => fldQ P t l := by
  induction B with
  | nil => intro s; rfl
  | cons c r ih =>
    intro s
    rw [List.cons_append, fldQ_cons, fldQ_cons]
    by_cases h1 : (wst P s c).2 ≠ 0
    · rw [if_pos h1, if_pos h1]; rfl
    · rw [if_neg h1, if_neg h1]; exact ih _
set_option maxRecDepth 100000 in
theorem fldQ_snoc {P : WP} {s t : WS} {B : List Int} {b : Int} (h : fldQ P s B = some t) (h1 : (wst P t b).2 = 0) : fldQ P s (B ++ [b]) = some (wst P t b).1 := by
  rw [fldQ_app, h]
  show fldQ P t [b] = _
  rw [fldQ_cons, if_neg (by rw [h1]; simp)]; rfl
set_option maxRecDepth 100000 in
theorem over_wst {P : WP} {s : WS} {b : Int} (h : (wst P s b).2 = 0) : s.over = false := by
  cases s with
  | done x => simp [wst] at h
  | head h l c u => rfl
  | fix h n u => rfl
  | chk h c => rfl
set_option maxRecDepth 100000 in
theorem run_fldQ (P : WP) (B l : List Int) : ∀ (s : WS) (k : Nat) (t : WS), fldQ P s B = some t → runQ P s (B ++ l) k = runQ P t l (k + B.length) := by
  induction B with
  | nil => intro s k t h; cases h; rfl
  | cons c r ih =>
    intro s k t h
    rw [fldQ_cons] at h
    by_cases h1 : (wst P s c).2 ≠ 0
    · rw [if_pos h1] at h; cases h
    · rw [if_neg h1] at h
      rw [List.cons_append, runQ_cons P (over_wst (by simpa using h1)), if_neg h1, ih _ _ _ h, List.length_cons]
      congr 1; omega
set_option maxRecDepth 100000 in
/-- one byte more, of all bytes anew -/
theorem run_oneQ (P : WP) (B : List Int) (b : Int) (s : WS) (k : Nat) (t : WS) (h : fldQ P s B = some t) (ho : t.over = false) : runQ P s (B ++ [b]) k = if (wst P t b).2 ≠ 0 then (wx0, 0, (wst P t b).2) else runQ P (wst P t b).1 [] (k + B.length + 1) := by
  rw [run_fldQ P B [b] s k t h, runQ_cons P ho]
set_option maxRecDepth 100000 in
theorem runQ_end (P : WP) (s : WS) (k : Nat) : (s.over = false ∧ runQ P s [] k = (wx0, 0, 3)) ∨ ∃ x, s = .done x ∧ runQ P s [] k = (x, k, 0) := by
  cases s with
  | done x => exact .inr ⟨x, rfl, rfl⟩
  | head h l c u => exact .inl ⟨rfl, rfl⟩
  | fix h n u => exact .inl ⟨rfl, rfl⟩
  | chk h c => exact .inl ⟨rfl, rfl⟩
set_option maxRecDepth 100000 in
/-- a request that is whole: all of its bytes have no error -/
theorem run_okQ (P : WP) : ∀ (l : List Int) (s : WS) (k : Nat) (x : WX) (K : Nat), runQ P s l k = (x, K, 0) → ∃ j, K = k + j ∧ j ≤ l.length ∧ fldQ P s (l.take j) = some (.done x)
  | [], s, k, x, K, h => by
    rcases runQ_end P s k with ⟨_, h2⟩ | ⟨y, rfl, h2⟩
    · rw [h2] at h; simp at h
    · rw [h2] at h
      simp only [Prod.mk.injEq, and_true] at h
      obtain ⟨rfl, rfl⟩ := h
      exact ⟨0, rfl, Nat.le_refl _, rfl⟩
  | b :: r, s, k, x, K, h => by
    cases ho : s.over with
    | true =>
      cases s with
      | done y =>
        rw [runQ_done] at h
        simp only [Prod.mk.injEq, and_true] at h
        obtain ⟨rfl, rfl⟩ := h
        exact ⟨0, rfl, Nat.zero_le _, rfl⟩
      | head h l c u => cases ho
      | fix h n u => cases ho
      | chk h c => cases ho
    | false =>
      rw [runQ_cons P ho] at h
      by_cases h1 : (wst P s b).2 ≠ 0
      · rw [if_pos h1] at h
        simp only [Prod.mk.injEq] at h
        exact absurd h.2.2 h1
      · rw [if_neg h1] at h
        obtain ⟨j, e1, e2, e3⟩ := run_okQ P r _ _ _ _ h
        refine ⟨j + 1, by omega, by rw [List.length_cons]; omega, ?_⟩
        rw [List.take_succ_cons, fldQ_cons, if_neg h1]; exact e3
set_option maxRecDepth 100000 in
/-- .. and whatever stands behind plays no part -/
theorem run_behindQ (P : WP) {l : List Int} {s : WS} {x : WX} (h : runQ P s l 0 = (x, l.length, 0)) (r : List Int) : runQ P s (l ++ r) 0 = (x, l.length, 0) := by
  obtain ⟨j, e1, e2, e3⟩ := run_okQ P l s 0 x _ h
  rw [show j = l.length from by omega, List.take_length] at e3
  rw [run_fldQ P l r s 0 _ e3, runQ_done, Nat.zero_add]
set_option maxRecDepth 100000 in
/-- a beginning of it has no error, and is not whole -/
theorem fld_beginQ (P : WP) {l : List Int} {s : WS} {x : WX} (h : runQ P s l 0 = (x, l.length, 0)) (j : Nat) (hj : j < l.length) : ∃ t, fldQ P s (l.take j) = some t ∧ t.over = false := by
  obtain ⟨i, e1, e2, e3⟩ := run_okQ P l s 0 x _ h
  rw [show i = l.length from by omega, List.take_length] at e3
  have hs : l = l.take j ++ l.drop j := (List.take_append_drop j l).symm
  rw [hs, fldQ_app] at e3
  cases hf : fldQ P s (l.take j) with
  | none => rw [hf] at e3; cases e3
  | some t =>
    rw [hf] at e3
    replace e3 : fldQ P t (l.drop j) = some (.done x) := e3
    refine ⟨t, rfl, ?_⟩
    cases ho : t.over with
    | false => rfl
    | true =>
      cases t with
      | done y =>
        rw [drop_head l j hj, fldQ_done] at e3; cases e3
      | head h l c u => cases ho
      | fix h n u => cases ho
      | chk h c => cases ho
set_option maxRecDepth 100000 in
theorem run_beginQ (P : WP) {l : List Int} {s : WS} {x : WX} (h : runQ P s l 0 = (x, l.length, 0)) (j : Nat) (hj : j < l.length) : runQ P s (l.take j) 0 = (wx0, 0, 3) := by
  obtain ⟨t, e1, e2⟩ := fld_beginQ P h j hj
  have := run_fldQ P (l.take j) [] s 0 t e1
  rw [List.append_nil] at this
  rw [this, runQ_nil P e2]
/-- a reader: where it stands, or behind an error -/
inductive WR where
  | ok (s : WS)
  | bad
def WR.over : WR → Bool | .ok s => s.over | .bad => true
/-- what Put makes, whether the request is whole with it, the error -/
def puS (P : WP) (r : WR) (b : Int) : WR := match r with | .bad => .bad | .ok s => if s.over = true then .ok s else if (wst P s b).2 ≠ 0 then .bad else .ok (wst P s b).1
def puE (P : WP) (r : WR) (b : Int) : Int := match r with | .bad => 20 | .ok s => (wst P s b).2
def puD (P : WP) (r : WR) (b : Int) : Bool := match r with | .bad => false | .ok s => decide (s.over = false ∧ (wst P s b).2 = 0 ∧ (wst P s b).1.over = true)
/-- what Take answers and makes -/
def tkX (r : WR) : WX := match r with | .ok (.done x) => x | _ => wx0
def tkB (r : WR) : Bool := match r with | .ok (.done _) => true | _ => false
def tkS (r : WR) : WR := match r with | .ok (.done _) => .ok ws0 | r => r
/-- nothing came -/
def idl (r : WR) : Bool := match r with | .ok (.head _ _ cnt _) => decide (cnt = 0) | _ => false
set_option maxRecDepth 100000 in
theorem wst_over {P : WP} {s : WS} (b : Int) (h : s.over = true) : wst P s b = (s, 20) := by
  cases s with
  | done x => rfl
  | head h l c u => cases h
  | fix h n u => cases h
  | chk h c => cases h
/-- what the document's own reader knows: its bytes, whether there was an error, whether a request is whole, which -/
structure QI (P : WP) (B : List Int) (bad done : Bool) (X : WX) (r : WR) : Prop where
  go : bad = false → done = false → ∃ s, r = .ok s ∧ s.over = false ∧ fldQ P ws0 B = some s
  er : bad = true → r = .bad ∧ B ≠ [] ∧ done = false
  dn : done = true → r = .ok (.done X) ∧ B ≠ [] ∧ bad = false
set_option maxRecDepth 100000 in
theorem QI.new (P : WP) : QI P [] false false wx0 (.ok ws0) := ⟨fun _ _ => ⟨ws0, rfl, rfl, rfl⟩, fun h => (by cases h), fun h => (by cases h)⟩
set_option maxRecDepth 100000 in
theorem QI.over {P : WP} {B : List Int} {bad done : Bool} {X : WX} {r : WR} (h : QI P B bad done X r) (ho : bad = true ∨ done = true) (b : Int) : puS P r b = r ∧ puE P r b = 20 ∧ puD P r b = false := by
  rcases ho with h1 | h1
  · obtain ⟨rfl, _, _⟩ := h.er h1; exact ⟨rfl, rfl, rfl⟩
  · obtain ⟨rfl, _, _⟩ := h.dn h1
    exact ⟨rfl, rfl, by simp [puD, WS.over]⟩
set_option maxRecDepth 100000 in
/-- a byte: just one of three -/
theorem QI.put {P : WP} {B : List Int} {X : WX} {r : WR} (h : QI P B false false X r) (b : Int) :
    (runQ P ws0 (B ++ [b]) 0).2.2 = (if puE P r b ≠ 0 then puE P r b else if puD P r b = true then 0 else 3) ∧
    (puE P r b ≠ 0 → QI P (B ++ [b]) true false X (puS P r b) ∧ puD P r b = false) ∧
    (puE P r b = 0 → puD P r b = true → QI P (B ++ [b]) false true (runQ P ws0 (B ++ [b]) 0).1 (puS P r b)) ∧
    (puE P r b = 0 → puD P r b = false → QI P (B ++ [b]) false false X (puS P r b)) := by
  obtain ⟨s, rfl, ho, hf⟩ := h.go rfl rfl
  have hr := run_oneQ P B b ws0 0 s hf ho
  have hne : B ++ [b] ≠ [] := by simp
  show _ = (if (wst P s b).2 ≠ 0 then (wst P s b).2 else _) ∧ ((wst P s b).2 ≠ 0 → _) ∧ ((wst P s b).2 = 0 → _) ∧ ((wst P s b).2 = 0 → _)
  have hS : ∀ e : (wst P s b).2 ≠ 0, puS P (.ok s) b = .bad := fun e => by simp only [puS]; rw [if_neg (by rw [ho]; simp), if_pos e]
  have hS0 : ∀ e : (wst P s b).2 = 0, puS P (.ok s) b = .ok (wst P s b).1 := fun e => by simp only [puS]; rw [if_neg (by rw [ho]; simp), if_neg (by rw [e]; simp)]
  by_cases h1 : (wst P s b).2 ≠ 0
  · rw [if_pos h1] at hr ⊢
    rw [hr]
    exact ⟨rfl, fun _ => ⟨⟨fun h => (by cases h), fun _ => ⟨hS h1, hne, rfl⟩, fun h => (by cases h)⟩, by simp only [puD]; simp [h1]⟩, fun h => absurd h h1, fun h => absurd h h1⟩
  · have h0 : (wst P s b).2 = 0 := by simpa using h1
    rw [if_neg h1] at hr ⊢
    have hf2 := fldQ_snoc hf h0
    rcases runQ_end P (wst P s b).1 (0 + B.length + 1) with ⟨g1, g2⟩ | ⟨y, g1, g2⟩
    · have hD : puD P (.ok s) b = false := by simp only [puD]; simp [g1]
      rw [hr, g2, hD, if_neg (by simp)]
      exact ⟨rfl, fun h => absurd h0 h, fun _ h => (by cases h), fun _ _ => ⟨fun _ _ => ⟨_, hS0 h0, g1, hf2⟩, fun h => (by cases h), fun h => (by cases h)⟩⟩
    · have hD : puD P (.ok s) b = true := by simp only [puD]; rw [decide_eq_true_iff]; exact ⟨ho, h0, by rw [g1]; rfl⟩
      rw [hr, g2, hD, if_pos rfl]
      exact ⟨rfl, fun h => absurd h0 h, fun _ _ => ⟨fun _ h => (by cases h), fun h => (by cases h), fun _ => ⟨by rw [hS0 h0, g1], hne, rfl⟩⟩, fun _ h => (by cases h)⟩
set_option maxRecDepth 100000 in
theorem QI.take {P : WP} {B : List Int} {bad done : Bool} {X : WX} {r : WR} (h : QI P B bad done X r) : tkB r = done ∧ (done = true → tkX r = X ∧ tkS r = .ok ws0) ∧ (done = false → tkX r = wx0 ∧ tkS r = r) := by
  cases done with
  | true =>
    obtain ⟨rfl, _, _⟩ := h.dn rfl
    exact ⟨rfl, fun _ => ⟨rfl, rfl⟩, fun h => (by cases h)⟩
  | false =>
    cases bad with
    | true => obtain ⟨rfl, _, _⟩ := h.er rfl; exact ⟨rfl, fun h => (by cases h), fun _ => ⟨rfl, rfl⟩⟩
    | false =>
      obtain ⟨s, rfl, ho, _⟩ := h.go rfl rfl
      cases s with
      | done x => cases ho
      | head h l c u => exact ⟨rfl, fun h => (by cases h), fun _ => ⟨rfl, rfl⟩⟩
      | fix h n u => exact ⟨rfl, fun h => (by cases h), fun _ => ⟨rfl, rfl⟩⟩
      | chk h c => exact ⟨rfl, fun h => (by cases h), fun _ => ⟨rfl, rfl⟩⟩
/-- how many bytes a head has had -/
def WS.cnt : WS → Option Nat | .head _ _ c _ => some c | _ => none
set_option maxRecDepth 100000 in
theorem eol_cnt (P : WP) (h : HD) (lines c : Nat) (l : List Int) (h0 : (eol P h lines c l).2 = 0) : (eol P h lines c l).1.cnt = some c ∨ (eol P h lines c l).1.cnt = none := by
  unfold eol at h0 ⊢
  by_cases h1 : lines = 0
  · rw [if_pos h1] at h0 ⊢
    cases hF : P.F l with
    | none => exact .inl rfl
    | some mt => exact .inl rfl
  · rw [if_neg h1] at h0 ⊢
    by_cases h2 : l = []
    · rw [if_pos h2]
      right
      unfold bgQ
      split
      · rfl
      · split <;> rfl
    · rw [if_neg h2]
      split <;> exact .inl rfl
set_option maxRecDepth 100000 in
theorem wst_cnt (P : WP) (s : WS) (b : Int) (h0 : (wst P s b).2 = 0) : (∀ c, s.cnt = some c → (wst P s b).1.cnt = some (c + 1) ∨ (wst P s b).1.cnt = none) ∧ (s.cnt = none → (wst P s b).1.cnt = none) := by
  cases s with
  | head h l c u =>
    refine ⟨fun c' e => ?_, fun e => by cases e⟩
    obtain rfl : c = c' := by simpa [WS.cnt] using e
    simp only [wst] at h0 ⊢
    by_cases h1 : 1024 ≤ c
    · rw [if_pos h1] at h0; simp at h0
    · rw [if_neg h1] at h0 ⊢
      by_cases h2 : bhd u = true ∧ b = 10
      · rw [if_pos h2] at h0 ⊢
        exact eol_cnt P h l (c + 1) _ h0
      · rw [if_neg h2] at h0 ⊢
        by_cases h3 : badB u b = true
        · rw [if_pos h3] at h0; simp at h0
        · rw [if_neg h3]; exact .inl rfl
  | fix h n u =>
    refine ⟨fun c' e => (by cases e), fun _ => ?_⟩
    simp only [wst]
    split <;> rfl
  | chk h c =>
    refine ⟨fun c' e => (by cases e), fun _ => ?_⟩
    simp only [wst]
    split
    · rfl
    · split <;> rfl
  | done x => simp [wst] at h0
set_option maxRecDepth 100000 in
theorem fld_cnt (P : WP) : ∀ (B : List Int) (s t : WS), fldQ P s B = some t → (∀ c, s.cnt = some c → t.cnt = some (c + B.length) ∨ t.cnt = none) ∧ (s.cnt = none → t.cnt = none)
  | [], s, t, h => by cases h; exact ⟨fun c e => .inl e, fun e => e⟩
  | b :: r, s, t, h => by
    rw [fldQ_cons] at h
    by_cases h1 : (wst P s b).2 ≠ 0
    · rw [if_pos h1] at h; cases h
    · rw [if_neg h1] at h
      obtain ⟨a1, a2⟩ := wst_cnt P s b (by simpa using h1)
      obtain ⟨b1, b2⟩ := fld_cnt P r _ t h
      refine ⟨fun c e => ?_, fun e => b2 (a2 e)⟩
      rcases a1 c e with g | g
      · rcases b1 _ g with k | k
        · exact .inl (by rw [k, List.length_cons]; congr 1; omega)
        · exact .inr k
      · exact .inr (b2 g)
set_option maxRecDepth 100000 in
/-- whether nothing came, by the document's own bytes -/
theorem QI.idle {P : WP} {B : List Int} {bad done : Bool} {X : WX} {r : WR} (h : QI P B bad done X r) : idl r = decide (B.length = 0) := by
  cases done with
  | true =>
    obtain ⟨rfl, hB, _⟩ := h.dn rfl
    cases B with
    | nil => exact absurd rfl hB
    | cons _ _ => simp [idl]
  | false =>
    cases bad with
    | true =>
      obtain ⟨rfl, hB, _⟩ := h.er rfl
      cases B with
      | nil => exact absurd rfl hB
      | cons _ _ => simp [idl]
    | false =>
      obtain ⟨s, rfl, ho, hf⟩ := h.go rfl rfl
      have hc := (fld_cnt P B ws0 s hf).1 0 rfl
      cases s with
      | done x => cases ho
      | head h l c u =>
        rcases hc with g | g
        · obtain rfl : c = B.length := by simpa [WS.cnt] using g
          rfl
        · cases g
      | fix h n u =>
        cases B with
        | nil => simp [fldQ, ws0] at hf
        | cons _ _ => simp [idl]
      | chk h c =>
        cases B with
        | nil => simp [fldQ, ws0] at hf
        | cons _ _ => simp [idl]
end Go.Proofs.YtdameoejigpnhaaGreatDoor
