/- A search that remembers where it was. No walk. The search, try by try. No walk. A search through orders of operations: it fits just if there is an order. No walk. A beginning of a history that fits fits. No walk. A search in pieces, and what it tells. No walk. The search try by try, as a stack of frames. No walk. What a try comes to, by what a step leaves. No walk. How many tries are enough: row by row. No walk. A beginning of a history that fits fits, with so many tries. No walk. -/
import Derived.Test.YtbjeeefkbmdmfaaLnb
import Derived.Test.YtbjeeefkbmdmfaaLna
namespace Go.Proofs.Ytbjeeefkbmdmfaa
open Go.RowKit
set_option linter.unusedVariables false

/-- what a try comes to -/
abbrev Tr (P : Type) := Option (Option P)
abbrev Tr.fuel {P : Type} : Tr P := none
abbrev Tr.no {P : Type} : Tr P := some none
abbrev Tr.yes {P : Type} (q : P) : Tr P := some (some q)
/-- what is searched -/
structure Sr (P : Type) where
  n : Nat
  full : P → Bool
  free : P → Nat → Bool
  tr : P → Nat → Tr P
  rank : P → Nat
structure SrOk {P : Type} (s : Sr P) : Prop where
  zero : ∀ p, s.rank p = 0 → s.full p = true
  down : ∀ p i q, s.free p i = true → s.tr p i = .yes q → s.rank q < s.rank p
  few : ∀ p, ((List.range s.n).filter (s.free p)).length ≤ s.rank p
/-- what comes of a position: 0 nothing, 1 fits, 3 no fuel, 4 no tries -/
structure Rs (P : Type) where
  k : Nat
  o : List Nat
  W : List P
  t : Nat
section
variable {P : Type} [DecidableEq P]
/-- place by place -/
def lp (s : Sr P) (B : Nat) (g : P → List Nat → List P → Nat → Rs P) (p : P) (o : List Nat) : List Nat → List P → Nat → Rs P
  | [], W, t => ⟨0, [], W, t⟩
  | i :: is, W, t => if s.free p i = false then lp s B g p o is W t else if t = B then ⟨4, [], W, t⟩ else
    match s.tr p i with
    | none => ⟨3, [], W, t + 1⟩
    | some none => lp s B g p o is W (t + 1)
    | some (some q) => if q ∈ W then lp s B g p o is W (t + 1) else
      if (g q (o ++ [i]) W (t + 1)).k ≠ 0 then g q (o ++ [i]) W (t + 1) else lp s B g p o is (g q (o ++ [i]) W (t + 1)).W (g q (o ++ [i]) W (t + 1)).t
def gsF (s : Sr P) (B : Nat) : Nat → P → List Nat → List P → Nat → Rs P
  | 0, p, o, W, t => ⟨1, o, W ++ [p], t⟩
  | m + 1, p, o, W, t => if s.full p = true then ⟨1, o, W ++ [p], t⟩ else lp s B (gsF s B m) p o (List.range s.n) (W ++ [p]) t
/-- from a position -/
def gs (s : Sr P) (B : Nat) (p : P) (o : List Nat) (W : List P) (t : Nat) : Rs P := gsF s B (s.rank p) p o W t
set_option maxRecDepth 100000 in
theorem lp_congr {s : Sr P} {B : Nat} {g h : P → List Nat → List P → Nat → Rs P} {p : P} {o : List Nat} (e : ∀ i q, s.free p i = true → s.tr p i = .yes q → g q = h q) : ∀ (is : List Nat) (W : List P) (t : Nat), lp s B g p o is W t = lp s B h p o is W t
  | [], _, _ => rfl
  | i :: is, W, t => by
    unfold lp
    by_cases h1 : s.free p i = false
    · rw [if_pos h1, if_pos h1]; exact lp_congr e is W t
    rw [if_neg h1, if_neg h1]
    by_cases h2 : t = B
    · rw [if_pos h2, if_pos h2]
    rw [if_neg h2, if_neg h2]
    rcases h3 : s.tr p i with _ | _ | q
    · rfl
    · exact lp_congr e is W (t + 1)
    ·
      simp only
      rw [e i q (by simpa using h1) h3, lp_congr e is, lp_congr e is]
set_option maxRecDepth 100000 in
theorem gsF_any {s : Sr P} (ok : SrOk s) {B : Nat} : ∀ (m m' : Nat) (p : P), s.rank p ≤ m → s.rank p ≤ m' → gsF s B m p = gsF s B m' p
  | 0, 0, _, _, _ => rfl
  | 0, m' + 1, p, h, _ => by
    funext o W t
    unfold gsF
    rw [if_pos (ok.zero p (by omega))]
  | m + 1, 0, p, _, h => by
    funext o W t
    unfold gsF
    rw [if_pos (ok.zero p (by omega))]
  | m + 1, m' + 1, p, h, h' => by
    funext o W t
    unfold gsF
    rw [lp_congr fun i q h1 h2 => gsF_any ok m m' q (by have := ok.down p i q h1 h2; omega) (by have := ok.down p i q h1 h2; omega)]
set_option maxRecDepth 100000 in
theorem gs_eq {s : Sr P} (ok : SrOk s) {B : Nat} (p : P) (o : List Nat) (W : List P) (t : Nat) : gs s B p o W t = if s.full p = true then ⟨1, o, W ++ [p], t⟩ else lp s B (gs s B) p o (List.range s.n) (W ++ [p]) t := by
  unfold gs
  cases h : s.rank p with
  | zero => unfold gsF; rw [if_pos (ok.zero p h)]
  | succ m =>
    conv => lhs; unfold gsF
    rw [lp_congr fun i q h1 h2 => gsF_any ok m (s.rank q) q (by have := ok.down p i q h1 h2; omega) (Nat.le_refl _)]
end
section
variable {P : Type}
set_option maxRecDepth 100000 in
/-- an induction down the ranks -/
theorem gs_ind {s : Sr P} {M : P → Prop} (h : ∀ p, (∀ q, s.rank q < s.rank p → M q) → M p) (p : P) : M p := by
  have : ∀ m p, s.rank p ≤ m → M p := by
    intro m
    induction m with
    | zero => exact fun p hp => h p fun q hq => by omega
    | succ m ih => exact fun p hp => h p fun q hq => ih q (by omega)
  exact this _ p (Nat.le_refl _)
end
section
variable {P : Type} [DecidableEq P]
/-- one position behind another -/
def Suc (s : Sr P) (p q : P) : Prop := ∃ i, i < s.n ∧ s.free p i = true ∧ s.tr p i = .yes q
/-- the new ones end nothing, and all behind them is there -/
structure Cl (s : Sr P) (W W' : List P) : Prop where
  sub : ∀ x, x ∈ W → x ∈ W'
  cl : ∀ x, x ∈ W' → ¬ x ∈ W → s.full x = false ∧ ∀ q, Suc s x q → q ∈ W'
end
section
variable {P : Type}
set_option maxRecDepth 100000 in
theorem Cl.rfl {s : Sr P} {W : List P} : Cl s W W := ⟨fun _ h => h, fun _ h n => absurd h n⟩
end
section
variable {P : Type} [DecidableEq P]
set_option maxRecDepth 100000 in
theorem Cl.trans {s : Sr P} {W W' V : List P} (a : Cl s W W') (b : Cl s W' V) : Cl s W V := ⟨fun x h => b.sub x (a.sub x h), fun x h n => by
  by_cases hx : x ∈ W'
  · exact ⟨(a.cl x hx n).1, fun q hq => b.sub q ((a.cl x hx n).2 q hq)⟩
  · exact b.cl x h hx⟩
set_option maxRecDepth 100000 in
theorem lp_zero {s : Sr P} {B : Nat} {g : P → List Nat → List P → Nat → Rs P} {p : P} {o : List Nat} (hg : ∀ i q o W t, s.free p i = true → s.tr p i = .yes q → (g q o W t).k = 0 → Cl s W (g q o W t).W ∧ q ∈ (g q o W t).W) :
    ∀ (is : List Nat) (W : List P) (t : Nat), (lp s B g p o is W t).k = 0 → Cl s W (lp s B g p o is W t).W ∧ ∀ i, i ∈ is → ∀ q, s.free p i = true → s.tr p i = .yes q → q ∈ (lp s B g p o is W t).W
  | [], W, t, _ => ⟨Cl.rfl, fun i h => by cases h⟩
  | i :: is, W, t, hk => by
    unfold lp at hk ⊢
    by_cases h1 : s.free p i = false
    · rw [if_pos h1] at hk ⊢
      obtain ⟨a, b⟩ := lp_zero hg is W t hk
      refine ⟨a, fun j hj q hf hq => ?_⟩
      rcases List.mem_cons.1 hj with rfl | hj
      · rw [h1] at hf; cases hf
      · exact b j hj q hf hq
    rw [if_neg h1] at hk ⊢
    by_cases h2 : t = B
    · rw [if_pos h2] at hk; cases hk
    rw [if_neg h2] at hk ⊢
    rcases h3 : s.tr p i with _ | _ | x
    · rw [h3] at hk; cases hk
    ·
      rw [h3] at hk
      obtain ⟨a, b⟩ := lp_zero hg is W (t + 1) hk
      refine ⟨a, fun j hj q hf hq => ?_⟩
      rcases List.mem_cons.1 hj with rfl | hj
      · rw [h3] at hq; cases hq
      · exact b j hj q hf hq
    ·
      rw [h3] at hk
      simp only at hk ⊢
      by_cases h4 : x ∈ W
      · rw [if_pos h4] at hk ⊢
        obtain ⟨a, b⟩ := lp_zero hg is W (t + 1) hk
        refine ⟨a, fun j hj q hf hq => ?_⟩
        rcases List.mem_cons.1 hj with rfl | hj
        · rw [h3] at hq; cases hq; exact a.sub _ h4
        · exact b j hj q hf hq
      rw [if_neg h4] at hk ⊢
      by_cases h5 : (g x (o ++ [i]) W (t + 1)).k ≠ 0
      · rw [if_pos h5] at hk; exact absurd hk h5
      rw [if_neg h5] at hk ⊢
      obtain ⟨c, d⟩ := hg i x (o ++ [i]) W (t + 1) (by simpa using h1) h3 (by omega)
      obtain ⟨a, b⟩ := lp_zero hg is _ _ hk
      refine ⟨c.trans a, fun j hj q hf hq => ?_⟩
      rcases List.mem_cons.1 hj with rfl | hj
      · rw [h3] at hq; cases hq; exact a.sub _ d
      · exact b j hj q hf hq
set_option maxRecDepth 100000 in
theorem gs_zero {s : Sr P} (ok : SrOk s) {B : Nat} (p : P) : ∀ (o : List Nat) (W : List P) (t : Nat), (gs s B p o W t).k = 0 → Cl s W (gs s B p o W t).W ∧ p ∈ (gs s B p o W t).W := by
  refine gs_ind (s := s) (M := fun p => ∀ (o : List Nat) (W : List P) (t : Nat), (gs s B p o W t).k = 0 → Cl s W (gs s B p o W t).W ∧ p ∈ (gs s B p o W t).W) (fun p ih => ?_) p
  intro o W t hk
  rw [gs_eq ok] at hk ⊢
  by_cases h1 : s.full p = true
  · rw [if_pos h1] at hk; cases hk
  rw [if_neg h1] at hk ⊢
  obtain ⟨a, b⟩ := lp_zero (fun i q o W t hf hq hz => ih q (ok.down p i q hf hq) o W t hz) _ _ _ hk
  refine ⟨⟨fun x hx => a.sub x (List.mem_append_left _ hx), fun x hx hn => ?_⟩, a.sub p (List.mem_append_right _ (List.mem_singleton.2 rfl))⟩
  by_cases hp : x = p
  · subst hp
    exact ⟨by simpa using h1, fun q ⟨i, hi, hf, hq⟩ => b i (List.mem_range.2 hi) q hf hq⟩
  · exact a.cl x hx fun hm => by
      rcases List.mem_append.1 hm with h | h
      · exact hn h
      · exact hp (List.mem_singleton.1 h)
end
section
variable {P : Type}
def WayR (s : Sr P) (p0 : P) : List Nat → P → Prop
  | [], p => p = p0
  | i :: o, q => ∃ p, WayR s p0 o p ∧ i < s.n ∧ s.free p i = true ∧ s.tr p i = .yes q
/-- a way from the first position -/
def Way (s : Sr P) (p0 : P) (o : List Nat) (p : P) : Prop := WayR s p0 o.reverse p
set_option maxRecDepth 100000 in
theorem Way.nil {s : Sr P} {p0 : P} : Way s p0 [] p0 := rfl
set_option maxRecDepth 100000 in
theorem Way.snoc {s : Sr P} {p0 : P} {o : List Nat} {p q : P} {i : Nat} (h : Way s p0 o p) (hi : i < s.n) (hf : s.free p i = true) (hq : s.tr p i = .yes q) : Way s p0 (o ++ [i]) q := by
  unfold Way
  rw [List.reverse_append]
  exact ⟨p, h, hi, hf, hq⟩
set_option maxRecDepth 100000 in
theorem wayR_ind {s : Sr P} {p0 : P} {M : List Nat → P → Prop} (h0 : M [] p0) (h1 : ∀ o p q i, i < s.n → s.free p i = true → s.tr p i = .yes q → M o p → M (o ++ [i]) q) : ∀ (o : List Nat) (p : P), WayR s p0 o p → M o.reverse p
  | [], p, h => by
    have h : p = p0 := h
    rw [h]; exact h0
  | i :: o, q, h => by
    obtain ⟨p, a, b, c, d⟩ := h
    rw [List.reverse_cons]
    exact h1 _ p q i b c d (wayR_ind h0 h1 o p a)
set_option maxRecDepth 100000 in
theorem way_ind {s : Sr P} {p0 : P} {M : List Nat → P → Prop} (h0 : M [] p0) (h1 : ∀ o p q i, i < s.n → s.free p i = true → s.tr p i = .yes q → M o p → M (o ++ [i]) q) {o : List Nat} {p : P} (h : Way s p0 o p) : M o p := by
  have := wayR_ind h0 h1 o.reverse p h
  rw [List.reverse_reverse] at this
  exact this
end
section
variable {P : Type} [DecidableEq P]
set_option maxRecDepth 100000 in
/-- nothing comes of it: nothing ends the search -/
theorem gs_none {s : Sr P} (ok : SrOk s) {B : Nat} {p0 : P} {o : List Nat} {t : Nat} (h : (gs s B p0 o [] t).k = 0) {v : List Nat} {q : P} (hw : Way s p0 v q) : s.full q = false := by
  obtain ⟨a, b⟩ := gs_zero ok p0 o [] t h
  have : q ∈ (gs s B p0 o [] t).W := way_ind (M := fun _ q => q ∈ (gs s B p0 o [] t).W) b (fun _ _ _ _ hi hf hq ih => (a.cl _ ih (by simp)).2 _ ⟨_, hi, hf, hq⟩) hw
  exact (a.cl q this (by simp)).1
/-- what is told of it -/
def Told (s : Sr P) (p0 : P) (B : Nat) (t : Nat) (r : Rs P) : Prop :=
  t ≤ r.t ∧ (t ≤ B → r.t ≤ B) ∧ (r.k = 0 ∧ r.o = [] ∨ (r.k = 1 ∧ ∃ q, Way s p0 r.o q ∧ s.full q = true) ∨ (r.k = 3 ∧ r.o = [] ∧ ∃ v q i, Way s p0 v q ∧ i < s.n ∧ s.free q i = true ∧ s.tr q i = .fuel) ∨ (r.k = 4 ∧ r.o = [] ∧ r.t = B))
end
section
variable {P : Type}
set_option maxRecDepth 100000 in
theorem Told.later {s : Sr P} {p0 : P} {B t u : Nat} {r : Rs P} (h : Told s p0 B u r) (hu : t ≤ u) (hb : t ≤ B → u ≤ B) : Told s p0 B t r := ⟨Nat.le_trans hu h.1, fun k => h.2.1 (hb k), h.2.2⟩
end
section
variable {P : Type} [DecidableEq P]
set_option maxRecDepth 100000 in
theorem lp_told {s : Sr P} {B : Nat} {p0 : P} {g : P → List Nat → List P → Nat → Rs P} {p : P} {o : List Nat} (hw : Way s p0 o p) (hg : ∀ i q W t, i < s.n → s.free p i = true → s.tr p i = .yes q → Told s p0 B t (g q (o ++ [i]) W t)) :
    ∀ (is : List Nat) (_ : ∀ i, i ∈ is → i < s.n) (W : List P) (t : Nat), Told s p0 B t (lp s B g p o is W t)
  | [], _, W, t => ⟨Nat.le_refl _, fun h => h, .inl ⟨rfl, rfl⟩⟩
  | i :: is, hi, W, t => by
    have hi' : ∀ i, i ∈ is → i < s.n := fun j hj => hi j (List.mem_cons_of_mem _ hj)
    unfold lp
    by_cases h1 : s.free p i = false
    · rw [if_pos h1]; exact lp_told hw hg is hi' W t
    rw [if_neg h1]
    by_cases h2 : t = B
    · rw [if_pos h2]; exact ⟨Nat.le_refl _, fun h => h, .inr (.inr (.inr ⟨rfl, rfl, h2⟩))⟩
    rw [if_neg h2]
    have hf : s.free p i = true := by simpa using h1
    have hin := hi i (List.mem_cons_self)
    rcases h3 : s.tr p i with _ | _ | q
    · exact ⟨Nat.le_succ _, fun h => by show t + 1 ≤ B; omega, .inr (.inr (.inl ⟨rfl, rfl, o, p, i, hw, hin, hf, h3⟩))⟩
    · exact (lp_told hw hg is hi' W (t + 1)).later (Nat.le_succ _) (by omega)
    ·
      simp only
      by_cases h4 : q ∈ W
      · rw [if_pos h4]; exact (lp_told hw hg is hi' W (t + 1)).later (Nat.le_succ _) (by omega)
      rw [if_neg h4]
      have hq := hg i q W (t + 1) hin hf h3
      by_cases h5 : (g q (o ++ [i]) W (t + 1)).k ≠ 0
      · rw [if_pos h5]; exact hq.later (Nat.le_succ _) (by omega)
      rw [if_neg h5]
      exact (lp_told hw hg is hi' _ _).later (by have := hq.1; omega) (fun h => hq.2.1 (by omega))
set_option maxRecDepth 100000 in
theorem gs_told {s : Sr P} (ok : SrOk s) {B : Nat} {p0 : P} (p : P) : ∀ (o : List Nat) (W : List P) (t : Nat), Way s p0 o p → Told s p0 B t (gs s B p o W t) := by
  refine gs_ind (s := s) (M := fun p => ∀ (o : List Nat) (W : List P) (t : Nat), Way s p0 o p → Told s p0 B t (gs s B p o W t)) (fun p ih => ?_) p
  intro o W t hw
  rw [gs_eq ok]
  by_cases h1 : s.full p = true
  · rw [if_pos h1]; exact ⟨Nat.le_refl _, fun h => h, .inr (.inl ⟨rfl, p, hw, h1⟩)⟩
  rw [if_neg h1]
  exact lp_told hw (fun i q W t hi hf hq => ih q (ok.down p i q hf hq) _ W t (hw.snoc hi hf hq)) _ (fun i h => List.mem_range.1 h) _ _
/-- how many tries are enough -/
def enN : Nat → Nat
  | 0 => 0
  | m + 1 => (m + 1) * (1 + enN m)
set_option maxRecDepth 100000 in
theorem enN_mono {a b : Nat} (h : a ≤ b) : enN a ≤ enN b := by
  have one : ∀ m, enN m ≤ enN (m + 1) := fun m => by
    show enN m ≤ (m + 1) * (1 + enN m)
    have : 1 * (1 + enN m) ≤ (m + 1) * (1 + enN m) := Nat.mul_le_mul_right _ (by omega)
    omega
  induction h with
  | refl => exact Nat.le_refl _
  | step _ ih => exact Nat.le_trans ih (one _)
set_option maxRecDepth 100000 in
theorem lp_few {s : Sr P} {B : Nat} {g : P → List Nat → List P → Nat → Rs P} {p : P} {o : List Nat} {E : Nat} (hg : ∀ i q o W t, s.free p i = true → s.tr p i = .yes q → (g q o W t).t ≤ t + E ∧ ((g q o W t).k = 4 → (g q o W t).t < t + E)) :
    ∀ (is : List Nat) (W : List P) (t : Nat), (lp s B g p o is W t).t ≤ t + (is.filter (s.free p)).length * (1 + E) ∧ ((lp s B g p o is W t).k = 4 → (lp s B g p o is W t).t < t + (is.filter (s.free p)).length * (1 + E))
  | [], W, t => ⟨by unfold lp; simp, fun h => by unfold lp at h; cases h⟩
  | i :: is, W, t => by
    unfold lp
    by_cases h1 : s.free p i = false
    · rw [if_pos h1, List.filter_cons_of_neg (by rw [h1]; decide)]; exact lp_few hg is W t
    rw [if_neg h1, List.filter_cons_of_pos (by simpa using h1), List.length_cons, Nat.succ_mul]
    by_cases h2 : t = B
    · rw [if_pos h2]; exact ⟨by show t ≤ _; omega, fun _ => by show t < _; omega⟩
    rw [if_neg h2]
    rcases h3 : s.tr p i with _ | _ | q
    · exact ⟨by show t + 1 ≤ _; omega, fun h => by cases h⟩
    ·
      have := lp_few (B := B) (o := o) hg is W (t + 1)
      exact ⟨by simp only; omega, fun h => by have := this.2 h; simp only; omega⟩
    ·
      simp only
      by_cases h4 : q ∈ W
      · rw [if_pos h4]
        have := lp_few (B := B) (o := o) hg is W (t + 1)
        exact ⟨by omega, fun h => by have := this.2 h; omega⟩
      rw [if_neg h4]
      have hq := hg i q (o ++ [i]) W (t + 1) (by simpa using h1) h3
      by_cases h5 : (g q (o ++ [i]) W (t + 1)).k ≠ 0
      · rw [if_pos h5]
        exact ⟨by omega, fun h => by have := hq.2 h; omega⟩
      rw [if_neg h5]
      have := lp_few (B := B) (o := o) hg is (g q (o ++ [i]) W (t + 1)).W (g q (o ++ [i]) W (t + 1)).t
      exact ⟨by omega, fun h => by have := this.2 h; omega⟩
set_option maxRecDepth 100000 in
theorem gs_few {s : Sr P} (ok : SrOk s) {B : Nat} (p : P) : ∀ (o : List Nat) (W : List P) (t : Nat), (gs s B p o W t).t ≤ t + enN (s.rank p) ∧ ((gs s B p o W t).k = 4 → (gs s B p o W t).t < t + enN (s.rank p)) := by
  refine gs_ind (s := s) (M := fun p => ∀ (o : List Nat) (W : List P) (t : Nat), (gs s B p o W t).t ≤ t + enN (s.rank p) ∧ ((gs s B p o W t).k = 4 → (gs s B p o W t).t < t + enN (s.rank p))) (fun p ih => ?_) p
  intro o W t
  rw [gs_eq ok]
  by_cases h1 : s.full p = true
  · rw [if_pos h1]; exact ⟨Nat.le_add_right _ _, fun h => by cases h⟩
  rw [if_neg h1]
  cases hr : s.rank p with
  | zero => exact absurd (ok.zero p hr) h1
  | succ m =>
    have := lp_few (s := s) (B := B) (g := gs s B) (p := p) (o := o) (E := enN m) (fun i q o W t hf hq => by
      have hd := ok.down p i q hf hq
      have := ih q hd o W t
      have hm := enN_mono (show s.rank q ≤ m by omega)
      exact ⟨by omega, fun h => by have := this.2 h; omega⟩) (List.range s.n) (W ++ [p]) t
    have hf := ok.few p
    rw [hr] at hf
    have hm : ((List.range s.n).filter (s.free p)).length * (1 + enN m) ≤ (m + 1) * (1 + enN m) := Nat.mul_le_mul_right _ hf
    have he : enN (m + 1) = (m + 1) * (1 + enN m) := rfl
    rw [he]
    exact ⟨by omega, fun h => by have := this.2 h; omega⟩
set_option maxRecDepth 100000 in
/-- so many tries are enough -/
theorem gs_enough {s : Sr P} (ok : SrOk s) {B : Nat} {p0 : P} (hB : enN (s.rank p0) ≤ B) : (gs s B p0 [] [] 0).k ≠ 4 := fun h => by
  have h1 := (gs_few ok (B := B) p0 [] [] 0).2 h
  have h2 := gs_told ok (B := B) p0 [] [] 0 Way.nil
  rcases h2.2.2 with ⟨h3, _⟩ | ⟨h3, _⟩ | ⟨h3, _⟩ | ⟨_, _, h3⟩
  · omega
  · omega
  · omega
  · omega
end
end Go.Proofs.Ytbjeeefkbmdmfaa
namespace Go.Proofs.Ytbjeeefkbmdmfaa
open Go.RowKit
set_option linter.unusedVariables false
section
variable {P : Type} [DecidableEq P]

/-- a position where it is, the places in it, those still to be tried -/
structure Fm (P : Type) where
  p : P
  o : List Nat
  is : List Nat
/-- those that are not to be tried are passed by -/
def dw (s : Sr P) (p : P) (is : List Nat) : List Nat := is.dropWhile fun i => !s.free p i
def stl (s : Sr P) : List (Fm P) → List (Fm P)
  | [] => []
  | f :: K => if dw s f.p f.is = [] then stl s K else ⟨f.p, f.o, dw s f.p f.is⟩ :: K
/-- where it stands: over (0: no), the order, the rest -/
structure Ss (P : Type) where
  ov : Nat
  o : List Nat
  K : List (Fm P)
  W : List P
  t : Nat
def mkS (s : Sr P) (K : List (Fm P)) (W : List P) (t : Nat) : Ss P := if stl s K = [] then ⟨2, [], [], W, t⟩ else ⟨0, [], stl s K, W, t⟩
/-- the try of a place -/
def tr1 (s : Sr P) (p : P) (o : List Nat) (i : Nat) (is : List Nat) (K : List (Fm P)) (W : List P) (t : Nat) : Ss P :=
  match s.tr p i with
  | none => ⟨3, [], [], W, t + 1⟩
  | some none => mkS s (⟨p, o, is⟩ :: K) W (t + 1)
  | some (some q) => if q ∈ W then mkS s (⟨p, o, is⟩ :: K) W (t + 1) else
    if s.full q = true then ⟨1, o ++ [i], [], W ++ [q], t + 1⟩ else mkS s (⟨q, o ++ [i], List.range s.n⟩ :: ⟨p, o, is⟩ :: K) (W ++ [q]) (t + 1)
/-- one try -/
def st1 (s : Sr P) (x : Ss P) : Ss P :=
  if x.ov ≠ 0 then x else
  match x.K with
  | [] => x
  | ⟨_, _, []⟩ :: _ => x
  | ⟨p, o, i :: is⟩ :: K => tr1 s p o i is K x.W x.t
def beg (s : Sr P) (p0 : P) : Ss P := if s.full p0 = true then ⟨1, [], [], [p0], 0⟩ else mkS s [⟨p0, [], List.range s.n⟩] [p0] 0
/-- so many tries -/
def sqS (s : Sr P) (p0 : P) : Nat → Ss P
  | 0 => beg s p0
  | k + 1 => st1 s (sqS s p0 k)
/-- what comes of all that is open -/
def con (s : Sr P) (B : Nat) : List (Fm P) → List P → Nat → Rs P
  | [], W, t => ⟨0, [], W, t⟩
  | f :: K, W, t => if (lp s B (gs s B) f.p f.o f.is W t).k ≠ 0 then lp s B (gs s B) f.p f.o f.is W t else con s B K (lp s B (gs s B) f.p f.o f.is W t).W (lp s B (gs s B) f.p f.o f.is W t).t
def fin (s : Sr P) (B : Nat) (x : Ss P) : Rs P := if x.ov ≠ 0 then ⟨if x.ov = 2 then 0 else x.ov, x.o, x.W, x.t⟩ else con s B x.K x.W x.t
set_option maxRecDepth 100000 in
theorem lp_dw {s : Sr P} {B : Nat} {g : P → List Nat → List P → Nat → Rs P} {p : P} {o : List Nat} : ∀ (is : List Nat) (W : List P) (t : Nat), lp s B g p o (dw s p is) W t = lp s B g p o is W t
  | [], _, _ => rfl
  | i :: is, W, t => by
    unfold dw
    by_cases h : s.free p i = false
    · rw [List.dropWhile_cons_of_pos (by rw [h]; rfl)]
      conv => rhs; unfold lp
      rw [if_pos h]
      exact lp_dw is W t
    · rw [List.dropWhile_cons_of_neg (by simpa using h)]
end
section
variable {P : Type}
set_option maxRecDepth 100000 in
theorem dw_head {s : Sr P} {p : P} : ∀ {is : List Nat} {i : Nat} {r : List Nat}, dw s p is = i :: r → s.free p i = true
  | [], _, _, h => by cases h
  | j :: is, i, r, h => by
    unfold dw at h
    by_cases hj : s.free p j = false
    · rw [List.dropWhile_cons_of_pos (by rw [hj]; rfl)] at h
      exact dw_head (is := is) h
    · rw [List.dropWhile_cons_of_neg (by simpa using hj)] at h
      cases h
      simpa using hj
end
section
variable {P : Type} [DecidableEq P]
set_option maxRecDepth 100000 in
theorem con_stl {s : Sr P} {B : Nat} : ∀ (K : List (Fm P)) (W : List P) (t : Nat), con s B (stl s K) W t = con s B K W t
  | [], _, _ => rfl
  | f :: K, W, t => by
    unfold stl
    by_cases h : dw s f.p f.is = []
    · rw [if_pos h]
      conv => rhs; unfold con
      rw [← lp_dw, h]
      unfold lp
      rw [if_neg (by simp)]
      exact con_stl K W t
    · rw [if_neg h]
      unfold con
      simp only [lp_dw]
/-- what holds where it stands: a try is due -/
def Due (s : Sr P) (x : Ss P) : Prop := x.ov = 0 → ∃ p o i is K, x.K = ⟨p, o, i :: is⟩ :: K ∧ s.free p i = true
end
section
variable {P : Type}
set_option maxRecDepth 100000 in
theorem stl_due {s : Sr P} : ∀ (K : List (Fm P)), stl s K ≠ [] → ∃ p o i is L, stl s K = ⟨p, o, i :: is⟩ :: L ∧ s.free p i = true
  | [], h => absurd rfl h
  | f :: K, h => by
    unfold stl at h ⊢
    by_cases h1 : dw s f.p f.is = []
    · rw [if_pos h1] at h ⊢; exact stl_due K h
    · rw [if_neg h1]
      cases h2 : dw s f.p f.is with
      | nil => exact absurd h2 h1
      | cons i is => exact ⟨f.p, f.o, i, is, K, rfl, dw_head h2⟩
end
section
variable {P : Type} [DecidableEq P]
end
section
variable {P : Type}
set_option maxRecDepth 100000 in
theorem mk_due {s : Sr P} (K : List (Fm P)) (W : List P) (t : Nat) : Due s (mkS s K W t) := by
  unfold mkS
  by_cases h : stl s K = []
  · rw [if_pos h]; intro k; cases k
  · rw [if_neg h]; intro _; exact stl_due K h
end
section
variable {P : Type} [DecidableEq P]
end
section
variable {P : Type}
set_option maxRecDepth 100000 in
theorem mk_t {s : Sr P} (K : List (Fm P)) (W : List P) (t : Nat) : (mkS s K W t).t = t := by unfold mkS; split <;> rfl
end
section
variable {P : Type} [DecidableEq P]
set_option maxRecDepth 100000 in
theorem fin_mk {s : Sr P} {B : Nat} (K : List (Fm P)) (W : List P) (t : Nat) : fin s B (mkS s K W t) = con s B K W t := by
  unfold fin mkS
  by_cases h : stl s K = []
  · rw [if_pos h, if_pos (by simp), ← con_stl, h]; rfl
  · rw [if_neg h, if_neg (by simp)]; exact con_stl K W t
set_option maxRecDepth 100000 in
theorem tr1_due {s : Sr P} (p : P) (o : List Nat) (i : Nat) (is : List Nat) (K : List (Fm P)) (W : List P) (t : Nat) : Due s (tr1 s p o i is K W t) ∧ (tr1 s p o i is K W t).t = t + 1 := by
  unfold tr1
  split
  · exact ⟨fun k => (by cases k), rfl⟩
  · exact ⟨mk_due _ _ _, mk_t _ _ _⟩
  · split
    · exact ⟨mk_due _ _ _, mk_t _ _ _⟩
    · split
      · exact ⟨fun k => (by cases k), rfl⟩
      · exact ⟨mk_due _ _ _, mk_t _ _ _⟩
set_option maxRecDepth 100000 in
/-- one try takes nothing away -/
theorem fin_tr {s : Sr P} (ok : SrOk s) {B : Nat} {p : P} {o : List Nat} {i : Nat} {is : List Nat} {K : List (Fm P)} {W : List P} {t : Nat} (hf : s.free p i = true) (ht : t ≠ B) :
    fin s B (tr1 s p o i is K W t) = con s B (⟨p, o, i :: is⟩ :: K) W t := by
  unfold tr1
  have hn : ¬ s.free p i = false := by rw [hf]; decide
  rcases h3 : s.tr p i with _ | _ | q
  ·
    simp only
    unfold con lp
    simp only [if_neg hn, if_neg ht, h3]
    rw [if_pos (by decide)]; rfl
  ·
    simp only
    rw [fin_mk]
    conv => rhs; unfold con lp
    simp only [if_neg hn, if_neg ht, h3]
    conv => lhs; unfold con
  ·
    simp only
    by_cases h4 : q ∈ W
    · rw [if_pos h4, fin_mk]
      conv => rhs; unfold con lp
      simp only [if_neg hn, if_neg ht, h3, if_pos h4]
      conv => lhs; unfold con
    rw [if_neg h4]
    by_cases h5 : s.full q = true
    · rw [if_pos h5]
      conv => rhs; unfold con lp
      simp only [if_neg hn, if_neg ht, h3, if_neg h4, gs_eq ok q, if_pos h5]
      rw [if_pos (show (1 : Nat) ≠ 0 by decide), if_pos (by simp)]; rfl
    · rw [if_neg h5, fin_mk]
      conv => rhs; unfold con lp
      simp only [if_neg hn, if_neg ht, h3, if_neg h4, gs_eq ok q, if_neg h5]
      conv => lhs; unfold con
      simp only
      by_cases h6 : (lp s B (gs s B) q (o ++ [i]) (List.range s.n) (W ++ [q]) (t + 1)).k ≠ 0
      · simp only [if_pos h6]
      · simp only [if_neg h6]
        conv => lhs; unfold con
set_option maxRecDepth 100000 in
theorem con_out {s : Sr P} {B : Nat} {p : P} {o : List Nat} {i : Nat} {is : List Nat} {K : List (Fm P)} {W : List P} (hf : s.free p i = true) : con s B (⟨p, o, i :: is⟩ :: K) W B = ⟨4, [], W, B⟩ := by
  unfold con lp
  have hn : ¬ s.free p i = false := by rw [hf]; decide
  simp only [if_neg hn, if_pos]
  rfl
end
section
variable {P : Type}
set_option maxRecDepth 100000 in
theorem beg_due {s : Sr P} (p0 : P) : Due s (beg s p0) ∧ (beg s p0).t = 0 := by
  unfold beg
  split
  · exact ⟨fun k => (by cases k), rfl⟩
  · exact ⟨mk_due _ _ _, mk_t _ _ _⟩
end
section
variable {P : Type} [DecidableEq P]
set_option maxRecDepth 100000 in
theorem beg_fin {s : Sr P} (ok : SrOk s) {B : Nat} (p0 : P) : fin s B (beg s p0) = gs s B p0 [] [] 0 := by
  unfold beg
  rw [gs_eq ok]
  by_cases h : s.full p0 = true
  · rw [if_pos h, if_pos h]; rfl
  · rw [if_neg h, if_neg h, fin_mk]
    unfold con
    simp only [List.nil_append]
    by_cases h6 : (lp s B (gs s B) p0 [] (List.range s.n) [p0] 0).k ≠ 0
    · rw [if_pos h6]
    · rw [if_neg h6]
      unfold con
      have h7 : (lp s B (gs s B) p0 [] (List.range s.n) [p0] 0).k = 0 := by omega
      rcases (lp_told (s := s) (B := B) (p0 := p0) (g := gs s B) (p := p0) (o := []) Way.nil (fun i q W t hi hf hq => gs_told ok q _ W t (Way.nil.snoc hi hf hq)) (List.range s.n) (fun i h => List.mem_range.1 h) [p0] 0).2.2 with ⟨_, h8⟩ | ⟨h8, _⟩ | ⟨h8, _⟩ | ⟨h8, _⟩
      · generalize lp s B (gs s B) p0 [] (List.range s.n) [p0] 0 = r at h7 h8
        cases r; simp only at h7 h8; rw [h7, h8]
      all_goals omega
set_option maxRecDepth 100000 in
/-- behind so many tries -/
theorem sq_run {s : Sr P} (ok : SrOk s) {B : Nat} (p0 : P) : ∀ k, k ≤ B → (∀ j, j < k → (sqS s p0 j).ov = 0) → Due s (sqS s p0 k) ∧ (sqS s p0 k).t = k ∧ fin s B (sqS s p0 k) = gs s B p0 [] [] 0
  | 0, _, _ => ⟨(beg_due p0).1, (beg_due p0).2, beg_fin ok p0⟩
  | k + 1, hk, h => by
    obtain ⟨a, b, c⟩ := sq_run ok (B := B) p0 k (by omega) fun j hj => h j (by omega)
    have h0 := h k (Nat.lt_succ_self _)
    obtain ⟨p, o, i, is, K, h1, h2⟩ := a h0
    have e : sqS s p0 (k + 1) = tr1 s p o i is K (sqS s p0 k).W (sqS s p0 k).t := by
      show st1 s (sqS s p0 k) = _
      unfold st1
      rw [if_neg (by omega)]
      simp only [h1]
    rw [e]
    refine ⟨(tr1_due _ _ _ _ _ _ _).1, by rw [(tr1_due _ _ _ _ _ _ _).2, b], ?_⟩
    rw [fin_tr ok h2 (by omega), ← h1, ← c]
    unfold fin
    rw [if_neg (by omega)]
set_option maxRecDepth 100000 in
/-- over within the budget -/
theorem sq_over {s : Sr P} (ok : SrOk s) {B : Nat} {p0 : P} {k : Nat} (hk : k ≤ B) (h : ∀ j, j < k → (sqS s p0 j).ov = 0) (ho : (sqS s p0 k).ov ≠ 0) : gs s B p0 [] [] 0 = ⟨if (sqS s p0 k).ov = 2 then 0 else (sqS s p0 k).ov, (sqS s p0 k).o, (sqS s p0 k).W, k⟩ := by
  obtain ⟨_, b, c⟩ := sq_run ok p0 k hk h
  rw [← c]
  unfold fin
  rw [if_pos ho, b]
set_option maxRecDepth 100000 in
/-- not over within the budget -/
theorem sq_out {s : Sr P} (ok : SrOk s) {B : Nat} {p0 : P} (h : ∀ j, j ≤ B → (sqS s p0 j).ov = 0) : gs s B p0 [] [] 0 = ⟨4, [], (sqS s p0 B).W, B⟩ := by
  obtain ⟨a, b, c⟩ := sq_run ok p0 B (Nat.le_refl _) fun j hj => h j (by omega)
  obtain ⟨p, o, i, is, K, h1, h2⟩ := a (h B (Nat.le_refl _))
  rw [← c]
  unfold fin
  rw [if_neg (by rw [h B (Nat.le_refl _)]; decide), h1, b, con_out h2]
set_option maxRecDepth 100000 in
theorem sq_kinds {s : Sr P} (p0 : P) : ∀ k, (sqS s p0 k).ov ≤ 3
  | 0 => by
    show (beg s p0).ov ≤ 3
    unfold beg mkS
    repeat' split
    all_goals simp
  | k + 1 => by
    show (st1 s (sqS s p0 k)).ov ≤ 3
    have := sq_kinds (s := s) p0 k
    unfold st1
    split
    · exact this
    · split
      · exact this
      · exact this
      · unfold tr1 mkS
        repeat' split
        all_goals simp
set_option maxRecDepth 100000 in
/-- the first that is over -/
theorem sq_first {s : Sr P} {p0 : P} : ∀ (B : Nat), (∀ j, j ≤ B → (sqS s p0 j).ov = 0) ∨ ∃ k, k ≤ B ∧ (∀ j, j < k → (sqS s p0 j).ov = 0) ∧ (sqS s p0 k).ov ≠ 0
  | 0 => by
    by_cases h : (sqS s p0 0).ov = 0
    · exact .inl fun j hj => by have : j = 0 := by omega
                                rw [this]; exact h
    · exact .inr ⟨0, Nat.le_refl _, fun j hj => by omega, h⟩
  | B + 1 => by
    rcases sq_first B with h | ⟨k, h1, h2, h3⟩
    · by_cases h' : (sqS s p0 (B + 1)).ov = 0
      · exact .inl fun j hj => by
          by_cases e : j = B + 1
          · rw [e]; exact h'
          · exact h j (by omega)
      · exact .inr ⟨B + 1, Nat.le_refl _, fun j hj => h j (by omega), h'⟩
    · exact .inr ⟨k, by omega, h2, h3⟩
set_option maxRecDepth 100000 in
/-- as many tries as were done are enough, fewer are not -/
theorem gs_budget {s : Sr P} (ok : SrOk s) {B : Nat} {p0 : P} (h : (gs s B p0 [] [] 0).k ≠ 4) (C : Nat) :
    ((gs s B p0 [] [] 0).t ≤ C → gs s C p0 [] [] 0 = gs s B p0 [] [] 0) ∧ (C < (gs s B p0 [] [] 0).t → (gs s C p0 [] [] 0).k = 4 ∧ (gs s C p0 [] [] 0).o = [] ∧ (gs s C p0 [] [] 0).t = C) := by
  rcases sq_first (s := s) (p0 := p0) B with h1 | ⟨k, h1, h2, h3⟩
  · rw [sq_out ok h1] at h; exact absurd rfl h
  · rw [sq_over ok h1 h2 h3]
    refine ⟨fun hc => sq_over ok hc h2 h3, fun hc => ?_⟩
    rw [sq_out ok fun j hj => h2 j (Nat.lt_of_le_of_lt hj hc)]
    exact ⟨rfl, rfl, rfl⟩
end
end Go.Proofs.Ytbjeeefkbmdmfaa
namespace Go.Proofs.Ytbjeeefkbmdmfaa
open Go.RowKit
set_option linter.unusedVariables false

/-- which operations are in, the cells behind them -/
abbrev Po := List Bool × List Int
abbrev Po.I (p : Po) : List Bool := p.1
abbrev Po.S (p : Po) : List Int := p.2
def inP (p : Po) (i : Nat) : Bool := p.I.getD i false
def putP (n : Nat) (I : List Bool) (i : Nat) : List Bool := (List.range n).map fun j => j == i || I.getD j false
def opN (ops : List Opr) (i : Nat) : Opr := ops.getD i op0
def stN (l : List Ic) (f : Int) (ops : List Opr) (S : List Int) (i : Nat) : Int × List Int × Int × Int := stpV l S (opN ops i).o (opN ops i).a f
/-- whether it may not go on there -/
abbrev badN (l : List Ic) (f : Int) (ops : List Opr) (S : List Int) (i : Nat) : Prop := (stN l f ops S i).1 ≠ 1 ∨ ((opN ops i).d = true ∧ (opN ops i).r ≠ (stN l f ops S i).2.2.1)
def srO (l : List Ic) (f : Int) (ops : List Opr) : Sr Po where
  n := ops.length
  full p := (List.range ops.length).all fun i => !(opN ops i).d || inP p i
  free p i := decide (i < ops.length) && !inP p i && (List.range ops.length).all fun k => inP p k || !befO (opN ops k) (opN ops i)
  tr p i := if (stN l f ops p.S i).1 = 3 then .fuel else if badN l f ops p.S i then .no else .yes ⟨putP ops.length p.I i, (stN l f ops p.S i).2.1⟩
  rank p := ((List.range ops.length).filter fun i => !inP p i).length
def po0 (n : Nat) : Po := ⟨List.replicate n false, Z4⟩
set_option maxRecDepth 100000 in
theorem in_put {n : Nat} {I : List Bool} {i : Nat} {S : List Int} (j : Nat) : inP ⟨putP n I i, S⟩ j = (decide (j < n) && (j == i || I.getD j false)) := by
  unfold inP putP
  by_cases h : j < n
  · rw [List.getD_eq_getElem?_getD, List.getElem?_map, List.getElem?_range h, decide_eq_true h]; rfl
  · rw [List.getD_eq_getElem?_getD, List.getElem?_eq_none (by rw [List.length_map, List.length_range]; omega), decide_eq_false h]; rfl
set_option maxRecDepth 100000 in
theorem put_set {n : Nat} {I : List Bool} (h : I.length = n) (i : Nat) (hi : i < n) : putP n I i = I.set i true := by
  refine List.ext_getElem? fun j => ?_
  unfold putP
  by_cases hj : j < n
  · rw [List.getElem?_map, List.getElem?_range hj]
    by_cases e : i = j
    · subst e
      rw [List.getElem?_set_self (by omega)]; simp
    · rw [List.getElem?_set_ne e, List.getElem?_eq_getElem (by omega)]
      have : (j == i) = false := by simpa using fun k => e k.symm
      simp [this, List.getD_eq_getElem?_getD, List.getElem?_eq_getElem (show j < I.length by omega)]
  · rw [List.getElem?_eq_none (by rw [List.length_map, List.length_range]; omega), List.getElem?_eq_none (by rw [List.length_set]; omega)]
set_option maxRecDepth 100000 in
theorem filt_le {p q : Nat → Bool} : ∀ (l : List Nat) (_ : ∀ j, j ∈ l → q j = true → p j = true), (l.filter q).length ≤ (l.filter p).length
  | [], _ => Nat.le_refl _
  | x :: t, h => by
    have := filt_le t fun j hj => h j (List.mem_cons_of_mem _ hj)
    cases hq : q x with
    | true => rw [List.filter_cons_of_pos hq, List.filter_cons_of_pos (h x List.mem_cons_self hq)]; simp only [List.length_cons]; omega
    | false =>
      rw [List.filter_cons_of_neg (by rw [hq]; decide)]
      cases hp : p x with
      | true => rw [List.filter_cons_of_pos hp]; simp only [List.length_cons]; omega
      | false => rw [List.filter_cons_of_neg (by rw [hp]; decide)]; exact this
set_option maxRecDepth 100000 in
theorem filt_lt {p q : Nat → Bool} {i : Nat} (hp : p i = true) (hq : q i = false) : ∀ (l : List Nat) (_ : ∀ j, j ∈ l → q j = true → p j = true), i ∈ l → (l.filter q).length < (l.filter p).length
  | [], _, hi => by cases hi
  | x :: t, h, hi => by
    by_cases e : i = x
    · subst e
      rw [List.filter_cons_of_neg (by rw [hq]; decide), List.filter_cons_of_pos hp, List.length_cons]
      have := filt_le t fun j hj => h j (List.mem_cons_of_mem _ hj)
      omega
    · have := filt_lt hp hq t (fun j hj => h j (List.mem_cons_of_mem _ hj)) ((List.mem_cons.1 hi).resolve_left e)
      cases hx : q x with
      | true => rw [List.filter_cons_of_pos hx, List.filter_cons_of_pos (h x List.mem_cons_self hx)]; simp only [List.length_cons]; omega
      | false =>
        rw [List.filter_cons_of_neg (by rw [hx]; decide)]
        cases hp : p x with
        | true => rw [List.filter_cons_of_pos hp]; simp only [List.length_cons]; omega
        | false => rw [List.filter_cons_of_neg (by rw [hp]; decide)]; exact this
set_option maxRecDepth 100000 in
theorem free_iff {l : List Ic} {f : Int} {ops : List Opr} {p : Po} {i : Nat} : (srO l f ops).free p i = true ↔ i < ops.length ∧ inP p i = false ∧ ∀ k, k < ops.length → befO (opN ops k) (opN ops i) = true → inP p k = true := by
  unfold srO
  simp only [Bool.and_eq_true, decide_eq_true_eq, Bool.not_eq_true', List.all_eq_true, List.mem_range, Bool.or_eq_true]
  constructor
  · rintro ⟨⟨h1, h2⟩, h3⟩
    exact ⟨h1, h2, fun k hk hb => (h3 k hk).resolve_right (by rw [hb]; decide)⟩
  · rintro ⟨h1, h2, h3⟩
    refine ⟨⟨h1, h2⟩, fun k hk => ?_⟩
    cases hb : befO (opN ops k) (opN ops i) with
    | true => exact .inl (h3 k hk hb)
    | false => exact .inr rfl
set_option maxRecDepth 100000 in
theorem full_iff {l : List Ic} {f : Int} {ops : List Opr} {p : Po} : (srO l f ops).full p = true ↔ ∀ i, i < ops.length → (opN ops i).d = true → inP p i = true := by
  unfold srO
  simp only [List.all_eq_true, List.mem_range, Bool.or_eq_true, Bool.not_eq_true']
  constructor
  · intro h i hi hd
    exact (h i hi).resolve_left (by rw [hd]; decide)
  · intro h i hi
    cases hd : (opN ops i).d with
    | true => exact .inr (h i hi hd)
    | false => exact .inl rfl
set_option maxRecDepth 100000 in
theorem tr_yes {l : List Ic} {f : Int} {ops : List Opr} {p q : Po} {i : Nat} : (srO l f ops).tr p i = .yes q ↔ ¬ badN l f ops p.S i ∧ q = ⟨putP ops.length p.I i, (stN l f ops p.S i).2.1⟩ := by
  unfold srO
  simp only
  constructor
  · intro h
    split at h
    · cases h
    · split at h
      · cases h
      · next h1 => cases h; exact ⟨h1, rfl⟩
  · rintro ⟨h1, rfl⟩
    have h2 : ¬ (stN l f ops p.S i).1 = 3 := fun e => h1 (.inl (by rw [e]; decide))
    rw [if_neg h2, if_neg h1]
set_option maxRecDepth 100000 in
theorem srO_ok {l : List Ic} {f : Int} {ops : List Opr} : SrOk (srO l f ops) where
  zero p h := full_iff.2 fun i hi _ => by
    have h : (List.range ops.length).filter (fun i => !inP p i) = [] := List.length_eq_zero_iff.1 h
    have := List.filter_eq_nil_iff.1 h i (List.mem_range.2 hi)
    simpa using this
  down p i q hf hq := by
    obtain ⟨h1, h2, _⟩ := free_iff.1 hf
    obtain ⟨_, rfl⟩ := tr_yes.1 hq
    show (List.filter (fun i => !inP _ i) _).length < (List.filter (fun i => !inP _ i) _).length
    refine filt_lt (i := i) (by rw [h2]; rfl) ?_ _ (fun j hm hj => ?_) (List.mem_range.2 h1)
    · rw [in_put, decide_eq_true h1]; simp
    · rw [in_put, decide_eq_true (List.mem_range.1 hm)] at hj
      simp only [Bool.true_and, Bool.not_eq_true', Bool.or_eq_false_iff] at hj
      unfold inP; rw [hj.2]; rfl
  few p := filt_le _ fun j _ hj => by rw [(free_iff.1 hj).2.1]; rfl
/-- one by one: the cells behind it -/
def doS (l : List Ic) (f : Int) (ops : List Opr) : List Nat → List Int → List Int
  | [], S => S
  | i :: t, S => doS l f ops t (stN l f ops S i).2.1
/-- whether all may be done -/
def doB (l : List Ic) (f : Int) (ops : List Opr) : List Nat → List Int → Prop
  | [], _ => True
  | i :: t, S => ¬ badN l f ops S i ∧ doB l f ops t (stN l f ops S i).2.1
set_option maxRecDepth 100000 in
theorem doS_app {l : List Ic} {f : Int} {ops : List Opr} : ∀ (a b : List Nat) (S : List Int), doS l f ops (a ++ b) S = doS l f ops b (doS l f ops a S)
  | [], _, _ => rfl
  | i :: t, b, S => doS_app t b _
set_option maxRecDepth 100000 in
theorem doB_app {l : List Ic} {f : Int} {ops : List Opr} : ∀ (a b : List Nat) (S : List Int), doB l f ops (a ++ b) S ↔ doB l f ops a S ∧ doB l f ops b (doS l f ops a S)
  | [], b, S => ⟨fun h => ⟨trivial, h⟩, fun h => h.2⟩
  | i :: t, b, S => by
    show (_ ∧ doB l f ops (t ++ b) _) ↔ (_ ∧ doB l f ops t _) ∧ doB l f ops b (doS l f ops t _)
    rw [doB_app t b, and_assoc]
def nI (o : List Nat) : List Int := o.map Int.ofNat
set_option maxRecDepth 100000 in
theorem nI_len (o : List Nat) : (nI o).length = o.length := by unfold nI; rw [List.length_map]
set_option maxRecDepth 100000 in
theorem nI_get (o : List Nat) (i : Nat) : (nI o).getD i 0 = ((o.getD i 0 : Nat) : Int) := by
  unfold nI
  rw [List.getD_eq_getElem?_getD, List.getD_eq_getElem?_getD, List.getElem?_map]
  cases o[i]? <;> rfl
set_option maxRecDepth 100000 in
theorem nI_mem {o : List Nat} {i : Nat} : (i : Int) ∈ nI o ↔ i ∈ o := by
  unfold nI
  rw [List.mem_map]
  exact ⟨fun ⟨a, h, e⟩ => (Int.ofNat.inj e) ▸ h, fun h => ⟨i, h, rfl⟩⟩
set_option maxRecDepth 100000 in
theorem opAt_nat (ops : List Opr) (i : Nat) : opAt ops (i : Int) = opN ops i := rfl
set_option maxRecDepth 100000 in
theorem does_nat {l : List Ic} {f : Int} {ops : List Opr} : ∀ (o : List Nat) (S : List Int), doesF l f ops (nI o) S = 0 ↔ doB l f ops o S
  | [], S => ⟨fun _ => trivial, fun _ => rfl⟩
  | i :: t, S => by
    show doesF l f ops ((i : Int) :: nI t) S = 0 ↔ _
    unfold doesF doB badN
    rw [opAt_nat]
    show (if (stN l f ops S i).1 ≠ 1 then (18 : Int) else if (opN ops i).d = true ∧ (opN ops i).r ≠ (stN l f ops S i).2.2.1 then 19 else doesF l f ops (nI t) (stN l f ops S i).2.1) = 0 ↔ _
    by_cases h1 : (stN l f ops S i).1 ≠ 1
    · rw [if_pos h1]; exact ⟨fun h => (by cases h), fun h => absurd (Or.inl h1) h.1⟩
    rw [if_neg h1]
    by_cases h2 : (opN ops i).d = true ∧ (opN ops i).r ≠ (stN l f ops S i).2.2.1
    · rw [if_pos h2]; exact ⟨fun h => (by cases h), fun h => absurd (Or.inr h2) h.1⟩
    rw [if_neg h2, does_nat t]
    exact ⟨fun h => ⟨fun k => k.elim h1 h2, h⟩, fun h => h.2⟩
/-- what it is to be an order, of places -/
structure OrdN (l : List Ic) (f : Int) (ops : List Opr) (o : List Nat) : Prop where
  lt : ∀ i, i ∈ o → i < ops.length
  nod : o.Nodup
  all : ∀ i, i < ops.length → (opN ops i).d = true → i ∈ o
  time : o.Pairwise fun a b => befO (opN ops b) (opN ops a) = false
  does : doB l f ops o Z4
set_option maxRecDepth 100000 in
theorem getD_of {o : List Nat} {i : Nat} (h : i < o.length) : o.getD i 0 = o[i] := by
  rw [List.getD_eq_getElem?_getD, List.getElem?_eq_getElem h]; rfl
set_option maxRecDepth 100000 in
theorem ord_nat {l : List Ic} {f : Int} {ops : List Opr} {o : List Nat} : Ord l f ops (nI o) ↔ (thr l).2.2 = 0 ∧ (0 ≤ f ∧ f ≤ 10000) ∧ ops.length ≤ 64 ∧ OrdN l f ops o := by
  constructor
  · intro h
    refine ⟨h.code, h.fuel, h.few, ?_, ?_, ?_, ?_, (does_nat o Z4).1 h.does⟩
    · intro i hi
      obtain ⟨k, hk, e⟩ := List.getElem_of_mem hi
      have := ordA_iff.1 h.pl k (by rw [nI_len]; exact hk)
      rw [nI_get, getD_of hk, e] at this
      omega
    · rw [List.nodup_iff_pairwise_ne, List.pairwise_iff_getElem]
      intro i j hi hj hij e
      have := ordA_inj h.pl (i := i) (k := j) (by rw [nI_len]; exact hi) (by rw [nI_len]; exact hj) (by rw [nI_get, nI_get, getD_of hi, getD_of hj, e])
      omega
    · intro i hi hd
      exact nI_mem.1 (ordN_iff.1 h.all i hi hd)
    · rw [List.pairwise_iff_getElem]
      intro i j hi hj hij
      have := ordT_iff.1 h.time i j hij (by rw [nI_len]; exact hj)
      rw [nI_get, nI_get, getD_of hi, getD_of hj] at this
      exact this
  · rintro ⟨h1, h2, h3, h⟩
    refine ⟨h1, h2, h3, ordA_of ?_ ?_, ordN_iff.2 fun i hi hd => nI_mem.2 (h.all i hi hd), ordT_iff.2 ?_, (does_nat o Z4).2 h.does⟩
    · intro i hi
      rw [nI_len] at hi
      rw [nI_get, getD_of hi]
      have := h.lt _ (List.getElem_mem hi)
      omega
    · intro i k hi hk e
      rw [nI_len] at hi hk
      rw [nI_get, nI_get, getD_of hi, getD_of hk] at e
      exact (List.getElem_inj h.nod).1 (by omega)
    · intro i k hik hk
      rw [nI_len] at hk
      rw [nI_get, nI_get, getD_of (show i < o.length by omega), getD_of hk]
      exact List.pairwise_iff_getElem.1 h.time i k (by omega) hk hik
set_option maxRecDepth 100000 in
/-- whatever is an order is one of places -/
theorem ord_places {l : List Ic} {f : Int} {ops : List Opr} {o : List Int} (h : Ord l f ops o) : o = nI (o.map Int.toNat) := by
  refine List.ext_getElem? fun i => ?_
  unfold nI
  rw [List.map_map, List.getElem?_map]
  by_cases hi : i < o.length
  · have := ordA_iff.1 h.pl i hi
    rw [List.getD_eq_getElem?_getD] at this
    rw [List.getElem?_eq_getElem hi] at this ⊢
    simp only [Option.getD_some] at this
    simp only [Option.map_some, Function.comp]
    rw [show Int.ofNat (o[i].toNat) = o[i] from Int.toNat_of_nonneg this.1]
  · rw [List.getElem?_eq_none (by omega)]; rfl
/-- what a way is -/
structure WF (l : List Ic) (f : Int) (ops : List Opr) (o : List Nat) (p : Po) : Prop where
  lt : ∀ i, i ∈ o → i < ops.length
  nod : o.Nodup
  is : ∀ j, inP p j = true ↔ j ∈ o
  ahead : ∀ a, a ∈ o → ∀ k, k < ops.length → befO (opN ops k) (opN ops a) = true → k ∈ o
  time : o.Pairwise fun a b => befO (opN ops b) (opN ops a) = false
  does : doB l f ops o Z4
  cells : p.S = doS l f ops o Z4
set_option maxRecDepth 100000 in
theorem wf_nil {l : List Ic} {f : Int} {ops : List Opr} : WF l f ops [] (po0 ops.length) := ⟨fun _ h => (by cases h), List.nodup_nil, fun j => by
    unfold inP po0
    rw [List.getD_eq_getElem?_getD, List.getElem?_replicate]
    split <;> simp, fun _ h => (by cases h), List.Pairwise.nil, trivial, rfl⟩
set_option maxRecDepth 100000 in
theorem wf_snoc {l : List Ic} {f : Int} {ops : List Opr} {o : List Nat} {p q : Po} {i : Nat} (h : WF l f ops o p) (hf : (srO l f ops).free p i = true) (hq : (srO l f ops).tr p i = .yes q) : WF l f ops (o ++ [i]) q := by
  obtain ⟨f1, f2, f3⟩ := free_iff.1 hf
  obtain ⟨q1, rfl⟩ := tr_yes.1 hq
  have hi : ¬ i ∈ o := fun k => by rw [(h.is i).2 k] at f2; cases f2
  refine ⟨?_, ?_, ?_, ?_, ?_, ?_, ?_⟩
  · intro j hj
    rcases List.mem_append.1 hj with hj | hj
    · exact h.lt j hj
    · rw [List.mem_singleton.1 hj]; exact f1
  · exact List.nodup_append.2 ⟨h.nod, by simp, fun a ha b hb e => hi (by rw [← List.mem_singleton.1 hb, ← e]; exact ha)⟩
  · intro j
    rw [in_put, List.mem_append, List.mem_singleton, ← h.is j]
    simp only [Bool.and_eq_true, decide_eq_true_eq, Bool.or_eq_true, beq_iff_eq]
    constructor
    · rintro ⟨_, e | e⟩
      · exact .inr e
      · exact .inl e
    · rintro (e | e)
      · exact ⟨h.lt j ((h.is j).1 e), .inr e⟩
      · exact ⟨by omega, .inl e⟩
  · intro a ha k hk hb
    rcases List.mem_append.1 ha with ha | ha
    · exact List.mem_append_left _ (h.ahead a ha k hk hb)
    · rw [List.mem_singleton.1 ha] at hb
      exact List.mem_append_left _ ((h.is k).1 (f3 k hk hb))
  · refine List.pairwise_append.2 ⟨h.time, List.pairwise_singleton _ _, fun a ha b hb => ?_⟩
    rw [List.mem_singleton.1 hb]
    cases hx : befO (opN ops i) (opN ops a) with
    | false => rfl
    | true => exact absurd (h.ahead a ha i f1 hx) hi
  · refine (doB_app _ _ _).2 ⟨h.does, ?_, trivial⟩
    rw [← h.cells]; exact q1
  · rw [doS_app, ← h.cells]; rfl
set_option maxRecDepth 100000 in
theorem way_wf {l : List Ic} {f : Int} {ops : List Opr} {o : List Nat} {p : Po} (h : Way (srO l f ops) (po0 ops.length) o p) : WF l f ops o p := by
  exact way_ind (M := fun o p => WF l f ops o p) wf_nil (fun _ _ _ _ _ hf hq ih => wf_snoc ih hf hq) h
set_option maxRecDepth 100000 in
/-- an order that is told is one -/
theorem way_ord {l : List Ic} {f : Int} {ops : List Opr} {o : List Nat} {p : Po} (h : Way (srO l f ops) (po0 ops.length) o p) (hf : (srO l f ops).full p = true) : OrdN l f ops o := by
  have w := way_wf h
  exact ⟨w.lt, w.nod, fun i hi hd => (w.is i).1 (full_iff.1 hf i hi hd), w.time, w.does⟩
set_option maxRecDepth 100000 in
/-- an order is a way -/
theorem ord_way {l : List Ic} {f : Int} {ops : List Opr} (hirr : ∀ i, i < ops.length → befO (opN ops i) (opN ops i) = false) {o : List Nat} (h : OrdN l f ops o) : ∀ k, k ≤ o.length → ∃ p, Way (srO l f ops) (po0 ops.length) (o.take k) p
  | 0, _ => ⟨_, Way.nil⟩
  | k + 1, hk => by
    obtain ⟨p, hp⟩ := ord_way hirr h k (by omega)
    have w := way_wf hp
    have hk' : k < o.length := by omega
    have e : o.take (k + 1) = o.take k ++ [o[k]] := List.take_succ_eq_append_getElem hk'
    have hn : ¬ o[k] ∈ o.take k := fun hm => by
      obtain ⟨j, hj, e⟩ := List.mem_take_iff_getElem.1 hm
      have := (List.getElem_inj h.nod).1 e
      omega
    have hl : o[k] < ops.length := h.lt _ (List.getElem_mem hk')
    have hf : (srO l f ops).free p o[k] = true := by
      refine free_iff.2 ⟨hl, ?_, fun m hm hb => ?_⟩
      · cases hx : inP p o[k] with
        | false => rfl
        | true => exact absurd ((w.is _).1 hx) hn
      · have hd : (opN ops m).d = true := by
          unfold befO at hb
          simp only [Bool.and_eq_true] at hb
          exact hb.1
        obtain ⟨j, hj, ej⟩ := List.getElem_of_mem (h.all m hm hd)
        refine (w.is m).2 (List.mem_take_iff_getElem.2 ⟨j, ?_, ej⟩)
        rcases Nat.lt_trichotomy j k with h1 | h1 | h1
        · omega
        · subst h1
          rw [ej, hirr m hm] at hb; cases hb
        · have := List.pairwise_iff_getElem.1 h.time k j hk' hj h1
          rw [ej, hb] at this; cases this
    have hb : ¬ badN l f ops p.S o[k] := by
      have h1 := h.does
      rw [← List.take_append_drop (k + 1) o, e, List.append_assoc] at h1
      have h2 := ((doB_app _ _ _).1 h1).2
      rw [← w.cells] at h2
      exact h2.1
    rw [e]
    exact ⟨_, hp.snoc hl hf (tr_yes.2 ⟨hb, rfl⟩)⟩
set_option maxRecDepth 100000 in
/-- FITS JUST IF THERE IS AN ORDER -/
theorem lin_iff {l : List Ic} {f : Int} {ops : List Opr} (hirr : ∀ i, i < ops.length → befO (opN ops i) (opN ops i) = false) {B : Nat} :
    ((gs (srO l f ops) B (po0 ops.length) [] [] 0).k = 1 → OrdN l f ops (gs (srO l f ops) B (po0 ops.length) [] [] 0).o) ∧
    ((gs (srO l f ops) B (po0 ops.length) [] [] 0).k = 0 → ∀ o, ¬ OrdN l f ops o) := by
  constructor
  · intro h
    rcases (gs_told (srO_ok (l := l) (f := f) (ops := ops)) (B := B) (p0 := po0 ops.length) (po0 ops.length) [] [] 0 Way.nil).2.2 with ⟨h1, _⟩ | ⟨_, q, h1, h2⟩ | ⟨h1, _⟩ | ⟨h1, _⟩
    · omega
    · exact way_ord h1 h2
    · omega
    · omega
  · intro h o ho
    obtain ⟨p, hp⟩ := ord_way hirr ho o.length (Nat.le_refl _)
    rw [List.take_length] at hp
    have h1 := gs_none srO_ok h hp
    have h2 : (srO l f ops).full p = true := full_iff.2 fun i hi hd => ((way_wf hp).is i).2 (ho.all i hi hd)
    rw [h1] at h2; cases h2
end Go.Proofs.Ytbjeeefkbmdmfaa
namespace Go.Proofs.Ytbjeeefkbmdmfaa
open Go.RowKit
set_option linter.unusedVariables false

/-- the operations of a beginning: those that are done are the same, what is not of it comes behind it -/
structure BgM (N : Nat) (O F : List Opr) : Prop where
  le : F.length ≤ O.length
  same : ∀ i, i < F.length → (opN F i).o = (opN O i).o ∧ (opN F i).a = (opN O i).a ∧ (opN F i).f = (opN O i).f
  don : ∀ i, i < F.length → (opN F i).d = true → opN F i = opN O i ∧ (opN F i).t < (N : Int)
  beh : ∀ i, F.length ≤ i → i < O.length → (N : Int) ≤ (opN O i).f
set_option maxRecDepth 100000 in
theorem cutO_same (N : Nat) (o : Opr) : (cutO N o).o = o.o ∧ (cutO N o).a = o.a ∧ (cutO N o).f = o.f := by unfold cutO; split <;> exact ⟨rfl, rfl, rfl⟩
set_option maxRecDepth 100000 in
theorem cutO_don {N : Nat} {o : Opr} (h : (cutO N o).d = true) : cutO N o = o ∧ o.t < (N : Int) := by
  unfold cutO at h ⊢
  split at h
  · cases h
  · next k => rw [if_neg k]; exact ⟨rfl, by omega⟩
set_option maxRecDepth 100000 in
theorem bg_of {L : List Ev} (h : His L) (N : Nat) (hN : N ≤ L.length) : BgM N (opsL L) (opsL (L.take N)) := by
  have h1 := ops_on h N hN
  have hc := cut_fin (ops_inv h N hN) (L.drop N)
  have hr := refO_from (L.drop N) N
  generalize opsL (L.take N) = F at *
  generalize refO (L.drop N) N = R at *
  rw [h1]
  have e1 : ∀ i, i < F.length → opN (F.map (finO (L.drop N) N) ++ R) i = finO (L.drop N) N (opN F i) ∧ opN F i ∈ F := fun i hi => by
    unfold opN
    rw [List.getD_eq_getElem?_getD, List.getElem?_append_left (by rw [List.length_map]; exact hi), List.getElem?_map, List.getElem?_eq_getElem hi, List.getD_eq_getElem?_getD, List.getElem?_eq_getElem hi]
    exact ⟨rfl, List.getElem_mem hi⟩
  have e2 : ∀ i, i < F.length → cutO N (opN (F.map (finO (L.drop N) N) ++ R) i) = opN F i := fun i hi => by
    rw [(e1 i hi).1]; exact hc _ (e1 i hi).2
  refine ⟨by rw [List.length_append, List.length_map]; omega, fun i hi => ?_, fun i hi hd => ?_, fun i hi hlt => ?_⟩
  · have := cutO_same N (opN (F.map (finO (L.drop N) N) ++ R) i)
    rw [e2 i hi] at this
    exact this
  · have := @cutO_don N (opN (F.map (finO (L.drop N) N) ++ R) i)
    rw [e2 i hi] at this
    obtain ⟨a, b⟩ := this hd
    exact ⟨a, by rw [a]; exact b⟩
  · rw [List.length_append, List.length_map] at hlt
    apply hr
    unfold opN
    rw [List.getD_eq_getElem?_getD, List.getElem?_append_right (by rw [List.length_map]; exact hi), List.length_map, List.getElem?_eq_getElem (by omega)]
    exact List.getElem_mem _
set_option maxRecDepth 100000 in
/-- the shortest beginning with them all -/
theorem short_take {Q : Nat → Prop} (o : List Nat) : ∀ k, k ≤ o.length → (∀ i, Q i → i ∈ o.take k) → ∃ m, m ≤ o.length ∧ (∀ i, Q i → i ∈ o.take m) ∧ (m = 0 ∨ ∃ (h : m - 1 < o.length), 1 ≤ m ∧ Q (o[m - 1]))
  | 0, hk, h => ⟨0, hk, h, .inl rfl⟩
  | k + 1, hk, h => by
    by_cases hx : ∀ i, Q i → i ∈ o.take k
    · exact short_take o k (by omega) hx
    · obtain ⟨i, hi⟩ := Classical.not_forall.1 hx
      obtain ⟨hq, hn⟩ := Classical.not_imp.1 hi
      refine ⟨k + 1, hk, h, .inr ⟨by omega, by omega, ?_⟩⟩
      have := h i hq
      rw [List.take_succ_eq_append_getElem (show k < o.length by omega)] at this
      rcases List.mem_append.1 this with h1 | h1
      · exact absurd h1 hn
      · have := List.mem_singleton.1 h1
        rw [this] at hq
        exact hq
set_option maxRecDepth 100000 in
theorem doB_same {l : List Ic} {f : Int} {N : Nat} {O F : List Opr} (b : BgM N O F) : ∀ (o : List Nat) (_ : ∀ i, i ∈ o → i < F.length) (S : List Int), doB l f O o S → doB l f F o S
  | [], _, _, _ => trivial
  | i :: t, hi, S, h => by
    have h0 := hi i List.mem_cons_self
    have e : stN l f F S i = stN l f O S i := by
      unfold stN
      rw [(b.same i h0).1, (b.same i h0).2.1]
    refine ⟨fun k => h.1 ?_, ?_⟩
    · unfold badN at k ⊢
      rw [e] at k
      rcases k with k | k
      · exact .inl k
      · rw [(b.don i h0 k.1).1] at k; exact .inr k
    · rw [e]
      exact doB_same b t (fun j hj => hi j (List.mem_cons_of_mem _ hj)) _ h.2
set_option maxRecDepth 100000 in
/-- an order of all has an order of a beginning -/
theorem lin_begins {l : List Ic} {f : Int} {N : Nat} {O F : List Opr} (b : BgM N O F) {o : List Nat} (h : OrdN l f O o) : ∃ v, OrdN l f F v := by
  obtain ⟨m, hm, h1, h2⟩ := short_take (Q := fun i => i < F.length ∧ (opN F i).d = true) o o.length (Nat.le_refl _) (fun i hi => by
    rw [List.take_length]
    exact h.all i (by have := b.le; omega) (by rw [← (b.don i hi.1 hi.2).1]; exact hi.2))
  have hlt : ∀ i, i ∈ o.take m → i < F.length := by
    intro i hi
    rcases h2 with h2 | ⟨h2, h3, h4, h5⟩
    · rw [h2] at hi; cases hi
    · obtain ⟨j, hj, e⟩ := List.mem_take_iff_getElem.1 hi
      by_cases hjm : j = m - 1
      · subst hjm; rw [← e]; exact h4
      · have hp := List.pairwise_iff_getElem.1 h.time j (m - 1) (by omega) h2 (by omega)
        refine Classical.byContradiction fun hn => ?_
        obtain ⟨d1, d2⟩ := b.don _ h4 h5
        have d3 := b.beh i (by omega) (h.lt i (List.mem_of_mem_take hi))
        rw [e] at hp
        unfold befO at hp
        rw [← d1, h5, decide_eq_true (by omega)] at hp
        cases hp
  refine ⟨o.take m, hlt, ?_, fun i hi hd => h1 i ⟨hi, hd⟩, ?_, doB_same b _ hlt _ ?_⟩
  · exact h.nod.sublist (List.take_sublist _ _)
  · refine (h.time.sublist (List.take_sublist m o)).imp_of_mem fun {x y} hx hy hb => ?_
    cases hd : (opN F y).d with
    | false => unfold befO; rw [hd]; rfl
    | true =>
      unfold befO at hb ⊢
      rw [(b.same x (hlt x hx)).2.2, (b.don y (hlt y hy) hd).1]
      exact hb
  · have := h.does
    rw [← List.take_append_drop m o] at this
    exact ((doB_app _ _ _).1 this).1
set_option maxRecDepth 100000 in
/-- none is done: it is over at once -/
theorem gs_open {l : List Ic} {f : Int} {ops : List Opr} {B : Nat} (h : ∀ i, i < ops.length → (opN ops i).d = false) : gs (srO l f ops) B (po0 ops.length) [] [] 0 = ⟨1, [], [po0 ops.length], 0⟩ := by
  rw [gs_eq srO_ok, if_pos (full_iff.2 fun i hi hd => by rw [h i hi] at hd; cases hd)]
  rfl
set_option maxRecDepth 100000 in
theorem rank0 {l : List Ic} {f : Int} {ops : List Opr} : (srO l f ops).rank (po0 ops.length) ≤ ops.length := by
  show (List.filter _ _).length ≤ _
  have := List.length_filter_le (fun i => !inP (po0 ops.length) i) (List.range ops.length)
  rw [List.length_range] at this
  exact this
set_option maxRecDepth 100000 in
/-- with so many tries: fits, fits not, or no fuel; and fits just if there is an order -/
theorem lin_all {l : List Ic} {f : Int} {ops : List Opr} (hirr : ∀ i, i < ops.length → befO (opN ops i) (opN ops i) = false) {B : Nat} (hB : enN ops.length ≤ B) :
    ((gs (srO l f ops) B (po0 ops.length) [] [] 0).k = 1 ∧ OrdN l f ops (gs (srO l f ops) B (po0 ops.length) [] [] 0).o) ∨
    ((gs (srO l f ops) B (po0 ops.length) [] [] 0).k = 0 ∧ (gs (srO l f ops) B (po0 ops.length) [] [] 0).o = [] ∧ ∀ o, ¬ OrdN l f ops o) ∨
    ((gs (srO l f ops) B (po0 ops.length) [] [] 0).k = 3 ∧ (gs (srO l f ops) B (po0 ops.length) [] [] 0).o = []) := by
  have h4 := gs_enough (srO_ok (l := l) (f := f) (ops := ops)) (p0 := po0 ops.length) (Nat.le_trans (enN_mono (rank0 (l := l) (f := f))) hB)
  have hi := lin_iff (l := l) (f := f) hirr (B := B)
  rcases (gs_told (srO_ok (l := l) (f := f) (ops := ops)) (B := B) (p0 := po0 ops.length) (po0 ops.length) [] [] 0 Way.nil).2.2 with ⟨h1, h2⟩ | ⟨h1, _⟩ | ⟨h1, h2, _⟩ | ⟨h1, _⟩
  · exact .inr (.inl ⟨h1, h2, hi.2 h1⟩)
  · exact .inl ⟨h1, hi.1 h1⟩
  · exact .inr (.inr ⟨h1, h2⟩)
  · exact absurd h1 h4
end Go.Proofs.Ytbjeeefkbmdmfaa
namespace Go.Proofs.Ytbjeeefkbmdmfaa
open Go.RowKit
set_option linter.unusedVariables false

/-- what a search tells: the kind -/
def vdK {P : Type} (r : Rs P) : Nat := if r.k = 0 then 2 else r.k
/-- what a search comes to -/
def vdR (l : List Ic) (fu bu : Int) (ops : List Opr) : Rs Po := gs (srO l fu ops) bu.toNat (po0 ops.length) [] [] 0
section
variable {P : Type} [DecidableEq P] {s : Sr P} {p0 : P} {B : Nat}
/-- it is over behind so many tries -/
def stopS (s : Sr P) (p0 : P) (B j : Nat) : Bool := decide ((sqS s p0 j).ov ≠ 0) || decide (j = B)
/-- where it stands when n tries more are allowed -/
def goF (s : Sr P) (p0 : P) (B : Nat) : Nat → Nat → Nat
  | 0, k => k
  | n + 1, k => if stopS s p0 B k = true then k else goF s p0 B n (k + 1)
/-- it may stand there -/
def Tk (s : Sr P) (p0 : P) (B k : Nat) : Prop := k ≤ B ∧ ∀ j, j < k → stopS s p0 B j = false
set_option maxRecDepth 100000 in
theorem tk_zero : Tk s p0 B 0 := ⟨Nat.zero_le _, fun j h => absurd h (Nat.not_lt_zero _)⟩
set_option maxRecDepth 100000 in
theorem stop_end : stopS s p0 B B = true := by unfold stopS; simp
set_option maxRecDepth 100000 in
theorem tk_next {k : Nat} (h : Tk s p0 B k) (hs : stopS s p0 B k = false) : Tk s p0 B (k + 1) := by
  refine ⟨?_, fun j hj => ?_⟩
  · rcases Nat.lt_or_ge k B with h1 | h1
    · omega
    · have : k = B := Nat.le_antisymm h.1 h1
      rw [this, stop_end] at hs; cases hs
  · by_cases e : j = k
    · rw [e]; exact hs
    · exact h.2 j (by omega)
set_option maxRecDepth 100000 in
theorem go_stop {n k : Nat} (h : stopS s p0 B k = true) : goF s p0 B n k = k := by
  cases n with
  | zero => rfl
  | succ n => unfold goF; rw [if_pos h]
set_option maxRecDepth 100000 in
theorem go_one {n k : Nat} (h : stopS s p0 B k = false) : goF s p0 B (n + 1) k = goF s p0 B n (k + 1) := by
  conv => lhs; unfold goF
  rw [if_neg (by rw [h]; decide)]
set_option maxRecDepth 100000 in
theorem go_tk : ∀ (n : Nat) {k : Nat}, Tk s p0 B k → Tk s p0 B (goF s p0 B n k)
  | 0, _, h => h
  | n + 1, k, h => by
    cases hs : stopS s p0 B k with
    | true => rw [go_stop hs]; exact h
    | false => rw [go_one hs]; exact go_tk n (tk_next h hs)
set_option maxRecDepth 100000 in
theorem go_bd : ∀ (n k : Nat), k ≤ goF s p0 B n k ∧ goF s p0 B n k ≤ k + n ∧ (stopS s p0 B (goF s p0 B n k) = true ∨ goF s p0 B n k = k + n)
  | 0, k => ⟨Nat.le_refl _, Nat.le_refl _, .inr rfl⟩
  | n + 1, k => by
    cases hs : stopS s p0 B k with
    | true => rw [go_stop hs]; exact ⟨Nat.le_refl _, Nat.le_add_right _ _, .inl hs⟩
    | false =>
      rw [go_one hs]
      obtain ⟨h1, h2, h3⟩ := go_bd n (k + 1)
      exact ⟨by omega, by omega, by rcases h3 with h | h; exact .inl h; exact .inr (by omega)⟩
set_option maxRecDepth 100000 in
/-- not over: just so many tries were done -/
theorem go_open {n k : Nat} (h : stopS s p0 B (goF s p0 B n k) = false) : goF s p0 B n k = k + n := by
  rcases (go_bd (s := s) (p0 := p0) (B := B) n k).2.2 with h1 | h1
  · rw [h1] at h; cases h
  · exact h1
set_option maxRecDepth 100000 in
theorem tk_one {k j : Nat} (h : Tk s p0 B k) (hs : stopS s p0 B k = true) (h2 : Tk s p0 B j) (hs2 : stopS s p0 B j = true) : k = j := by
  rcases Nat.lt_trichotomy k j with e | e | e
  · rw [h2.2 k e] at hs; cases hs
  · exact e
  · rw [h.2 j e] at hs2; cases hs2
set_option maxRecDepth 100000 in
/-- enough at once -/
theorem go_all {n k : Nat} (h : Tk s p0 B k) (hn : B ≤ k + n) : stopS s p0 B (goF s p0 B n k) = true := by
  have h1 := go_tk n h
  rcases (go_bd (s := s) (p0 := p0) (B := B) n k).2.2 with h2 | h2
  · exact h2
  · have : goF s p0 B n k = B := Nat.le_antisymm h1.1 (by omega)
    rw [this]; exact stop_end
set_option maxRecDepth 100000 in
/-- what is told where it is over -/
theorem tk_told (ok : SrOk s) {k : Nat} (h : Tk s p0 B k) (hs : stopS s p0 B k = true) :
    (gs s B p0 [] [] 0).t = k ∧ (((sqS s p0 k).ov ≠ 0 ∧ vdK (gs s B p0 [] [] 0) = (sqS s p0 k).ov ∧ (gs s B p0 [] [] 0).o = (sqS s p0 k).o) ∨ ((sqS s p0 k).ov = 0 ∧ k = B ∧ vdK (gs s B p0 [] [] 0) = 4 ∧ (gs s B p0 [] [] 0).o = [])) := by
  have h0 : ∀ j, j < k → (sqS s p0 j).ov = 0 := fun j hj => by
    have := h.2 j hj
    unfold stopS at this
    simp at this
    exact this.1
  by_cases ho : (sqS s p0 k).ov = 0
  · have hk : k = B := by unfold stopS at hs; rw [ho] at hs; simpa using hs
    have he := sq_out ok (B := B) (p0 := p0) (fun j hj => by
      by_cases e : j = k
      · rw [e]; exact ho
      · exact h0 j (by omega))
    rw [he]
    exact ⟨hk.symm, .inr ⟨ho, hk, rfl, rfl⟩⟩
  · have he := sq_over ok (B := B) h.1 h0 ho
    rw [he]
    refine ⟨rfl, .inl ⟨ho, ?_, rfl⟩⟩
    unfold vdK
    by_cases h2 : (sqS s p0 k).ov = 2
    · simp [h2]
    · simp [h2, ho]
end
set_option maxRecDepth 100000 in
/-- kinds -/
theorem vd_kinds {l : List Ic} {fu bu : Int} {ops : List Opr} : (vdR l fu bu ops).t ≤ bu.toNat ∧ ((vdR l fu bu ops).k = 0 ∨ (vdR l fu bu ops).k = 1 ∨ (vdR l fu bu ops).k = 3 ∨ (vdR l fu bu ops).k = 4) ∧ ((vdR l fu bu ops).k ≠ 1 → (vdR l fu bu ops).o = []) := by
  have h := gs_told (srO_ok (l := l) (f := fu) (ops := ops)) (B := bu.toNat) (p0 := po0 ops.length) (po0 ops.length) [] [] 0 Way.nil
  refine ⟨h.2.1 (Nat.zero_le _), ?_, ?_⟩
  · rcases h.2.2 with ⟨h1, _⟩ | ⟨h1, _⟩ | ⟨h1, _⟩ | ⟨h1, _⟩
    · exact .inl h1
    · exact .inr (.inl h1)
    · exact .inr (.inr (.inl h1))
    · exact .inr (.inr (.inr h1))
  · intro hk
    rcases h.2.2 with ⟨_, h1⟩ | ⟨h1, _⟩ | ⟨_, h1, _⟩ | ⟨_, h1, _⟩
    · exact h1
    · exact absurd h1 hk
    · exact h1
    · exact h1
set_option maxRecDepth 100000 in
/-- the order that is told is one -/
theorem vd_sound {l : List Ic} {fu bu : Int} {ops : List Opr} (h1 : (thr l).2.2 = 0) (h2 : 0 ≤ fu ∧ fu ≤ 10000) (h3 : ops.length ≤ 64) (hirr : ∀ i, i < ops.length → befO (opN ops i) (opN ops i) = false) (hk : (vdR l fu bu ops).k = 1) : ordE l fu ops (nI (vdR l fu bu ops).o) = 0 :=
  ordE_ok.2 (ord_nat.2 ⟨h1, h2, h3, (lin_iff hirr).1 hk⟩)
set_option maxRecDepth 100000 in
/-- with so many tries -/
theorem vd_whole {l : List Ic} {fu bu : Int} {ops : List Opr} (hirr : ∀ i, i < ops.length → befO (opN ops i) (opN ops i) = false) (hB : enN ops.length ≤ bu.toNat) :
    (vdR l fu bu ops).k ≠ 4 ∧ ((vdR l fu bu ops).k ≠ 3 → ((vdR l fu bu ops).k = 1 ↔ ∃ o, OrdN l fu ops o)) := by
  rcases lin_all (l := l) (f := fu) hirr hB with ⟨h1, h2⟩ | ⟨h1, _, h2⟩ | ⟨h1, _⟩
  · exact ⟨by unfold vdR; rw [h1]; decide, fun _ => ⟨fun _ => ⟨_, h2⟩, fun _ => h1⟩⟩
  · refine ⟨by unfold vdR; rw [h1]; decide, fun _ => ⟨fun h => ?_, fun ⟨o, ho⟩ => absurd ho (h2 o)⟩⟩
    unfold vdR at h; omega
  · refine ⟨by unfold vdR; rw [h1]; decide, fun h => ?_⟩
    unfold vdR at h; exact absurd h1 h
set_option maxRecDepth 100000 in
/-- another budget -/
theorem vd_budget {l : List Ic} {fu bu cu : Int} {ops : List Opr} (h : (vdR l fu bu ops).k ≠ 4) :
    ((vdR l fu bu ops).t ≤ cu.toNat → vdR l fu cu ops = vdR l fu bu ops) ∧ (cu.toNat < (vdR l fu bu ops).t → (vdR l fu cu ops).k = 4 ∧ (vdR l fu cu ops).o = [] ∧ (vdR l fu cu ops).t = cu.toNat) :=
  gs_budget srO_ok h cu.toNat
end Go.Proofs.Ytbjeeefkbmdmfaa
namespace Go.Proofs.Ytbjeeefkbmdmfaa
open Go.RowKit
set_option linter.unusedVariables false

section
variable {P : Type} {s : Sr P}
set_option maxRecDepth 100000 in
theorem dw_skip {p : P} {k : Nat} (hk : k < s.n) (h : s.free p k = false) : dw s p ((List.range s.n).drop k) = dw s p ((List.range s.n).drop (k + 1)) := by
  unfold dw
  rw [List.drop_eq_getElem_cons (by rw [List.length_range]; exact hk), List.getElem_range, List.dropWhile_cons_of_pos (by rw [h]; rfl)]
set_option maxRecDepth 100000 in
theorem dw_here {p : P} {k : Nat} (hk : k < s.n) (h : s.free p k = true) : dw s p ((List.range s.n).drop k) = k :: (List.range s.n).drop (k + 1) := by
  unfold dw
  rw [List.drop_eq_getElem_cons (by rw [List.length_range]; exact hk), List.getElem_range, List.dropWhile_cons_of_neg (by rw [h]; decide)]
set_option maxRecDepth 100000 in
theorem dw_end {p : P} {k : Nat} (hk : s.n ≤ k) : dw s p ((List.range s.n).drop k) = [] := by
  rw [List.drop_eq_nil_of_le (by rw [List.length_range]; exact hk)]; rfl
/-- frames (the top first) and the places in the order in which they were put in -/
def kOf (n : Nat) (o : List Nat) : List (P × Nat) → List (Fm P)
  | [] => []
  | (p, k) :: T => ⟨p, o.take T.length, (List.range n).drop k⟩ :: kOf n o T
set_option maxRecDepth 100000 in
theorem kOf_cons (n : Nat) (o : List Nat) (p : P) (k : Nat) (T : List (P × Nat)) : kOf n o ((p, k) :: T) = ⟨p, o.take T.length, (List.range n).drop k⟩ :: kOf n o T := rfl
set_option maxRecDepth 100000 in
theorem stl_cons (f : Fm P) (K : List (Fm P)) : stl s (f :: K) = if dw s f.p f.is = [] then stl s K else ⟨f.p, f.o, dw s f.p f.is⟩ :: K := rfl
set_option maxRecDepth 100000 in
theorem kOf_more {n : Nat} {o : List Nat} (x : List Nat) : ∀ (T : List (P × Nat)), T.length ≤ o.length + 1 → kOf n (o ++ x) T = kOf n o T
  | [], _ => rfl
  | (p, k) :: T, h => by
    have h1 : T.length ≤ o.length := by simpa using h
    unfold kOf
    rw [List.take_append_of_le_length h1, kOf_more x T (by omega)]
set_option maxRecDepth 100000 in
theorem stl_skip {o : List Nat} {p : P} {k : Nat} {T : List (P × Nat)} (hk : k < s.n) (h : s.free p k = false) : stl s (kOf s.n o ((p, k) :: T)) = stl s (kOf s.n o ((p, k + 1) :: T)) := by
  rw [kOf_cons, kOf_cons, stl_cons, stl_cons]
  simp only
  rw [dw_skip hk h]
set_option maxRecDepth 100000 in
theorem stl_here {o : List Nat} {p : P} {k : Nat} {T : List (P × Nat)} (hk : k < s.n) (h : s.free p k = true) : stl s (kOf s.n o ((p, k) :: T)) = ⟨p, o.take T.length, k :: (List.range s.n).drop (k + 1)⟩ :: kOf s.n o T := by
  rw [kOf_cons, stl_cons]
  simp only
  rw [dw_here hk h, if_neg (by simp)]
set_option maxRecDepth 100000 in
theorem stl_here' {o : List Nat} {p : P} {k : Nat} {T : List (P × Nat)} (hk : k < s.n) (h : s.free p k = true) : stl s (kOf s.n o ((p, k) :: T)) = kOf s.n o ((p, k) :: T) := by
  rw [stl_here hk h, kOf_cons]
  congr 2
  rw [List.drop_eq_getElem_cons (show k < (List.range s.n).length by rw [List.length_range]; exact hk), List.getElem_range]
set_option maxRecDepth 100000 in
theorem stl_end {o : List Nat} {p : P} {k : Nat} {T : List (P × Nat)} (hk : s.n ≤ k) : stl s (kOf s.n o ((p, k) :: T)) = stl s (kOf s.n o T) := by
  rw [kOf_cons, stl_cons]
  simp only
  rw [dw_end hk, if_pos rfl]
set_option maxRecDepth 100000 in
theorem stl_nil {o : List Nat} : stl s (kOf s.n o ([] : List (P × Nat))) = [] := rfl
end
section
variable {P : Type} [DecidableEq P] {s : Sr P}
set_option maxRecDepth 100000 in
/-- a try is due at the top -/
theorem st1_due {x : Ss P} {o : List Nat} {p : P} {k : Nat} {T : List (P × Nat)} (hov : x.ov = 0) (hK : x.K = kOf s.n o ((p, k) :: T)) (hk : k < s.n) : st1 s x = tr1 s p (o.take T.length) k ((List.range s.n).drop (k + 1)) (kOf s.n o T) x.W x.t := by
  unfold st1
  rw [if_neg (by rw [hov]; decide), hK]
  rw [kOf_cons, List.drop_eq_getElem_cons (show k < (List.range s.n).length by rw [List.length_range]; exact hk), List.getElem_range]
set_option maxRecDepth 100000 in
theorem tr1_fuel {p : P} {o is W K t} {i : Nat} (h : s.tr p i = .fuel) : tr1 s p o i is K W t = ⟨3, [], [], W, t + 1⟩ := by unfold tr1; rw [h]
set_option maxRecDepth 100000 in
theorem tr1_no {p : P} {o : List Nat} {W : List P} {T : List (P × Nat)} {t i : Nat} {oo : List Nat} (h : s.tr p i = .no) (ho : o = oo.take T.length) : tr1 s p o i ((List.range s.n).drop (i + 1)) (kOf s.n oo T) W t = mkS s (kOf s.n oo ((p, i + 1) :: T)) W (t + 1) := by unfold tr1; rw [h, ho]; rfl
set_option maxRecDepth 100000 in
theorem tr1_was {p q : P} {o : List Nat} {W : List P} {T : List (P × Nat)} {t i : Nat} {oo : List Nat} (h : s.tr p i = .yes q) (hq : q ∈ W) (ho : o = oo.take T.length) : tr1 s p o i ((List.range s.n).drop (i + 1)) (kOf s.n oo T) W t = mkS s (kOf s.n oo ((p, i + 1) :: T)) W (t + 1) := by
  unfold tr1; rw [h]
  simp only
  rw [if_pos hq, ho]; rfl
set_option maxRecDepth 100000 in
theorem tr1_fits {p q : P} {o is K} {W : List P} {t i : Nat} (h : s.tr p i = .yes q) (hq : ¬ q ∈ W) (hf : s.full q = true) : tr1 s p o i is K W t = ⟨1, o ++ [i], [], W ++ [q], t + 1⟩ := by
  unfold tr1; rw [h]
  simp only
  rw [if_neg hq, if_pos hf]
set_option maxRecDepth 100000 in
theorem tr1_in {p q : P} {o : List Nat} {W : List P} {T : List (P × Nat)} {t i : Nat} (h : s.tr p i = .yes q) (hq : ¬ q ∈ W) (hf : s.full q = false) (ho : o.length = T.length) : tr1 s p o i ((List.range s.n).drop (i + 1)) (kOf s.n o T) W t = mkS s (kOf s.n (o ++ [i]) ((q, 0) :: (p, i + 1) :: T)) (W ++ [q]) (t + 1) := by
  unfold tr1; rw [h]
  simp only
  rw [if_neg hq, if_neg (by rw [hf]; decide)]
  congr 1
  show _ = Fm.mk q ((o ++ [i]).take (T.length + 1)) ((List.range s.n).drop 0) :: Fm.mk p ((o ++ [i]).take T.length) ((List.range s.n).drop (i + 1)) :: kOf s.n (o ++ [i]) T
  have e1 : (o ++ [i]).take (T.length + 1) = o ++ [i] := List.take_of_length_le (by rw [List.length_append]; simp; omega)
  have e2 : (o ++ [i]).take T.length = o := by rw [List.take_append_of_le_length (by omega), List.take_of_length_le (by omega)]
  rw [kOf_more [i] T (by omega), e1, e2, List.drop_zero]
end
section
variable {P : Type} {s : Sr P}
set_option maxRecDepth 100000 in
theorem beg_full {p0 : P} (h : s.full p0 = true) : beg s p0 = ⟨1, [], [], [p0], 0⟩ := by unfold beg; rw [if_pos h]
set_option maxRecDepth 100000 in
theorem beg_open {p0 : P} (h : s.full p0 = false) : beg s p0 = mkS s (kOf s.n [] [(p0, 0)]) [p0] 0 := by
  unfold beg; rw [if_neg (by rw [h]; decide)]; rfl
set_option maxRecDepth 100000 in
theorem mkS_none {K : List (Fm P)} {W : List P} {t : Nat} (h : stl s K = []) : mkS s K W t = ⟨2, [], [], W, t⟩ := by unfold mkS; rw [if_pos h]
set_option maxRecDepth 100000 in
theorem mkS_some {K : List (Fm P)} {W : List P} {t : Nat} (h : stl s K ≠ []) : mkS s K W t = ⟨0, [], stl s K, W, t⟩ := by unfold mkS; rw [if_neg h]
end
end Go.Proofs.Ytbjeeefkbmdmfaa
namespace Go.Proofs.Ytbjeeefkbmdmfaa
open Go.RowKit
set_option linter.unusedVariables false

section
variable {l : List Ic} {f : Int} {ops : List Opr} {I : List Bool} {s0 s1 s2 s3 : Int} {i : Nat} {X : Opr} {kd t0 t1 t2 t3 rt us : Int}
set_option maxRecDepth 100000 in
theorem tr_fuel (hX : ops.getD i op0 = X) (hs : stpV l [s0, s1, s2, s3] X.o X.a f = (kd, [t0, t1, t2, t3], rt, us)) (h : kd = 3) : (srO l f ops).tr ⟨I, [s0, s1, s2, s3]⟩ i = .fuel := by
  show (if (stN l f ops [s0, s1, s2, s3] i).1 = 3 then _ else _) = _
  have e : (stN l f ops [s0, s1, s2, s3] i).1 = 3 := by unfold stN opN; rw [hX, hs]; exact h
  rw [if_pos e]
set_option maxRecDepth 100000 in
theorem tr_no (hX : ops.getD i op0 = X) (hs : stpV l [s0, s1, s2, s3] X.o X.a f = (kd, [t0, t1, t2, t3], rt, us)) (h : kd ≠ 3) (hb : kd ≠ 1 ∨ (X.d = true ∧ X.r ≠ rt)) : (srO l f ops).tr ⟨I, [s0, s1, s2, s3]⟩ i = .no := by
  show (if (stN l f ops [s0, s1, s2, s3] i).1 = 3 then _ else if badN l f ops [s0, s1, s2, s3] i then _ else _) = _
  have hbad : badN l f ops [s0, s1, s2, s3] i := by unfold badN stN opN; rw [hX, hs]; exact hb
  rw [if_neg (by unfold stN opN; rw [hX, hs]; exact h), if_pos hbad]
set_option maxRecDepth 100000 in
theorem tr_ok (hX : ops.getD i op0 = X) (hs : stpV l [s0, s1, s2, s3] X.o X.a f = (kd, [t0, t1, t2, t3], rt, us)) (hb : ¬ (kd ≠ 1 ∨ (X.d = true ∧ X.r ≠ rt))) (hI : I.length = ops.length) (hi : i < ops.length) : (srO l f ops).tr ⟨I, [s0, s1, s2, s3]⟩ i = .yes ⟨I.set i true, [t0, t1, t2, t3]⟩ := by
  refine tr_yes.2 ⟨?_, ?_⟩
  · unfold badN stN opN; rw [hX, hs]; exact hb
  · show _ = ((putP ops.length I i, (stN l f ops [s0, s1, s2, s3] i).2.1) : Po)
    unfold stN opN; rw [hX, hs, put_set hI i hi]
end
set_option maxRecDepth 100000 in
theorem po_eta {p : Po} (h : p.S.length = 4) : p = ⟨p.I, [p.S.getD 0 0, p.S.getD 1 0, p.S.getD 2 0, p.S.getD 3 0]⟩ := by
  obtain ⟨I, S⟩ := p
  match S, h with
  | [a, b, c, d], _ => rfl
end Go.Proofs.Ytbjeeefkbmdmfaa
namespace Go.Proofs.Ytbjeeefkbmdmfaa
open Go.RowKit
set_option linter.unusedVariables false

/-- rows of so many places -/
def fal (n : Nat) : Nat → Nat
  | 0 => 1
  | k + 1 => fal n k * (n - k)
/-- rows of up to so many places -/
def psu (n : Nat) : Nat → Nat
  | 0 => 0
  | k + 1 => psu n k + fal n (k + 1)
set_option maxRecDepth 100000 in
theorem fal_succ (n : Nat) : ∀ k, fal (n + 1) (k + 1) = (n + 1) * fal n k
  | 0 => by simp [fal]
  | k + 1 => by
    show fal (n + 1) (k + 1) * (n + 1 - (k + 1)) = (n + 1) * (fal n k * (n - k))
    rw [fal_succ n k, Nat.add_sub_add_right, Nat.mul_assoc]
set_option maxRecDepth 100000 in
theorem psu_succ (n : Nat) : ∀ k, psu (n + 1) (k + 1) = (n + 1) * (1 + psu n k)
  | 0 => by simp [psu, fal]
  | k + 1 => by
    show psu (n + 1) (k + 1) + fal (n + 1) (k + 1 + 1) = (n + 1) * (1 + (psu n k + fal n (k + 1)))
    rw [psu_succ n k, fal_succ, ← Nat.mul_add, Nat.add_assoc]
set_option maxRecDepth 100000 in
theorem psu_en : ∀ n, psu n n = enN n
  | 0 => rfl
  | n + 1 => by rw [psu_succ, psu_en n]; rfl
set_option maxRecDepth 100000 in
theorem psu_le {n k m : Nat} (h : k ≤ m) : psu n k ≤ psu n m := by
  induction m with
  | zero => rw [Nat.le_zero.1 h]; exact Nat.le_refl _
  | succ m ih =>
    by_cases e : k = m + 1
    · rw [e]; exact Nat.le_refl _
    · exact Nat.le_trans (ih (by omega)) (Nat.le_add_right _ _)
set_option maxRecDepth 100000 in
theorem fal_pos {n : Nat} : ∀ {k : Nat}, k ≤ n → 1 ≤ fal n k
  | 0, _ => Nat.le_refl _
  | k + 1, h => Nat.mul_pos (fal_pos (by omega)) (by omega)
set_option maxRecDepth 100000 in
theorem fal_le {n k m : Nat} (h : k ≤ m) (hm : m ≤ n) : fal n k ≤ fal n m := by
  induction m with
  | zero => rw [Nat.le_zero.1 h]; exact Nat.le_refl _
  | succ m ih =>
    by_cases e : k = m + 1
    · rw [e]; exact Nat.le_refl _
    · exact Nat.le_trans (ih (by omega) (by omega)) (Nat.le_mul_of_pos_right _ (by omega))
set_option maxRecDepth 100000 in
theorem fal_en {n k : Nat} (h : k < n) : fal n (k + 1) ≤ enN n := by
  rw [← psu_en]
  exact Nat.le_trans (Nat.le_add_left _ _) (psu_le (k := k + 1) h)
/-- the greatest that is told -/
def M62 : Nat := 4611686018427387904
/-- how many are enough, as it is told -/
def enZ (n : Int) : Int := (min (enN n.toNat) M62 : Nat)
set_option maxRecDepth 100000 in
theorem enZ_low {n : Int} (h : n ≤ 0) : enZ n = 0 := by unfold enZ; rw [show n.toNat = 0 by omega]; rfl
set_option maxRecDepth 100000 in
theorem enN_26 : M62 < enN 26 := by decide
set_option maxRecDepth 100000 in
theorem enZ_big {n : Nat} (h : M62 < enN n) : enZ n = M62 := by unfold enZ; rw [Int.toNat_natCast]; congr 1; omega
set_option maxRecDepth 100000 in
theorem enZ_far {n : Nat} (h : 25 < n) : enZ n = M62 := enZ_big (Nat.lt_of_lt_of_le enN_26 (enN_mono h))
set_option maxRecDepth 100000 in
theorem enZ_row {n i q : Nat} (hi : i < n) (hq : M62 / (n - i) = q) (h : q < fal n i) : enZ n = M62 := by
  refine enZ_big (Nat.lt_of_lt_of_le ?_ (fal_en hi))
  show M62 < fal n i * (n - i)
  rw [← hq] at h
  exact (Nat.div_lt_iff_lt_mul (by omega)).1 h
set_option maxRecDepth 100000 in
theorem enZ_sum {n k : Nat} (hk : k ≤ n) (h : M62 < psu n k) : enZ n = M62 := enZ_big (by rw [← psu_en]; exact Nat.lt_of_lt_of_le h (psu_le hk))
set_option maxRecDepth 100000 in
theorem enZ_end {n : Nat} (h : psu n n ≤ M62) : enZ n = (psu n n : Nat) := by unfold enZ; rw [Int.toNat_natCast, ← psu_en]; congr 1; omega
set_option maxRecDepth 100000 in
theorem fal_room {n i q : Nat} (hi : i < n) (hq : M62 / (n - i) = q) (h : ¬ q < fal n i) : fal n (i + 1) ≤ M62 := by
  show fal n i * (n - i) ≤ M62
  rw [← hq] at h
  exact (Nat.le_div_iff_mul_le (by omega)).1 (by omega)
set_option maxRecDepth 100000 in
theorem enZ_mono {a b : Int} (h : a ≤ b) : enZ a ≤ enZ b := by
  unfold enZ
  have := enN_mono (show a.toNat ≤ b.toNat by omega)
  omega
set_option maxRecDepth 100000 in
theorem enZ_in (n : Int) : 0 ≤ enZ n ∧ enZ n ≤ 4611686018427387904 := by unfold enZ M62; omega
end Go.Proofs.Ytbjeeefkbmdmfaa
namespace Go.Proofs.Ytbjeeefkbmdmfaa
open Go.RowKit
set_option linter.unusedVariables false

set_option maxRecDepth 100000 in
theorem cnt_le : ∀ (L : List Ev) (n : Nat), L.foldl cntK n ≤ n + L.length ∧ ((∃ x, x ∈ L ∧ x.k = false) → L.foldl cntK n < n + L.length)
  | [], n => ⟨Nat.le_refl _, fun ⟨x, hx, _⟩ => by cases hx⟩
  | y :: t, n => by
    obtain ⟨h1, h2⟩ := cnt_le t (cntK n y)
    have h3 : cntK n y ≤ n + 1 := by unfold cntK; split <;> omega
    rw [List.foldl_cons, List.length_cons]
    refine ⟨by omega, fun ⟨x, hx, hk⟩ => ?_⟩
    rcases List.mem_cons.1 hx with e | hx
    · have : cntK n y = n := by unfold cntK; rw [← e, hk]; rfl
      omega
    · have := h2 ⟨x, hx, hk⟩
      omega
set_option maxRecDepth 100000 in
theorem his_irr {L : List Ev} (h : His L) (N : Nat) (hN : N ≤ L.length) : ∀ i, i < (opsL (L.take N)).length → befO (opN (opsL (L.take N)) i) (opN (opsL (L.take N)) i) = false := by
  intro i hi
  have hm : opN (opsL (L.take N)) i ∈ opsL (L.take N) := by unfold opN; rw [List.getD_eq_getElem?_getD, List.getElem?_eq_getElem hi]; exact List.getElem_mem hi
  exact bef_irr fun hd => ((ops_inv h N hN).don _ hm hd).1
set_option maxRecDepth 100000 in
theorem en_9 : enN 9 ≤ 1048576 := by decide
set_option maxRecDepth 100000 in
theorem vd_begins {l : List Ic} {fu : Int} {L : List Ev} (h : His L) (hl : L.length ≤ 10) (N : Nat) (hN : N ≤ L.length) (hk : (vdR l fu 1048576 (opsL L)).k = 1) : (vdR l fu 1048576 (opsL (L.take N))).k = 1 ∨ (vdR l fu 1048576 (opsL (L.take N))).k = 3 := by
  have hirr0 := his_irr h L.length (Nat.le_refl _)
  rw [List.take_length] at hirr0
  have hO := (lin_iff (l := l) (f := fu) hirr0 (B := (1048576 : Int).toNat)).1 hk
  obtain ⟨v, hv⟩ := lin_begins (bg_of h N hN) hO
  by_cases hop : ∀ i, i < (opsL (L.take N)).length → (opN (opsL (L.take N)) i).d = false
  · left; unfold vdR; rw [gs_open hop]
  · obtain ⟨i, hi⟩ := Classical.not_forall.1 hop
    obtain ⟨hi, hd⟩ := Classical.not_imp.1 hi
    have hd1 : (opN (opsL (L.take N)) i).d = true := by simpa using hd
    have hm : opN (opsL (L.take N)) i ∈ opsL (L.take N) := by unfold opN; rw [List.getD_eq_getElem?_getD, List.getElem?_eq_getElem hi]; exact List.getElem_mem hi
    obtain ⟨_, j, _, hj, he⟩ := (ops_inv h N hN).don _ hm hd1
    have hlt : (L.take N).length = N := by rw [List.length_take]; omega
    have hc : cOf (L.take N) < (L.take N).length := by
      have := (cnt_le (L.take N) 0).2 ⟨L.getD j ev0, ?_, by rw [he]⟩
      · rw [Nat.zero_add] at this; exact this
      · rw [List.getD_eq_getElem?_getD, List.getElem?_eq_getElem (by omega)]
        exact List.mem_take_iff_getElem.2 ⟨j, by omega, rfl⟩
    have hF : (opsL (L.take N)).length ≤ 9 := by rw [ops_len]; omega
    rcases lin_all (l := l) (f := fu) (his_irr h N hN) (B := (1048576 : Int).toNat) (Nat.le_trans (enN_mono hF) en_9) with ⟨h1, _⟩ | ⟨_, _, h2⟩ | ⟨h1, _⟩
    · exact .inl h1
    · exact absurd hv (h2 v)
    · exact .inr h1
end Go.Proofs.Ytbjeeefkbmdmfaa
