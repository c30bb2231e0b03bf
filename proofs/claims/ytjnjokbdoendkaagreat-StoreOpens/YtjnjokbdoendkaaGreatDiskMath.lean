/- A disk, as the mathematics has it: sectors, open writes, what each call makes of them. No walk. -/
import Derived.Test.YtjnjokbdoendkaaGreatBase
namespace Go.Proofs.YtjnjokbdoendkaaGreat
open Go.RowKit
set_option linter.unusedVariables false

/-- a sector's bytes -/
def Sx (l : List Int) : Prop := l.length = 64 ∧ Byt l
def Sxl (L : List (List Int)) : Prop := ∀ d ∈ L, Sx d
def s0 : List Int := List.replicate 64 0
set_option maxRecDepth 100000 in
theorem s0_sx : Sx s0 := ⟨by simp [s0], fun c hc => by rw [List.eq_of_mem_replicate hc]; decide⟩
set_option maxRecDepth 100000 in
theorem Sxl.set {L : List (List Int)} (h : Sxl L) (k : Nat) {Z : List Int} (hZ : Sx Z) : Sxl (L.set k Z) := fun d hd => by
  rcases List.mem_or_eq_of_mem_set hd with h1 | h1
  · exact h d h1
  · rw [h1]; exact hZ
set_option maxRecDepth 100000 in
theorem Sxl.getD {L : List (List Int)} (h : Sxl L) (k : Nat) (hk : k < L.length) : Sx (L.getD k []) := by
  rw [List.getD_eq_getElem?_getD, List.getElem?_eq_getElem hk]; exact h _ (List.getElem_mem hk)
set_option maxRecDepth 100000 in
theorem sxl_rep (n : Nat) : Sxl (List.replicate n s0) := fun d hd => by rw [List.eq_of_mem_replicate hd]; exact s0_sx
/-- bytes, and noughts behind them up to 64 -/
def pad64 (b : List Int) : List Int := b ++ List.replicate (64 - b.length) 0
set_option maxRecDepth 100000 in
theorem pad64_sx {b : List Int} (hb : Byt b) (h : b.length ≤ 64) : Sx (pad64 b) :=
  ⟨by simp [pad64]; omega, hb.append (fun c hc => by rw [List.eq_of_mem_replicate hc]; decide)⟩
/-- what open writes make of sectors -/
def app (F : List (List Int)) : List (Nat × List Int) → List (List Int)
  | [] => F
  | o :: r => app (F.set o.1 o.2) r
set_option maxRecDepth 100000 in
theorem app_append (F : List (List Int)) (O P : List (Nat × List Int)) : app F (O ++ P) = app (app F O) P := by
  induction O generalizing F with
  | nil => rfl
  | cons o r ih => exact ih _
set_option maxRecDepth 100000 in
theorem app_len (F : List (List Int)) (O : List (Nat × List Int)) : (app F O).length = F.length := by
  induction O generalizing F with
  | nil => rfl
  | cons o r ih => rw [app, ih, List.length_set]
/-- each open write is of a sector that there is, and has 64 bytes -/
def OOk (n : Nat) (O : List (Nat × List Int)) : Prop := ∀ p ∈ O, p.1 < n ∧ Sx p.2
set_option maxRecDepth 100000 in
theorem app_sx {F : List (List Int)} {n : Nat} {O : List (Nat × List Int)} (h : Sxl F) (ho : OOk n O) : Sxl (app F O) := by
  induction O generalizing F with
  | nil => exact h
  | cons o r ih => exact ih (h.set _ (ho o (by simp)).2) (fun p hp => ho p (by simp [hp]))
/-- the last of the writes of a sector -/
def lastO : List (Nat × List Int) → Nat → List Int → List Int
  | [], _, z => z
  | o :: r, i, z => lastO r i (if o.1 = i then o.2 else z)
set_option maxRecDepth 100000 in
theorem lastO_append (O P : List (Nat × List Int)) (i : Nat) (z : List Int) : lastO (O ++ P) i z = lastO P i (lastO O i z) := by
  induction O generalizing z with
  | nil => rfl
  | cons o r ih => exact ih _
set_option maxRecDepth 100000 in
theorem getD_set (F : List (List Int)) (k i : Nat) (Z : List Int) (hi : i < F.length) : (F.set k Z).getD i [] = if k = i then Z else F.getD i [] := by
  rw [List.getD_eq_getElem?_getD, List.getElem?_set]
  by_cases h : k = i
  · subst h; rw [if_pos rfl, if_pos hi, if_pos rfl]; rfl
  · rw [if_neg h, if_neg h, ← List.getD_eq_getElem?_getD]
set_option maxRecDepth 100000 in
theorem app_getD (F : List (List Int)) (O : List (Nat × List Int)) (i : Nat) (hi : i < F.length) : (app F O).getD i [] = lastO O i (F.getD i []) := by
  induction O generalizing F with
  | nil => rfl
  | cons o r ih => rw [app, ih _ (by rw [List.length_set]; exact hi), getD_set _ _ _ _ hi]; rfl
/-- the writes that are kept -/
def kpt : List (Nat × List Int) → List Bool → List (Nat × List Int)
  | [], _ => []
  | _ :: _, [] => []
  | o :: r, b :: k => if b then o :: kpt r k else kpt r k
set_option maxRecDepth 100000 in
theorem kpt_mem (O : List (Nat × List Int)) (K : List Bool) : ∀ p ∈ kpt O K, p ∈ O := by
  induction O generalizing K with
  | nil => intro p hp; cases hp
  | cons o r ih =>
    intro p hp
    cases K with
    | nil => cases hp
    | cons b k =>
      unfold kpt at hp
      by_cases hb : b = true
      · rw [if_pos hb] at hp
        rcases List.mem_cons.1 hp with h | h
        · rw [h]; simp
        · simp [ih k p h]
      · rw [if_neg hb] at hp; simp [ih k p hp]
set_option maxRecDepth 100000 in
theorem app_round (F : List (List Int)) (O : List (Nat × List Int)) (k : Nat) (o : Nat × List Int) (ho : O[k]? = some o) : app F (O.drop k) = app (F.set o.1 o.2) (O.drop (k + 1)) := by
  have hk : k < O.length := (List.getElem?_eq_some_iff.1 ho).1
  have ho2 : O[k] = o := (List.getElem?_eq_some_iff.1 ho).2
  rw [List.drop_eq_getElem_cons hk, ho2]; rfl
/-- a disk -/
structure DS where
  F : List (List Int)
  O : List (Nat × List Int)
  armed : Bool
  left : Int
  off : Bool
structure DS.Ok (s : DS) : Prop where
  n1 : 1 ≤ s.F.length
  n2 : s.F.length ≤ 4096
  f : Sxl s.F
  o : OOk s.F.length s.O
  left : 0 ≤ s.left ∧ s.left ≤ 9223372036854775807
def DS.now (s : DS) : List (List Int) := app s.F s.O
def dnew (n : Nat) : DS := ⟨List.replicate n s0, [], false, 0, false⟩
set_option maxRecDepth 100000 in
theorem dnew_ok {n : Nat} (h1 : 1 ≤ n) (h2 : n ≤ 4096) : (dnew n).Ok :=
  ⟨by simp [dnew]; omega, by simp [dnew]; omega, sxl_rep n, by intro p hp; simp [dnew] at hp, by simp [dnew]⟩
/-- the power goes off with the next step -/
def DS.last (s : DS) : Bool := s.armed && decide (s.left = 0)
def DS.dead (s : DS) : DS := { s with off := true }
def DS.tick (s : DS) : DS := { s with left := if s.armed then s.left - 1 else s.left }
def DS.fits (s : DS) (x : Int) (b : List Int) : Bool := decide (0 ≤ x) && decide (x < (s.F.length : Int)) && decide (b.length ≤ 64)
def DS.wrE (s : DS) (x : Int) (b : List Int) : Int := if s.off then 14 else if s.fits x b then (if s.last then 14 else 0) else 2
def DS.wr (s : DS) (x : Int) (b : List Int) : DS := if s.off then s else if s.fits x b then (if s.last then s.dead else { s.tick with O := s.O ++ [(x.toNat, pad64 b)] }) else s
def DS.syE (s : DS) : Int := if s.off then 14 else if s.last then 14 else 0
def DS.sy (s : DS) : DS := if s.off then s else if s.last then s.dead else { s.tick with F := app s.F s.O, O := [] }
def DS.rdE (s : DS) (x : Int) : Int := if s.off then 14 else if decide (0 ≤ x) && decide (x < (s.F.length : Int)) then 0 else 2
def DS.rdL (s : DS) (x : Int) : List Int := if s.off then [] else if decide (0 ≤ x) && decide (x < (s.F.length : Int)) then s.now.getD x.toNat [] else []
set_option maxRecDepth 100000 in
theorem DS.last_pos {s : DS} (h : s.Ok) (hl : s.last = false) (ha : s.armed = true) : 1 ≤ s.left := by
  have := h.left.1
  unfold DS.last at hl
  rw [ha] at hl
  have : s.left ≠ 0 := by simpa using hl
  omega
set_option maxRecDepth 100000 in
theorem DS.tick_ok {s : DS} (h : s.Ok) (hl : s.last = false) : s.tick.Ok := by
  refine ⟨h.n1, h.n2, h.f, h.o, ?_⟩
  show 0 ≤ (if s.armed then s.left - 1 else s.left) ∧ (if s.armed then s.left - 1 else s.left) ≤ _
  have h1 := h.left
  by_cases ha : s.armed = true
  · have := DS.last_pos h hl ha
    rw [if_pos ha]; omega
  · rw [if_neg ha]; exact h1
set_option maxRecDepth 100000 in
theorem DS.dead_ok {s : DS} (h : s.Ok) : s.dead.Ok := ⟨h.n1, h.n2, h.f, h.o, h.left⟩
set_option maxRecDepth 100000 in
theorem DS.fits_iff {s : DS} {x : Int} {b : List Int} : s.fits x b = true ↔ 0 ≤ x ∧ x < s.F.length ∧ b.length ≤ 64 := by simp [DS.fits, and_assoc]
set_option maxRecDepth 100000 in
theorem DS.wr_ok {s : DS} (h : s.Ok) (x : Int) {b : List Int} (hb : Byt b) : (s.wr x b).Ok := by
  unfold DS.wr
  by_cases h1 : s.off = true
  · rw [if_pos h1]; exact h
  · rw [if_neg h1]
    by_cases h2 : s.fits x b = true
    · rw [if_pos h2]
      by_cases h3 : s.last = true
      · rw [if_pos h3]; exact DS.dead_ok h
      · rw [if_neg h3]
        have ht := DS.tick_ok h (by simpa using h3)
        have hf := DS.fits_iff.1 h2
        refine ⟨ht.n1, ht.n2, ht.f, fun p hp => ?_, ht.left⟩
        rcases List.mem_append.1 hp with hp | hp
        · exact h.o p hp
        · rw [List.mem_singleton.1 hp]
          exact ⟨by show x.toNat < s.F.length; omega, pad64_sx hb hf.2.2⟩
    · rw [if_neg h2]; exact h
set_option maxRecDepth 100000 in
theorem DS.sy_ok {s : DS} (h : s.Ok) : s.sy.Ok := by
  unfold DS.sy
  by_cases h1 : s.off = true
  · rw [if_pos h1]; exact h
  · rw [if_neg h1]
    by_cases h3 : s.last = true
    · rw [if_pos h3]; exact DS.dead_ok h
    · rw [if_neg h3]
      have ht := DS.tick_ok h (by simpa using h3)
      exact ⟨by show 1 ≤ (app s.F s.O).length; rw [app_len]; exact h.n1, by show (app s.F s.O).length ≤ 4096; rw [app_len]; exact h.n2, app_sx h.f h.o, (by intro p hp; cases hp), ht.left⟩
end Go.Proofs.YtjnjokbdoendkaaGreat
