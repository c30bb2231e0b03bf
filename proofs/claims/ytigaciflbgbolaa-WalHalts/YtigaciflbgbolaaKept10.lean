/- What calls make of a life: no walk. -/
import Derived.Test.YtigaciflbgbolaaOpens10
namespace Go.Proofs.Ytigaciflbgbolaa
open Go.RowKit
set_option linter.unusedVariables false

set_option maxRecDepth 100000 in
theorem Inv.append {n : Nat} {s : DS} {S : List (List Int)} {M b : List Int} {doubt : Bool} {L : LS} (h : Inv n s S M doubt L) (hb : Byt b) :
    (apE s L b = 0 ∧ doubt = false ∧ Inv n (apS s L b) (S ++ [b]) M false (apL s L b)) ∨
    (apE s L b = 14 ∧ doubt = false ∧ Inv n (apS s L b) S b true (apL s L b)) ∨
    ((apE s L b = 5 ∨ apE s L b = 11 ∨ (apE s L b = 14 ∧ doubt = true)) ∧ Inv n (apS s L b) S M doubt (apL s L b)) := by
  obtain ⟨h1, h2, h3⟩ := h
  rcases h3 with ⟨d, hr, hL⟩ | ⟨d, ho, hL, ht, hl⟩
  · subst hL
    obtain ⟨_, a2, a3⟩ := ap_cases hr hb
    rw [h1] at a2
    rcases a3 with ⟨e1, e2, e3, _, _⟩ | ⟨e1, _, e3, e4, e5, e6, e7⟩ | ⟨e1, e2, e3, _⟩
    · exact .inl ⟨e1, d, a2, by rw [e2.o]; exact Nat.zero_le _, .inl ⟨rfl, e2, e3⟩⟩
    · exact .inr (.inl ⟨e1, d, a2, by rw [h1] at e4; exact e4, .inr ⟨rfl, e3, e5, hr.t.snoc e6 hb, e7⟩⟩)
    · refine .inr (.inr ⟨?_, ?_⟩)
      · rcases e1 with e1 | e1
        · exact .inl e1
        · exact .inr (.inl e1)
      · rw [e2, e3]; exact ⟨h1, h2, .inl ⟨d, hr, rfl⟩⟩
  · have hgo : L.go s b = false := by unfold LS.go; rw [hL]; simp
    obtain ⟨e1, e2⟩ := ap_no hgo
    rw [e1, e2]
    refine .inr (.inr ⟨?_, h1, h2, .inr ⟨d, ho, hL, ht, hl⟩⟩)
    unfold apE
    by_cases g1 : 16384 < b.length
    · rw [if_pos g1]; exact .inl rfl
    · rw [if_neg g1]
      by_cases g2 : s.F.length < L.next + ns (20 + b.length)
      · rw [if_pos g2]; exact .inr (.inl rfl)
      · rw [if_neg g2, hL]; exact .inr (.inr ⟨rfl, d⟩)
set_option maxRecDepth 100000 in
theorem ar_same (s : DS) (x : Int) : (s.ar x).F = s.F ∧ (s.ar x).O = s.O ∧ (s.ar x).off = s.off := by
  unfold DS.ar
  split
  · exact ⟨rfl, rfl, rfl⟩
  · split <;> exact ⟨rfl, rfl, rfl⟩
set_option maxRecDepth 100000 in
theorem Inv.arm {n : Nat} {s : DS} {S : List (List Int)} {M : List Int} {doubt : Bool} {L : LS} (h : Inv n s S M doubt L) (x : Int) : Inv n (s.ar x) S M doubt L := by
  obtain ⟨h1, h2, h3⟩ := h
  obtain ⟨e1, e2, e3⟩ := ar_same s x
  refine ⟨by rw [e1]; exact h1, by rw [e2]; exact h2, ?_⟩
  rcases h3 with ⟨d, hr, hL⟩ | ⟨d, ho, hL, ht, hl⟩
  · exact .inl ⟨d, hr.ar x, hL⟩
  · refine .inr ⟨d, by rw [e3]; exact ho, hL, ht, ?_⟩
    rw [e1, e2]; exact hl
set_option maxRecDepth 100000 in
theorem Inv.rest {n : Nat} {s : DS} {S : List (List Int)} {M : List Int} (h1 : Rest s S) (h2 : s.F.length = n) : Inv n s S M false (lgs S) := ⟨h2, by rw [h1.o]; exact Nat.zero_le _, .inl ⟨rfl, h1, rfl⟩⟩
set_option maxRecDepth 100000 in
/-- the power is armed, it is opened, and perhaps it goes off: what a crash leaves then -/
theorem Left.open {n : Nat} {s : DS} {S : List (List Int)} {M : List Int} {doubt : Bool} {T : List (List Int)} (h : Left n s S M doubt T) (x : Int) (hok : (s.ar x).Ok) :
    (s.ar x).off = false ∧ (s.ar x).O.length ≤ 900000 ∧ rdF (s.ar x).now = some (T, (FrS 0 T).length) ∧ ((s.ar x).wipE (FrS 0 T).length = 0 ∨ (s.ar x).wipE (FrS 0 T).length = 14) ∧ ((s.ar x).wipS (FrS 0 T).length).O.length ≤ n ∧ ∀ K, Left n (((s.ar x).wipS (FrS 0 T).length).cr K) S M doubt T := by
  obtain ⟨h1, h2, h3, _, h5, h6, h7⟩ := h
  obtain ⟨e1, e2, e3⟩ := ar_same s x
  have a1 : (s.ar x).off = false := by rw [e3]; exact h3
  have a2 : (s.ar x).O = [] := by rw [e2]; exact h2
  have a3 : Lay T (s.ar x).F := by rw [e1]; exact h6
  have hnow : (s.ar x).now = (s.ar x).F := by unfold DS.now; rw [a2]; rfl
  refine ⟨a1, by rw [a2]; exact Nat.zero_le _, by rw [hnow]; exact rd_lay hok.f a3 h5 hok.n2, ?_⟩
  have hn : (s.ar x).F.length = n := by rw [e1]; exact h1
  rcases wip_lay a1 a2 h5 a3 with ⟨b1, b2, b3, _⟩ | ⟨b1, _, b3, b4, b5, b6⟩
  · refine ⟨.inl b1, by rw [b2.o]; exact Nat.zero_le _, fun K => ⟨?_, rfl, rfl, rfl, h5, ?_, h7⟩⟩
    · show (app _ _).length = n
      rw [app_len, b3]; exact hn
    · show Lay T (app _ (kpt _ K))
      rw [b2.o, kpt_nil]; exact b2.lay
  · refine ⟨.inr b1, by rw [hn] at b5; exact b5, fun K => ⟨?_, rfl, rfl, rfl, h5, b6 K, h7⟩⟩
    show (app _ _).length = n
    rw [app_len, b4]; exact hn
set_option maxRecDepth 100000 in
theorem left_new (n : Nat) : Left n (dnew n) [] [] false [] := ⟨by simp [dnew], rfl, rfl, rfl, TOk.nil, ⟨Zs n, rfl, Zs_hd n⟩, .inl rfl⟩
set_option maxRecDepth 100000 in
theorem bls_far {w : World} {a : Option Addr} {len cap m : Nat} {K : List Bool} (h : Bls w a len cap K) (hm : m ≤ len) : 0 < m → ∀ p, a = some p → p.block < w.heap.size := fun hp p e => by
  obtain ⟨b, off, e2, hlt, _⟩ := h.spot (by omega)
  rw [e2] at e; cases e; exact hlt
end Go.Proofs.Ytigaciflbgbolaa
