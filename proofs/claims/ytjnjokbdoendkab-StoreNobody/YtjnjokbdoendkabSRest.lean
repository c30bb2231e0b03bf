/- Logs at rest. No walk. -/
import Derived.Test.YtjnjokbdoendkabWalPut2
import Derived.Test.YtjnjokbdoendkabSwa
namespace Go.Proofs.Ytjnjokbdoendkab
open Go.RowKit
set_option linter.unusedVariables false

/-- the log at rest that has these texts -/
def lgs (T : List (List Int)) : LS := ⟨T, (FrS 0 T).length, false⟩
set_option maxRecDepth 100000 in
theorem ap_cases {s : DS} {T : List (List Int)} {b : List Int} (h : Rest s T) (hb : Byt b) :
    (s.armed = false → (apS s (lgs T) b).armed = false) ∧ (apS s (lgs T) b).F.length = s.F.length ∧
    ((apE s (lgs T) b = 0 ∧ Rest (apS s (lgs T) b) (T ++ [b]) ∧ apL s (lgs T) b = lgs (T ++ [b]) ∧ b.length ≤ 16384 ∧ (FrS 0 T).length + ns (20 + b.length) ≤ s.F.length) ∨
     (apE s (lgs T) b = 14 ∧ s.armed = true ∧ (apS s (lgs T) b).off = true ∧ (apS s (lgs T) b).O.length ≤ s.F.length ∧ apL s (lgs T) b = ⟨T, (FrS 0 T).length, true⟩ ∧ b.length ≤ 16384 ∧ ∀ K, Lay T (app (apS s (lgs T) b).F (kpt (apS s (lgs T) b).O K)) ∨ Lay (T ++ [b]) (app (apS s (lgs T) b).F (kpt (apS s (lgs T) b).O K))) ∨
     ((apE s (lgs T) b = 5 ∨ apE s (lgs T) b = 11) ∧ apS s (lgs T) b = s ∧ apL s (lgs T) b = lgs T ∧ (16384 < b.length ∨ s.F.length < (FrS 0 T).length + ns (20 + b.length)))) := by
  by_cases hgo : (lgs T).go s b = true
  · obtain ⟨g1, g2, _⟩ := LS.go_iff.1 hgo
    have g2' : (FrS 0 T).length + ns (20 + b.length) ≤ s.F.length := g2
    obtain ⟨e1, e2⟩ := ap_yes hgo
    obtain ⟨a1, a2, a3⟩ := apW_rest h g1 hb g2'
    have hw : (lgs T).wr s b = s.apW (FrS 0 T).length (prt (frmL ((T.length : Int) + 1) b)) := rfl
    rw [← hw] at a1 a2 a3
    rw [e1, e2]
    refine ⟨fun ha => (a1 ha).2, a2, ?_⟩
    rcases a3 with ⟨b1, b2⟩ | ⟨b1, b2, b3, b4⟩
    · refine .inl ⟨b1, b2, ?_, g1, g2'⟩
      rw [ap_ok hgo b1]
      show (⟨T ++ [b], (FrS 0 T).length + ns (20 + b.length), false⟩ : LS) = ⟨T ++ [b], (FrS 0 (T ++ [b])).length, false⟩
      rw [FrS_snoc, List.length_append, chk_len, frmL_len]
    · refine .inr (.inl ⟨b1, ?_, b2, b3, ?_, g1, b4⟩)
      · cases ha : s.armed with
        | true => rfl
        | false => have := (a1 ha).1; omega
      · rw [ap_er hgo (by rw [b1]; decide)]; rfl
  · have hgo' : (lgs T).go s b = false := by simpa using hgo
    obtain ⟨e1, e2⟩ := ap_no hgo'
    rw [e1, e2]
    refine ⟨fun h => h, rfl, .inr (.inr ⟨?_, rfl, rfl, ?_⟩)⟩
    · unfold apE
      by_cases h1 : 16384 < b.length
      · rw [if_pos h1]; exact .inl rfl
      · rw [if_neg h1]
        by_cases h2 : s.F.length < (lgs T).next + ns (20 + b.length)
        · rw [if_pos h2]; exact .inr rfl
        · exact absurd (LS.go_iff.2 ⟨by omega, by omega, rfl⟩) hgo
    · by_cases h1 : 16384 < b.length
      · exact .inl h1
      · refine .inr (Classical.byContradiction fun h2 => hgo (LS.go_iff.2 ⟨by omega, ?_, rfl⟩))
        show (FrS 0 T).length + _ ≤ _
        omega
set_option maxRecDepth 100000 in
theorem rest_new (n : Nat) : Rest (dnew n) [] := ⟨rfl, rfl, TOk.nil, n, rfl⟩
set_option maxRecDepth 100000 in
theorem Rest.now {s : DS} {T : List (List Int)} (h : Rest s T) : s.now = s.F := by unfold DS.now; rw [h.o]; rfl
set_option maxRecDepth 100000 in
theorem Rest.rd {s : DS} {T : List (List Int)} (h : Rest s T) (hok : s.Ok) : rdF s.now = some (T, (FrS 0 T).length) := by
  rw [h.now]; exact rd_lay hok.f h.lay h.t hok.n2
set_option maxRecDepth 100000 in
theorem Rest.ar {s : DS} {T : List (List Int)} (h : Rest s T) (n : Int) : Rest (s.ar n) T := by
  have e : (s.ar n).off = false ∧ (s.ar n).O = [] ∧ (s.ar n).F = s.F := by
    unfold DS.ar
    rw [h.off]
    by_cases h1 : n < 0
    · simp only [if_pos h1]; exact ⟨h.off, h.o, rfl⟩
    · rw [if_neg (by decide), if_neg h1]; exact ⟨rfl, h.o, rfl⟩
  exact ⟨e.1, e.2.1, h.t, by rw [e.2.2]; exact h.f⟩
set_option maxRecDepth 100000 in
theorem rest_next {s : DS} {T : List (List Int)} (h : Rest s T) : (FrS 0 T).length ≤ s.F.length := by
  obtain ⟨z, hz⟩ := h.f
  rw [hz, List.length_append]; omega
set_option maxRecDepth 100000 in
/-- Open of a disk at rest: nothing is written -/
theorem wopen_rest (g : Nat) (own : Nat → Prop) (s : DS) (w : World) (T : List (List Int)) (hD : Dsk w g own s) (h : Rest s T) :
    Calls Try.prog 20 #[.pointer (some ⟨g, 0, none⟩)] w fun e w' => ∃ gl, e = .returned (.tuple #[.pointer (some ⟨gl, 0, none⟩), .int .i64 0]) ∧ ∃ own' ownL, Dsk w' g own' s ∧ Did own w w' own' ∧ Lg w' gl ownL g (lgs T) ∧ (∀ k, ownL k → w.heap.size ≤ k) ∧ (∀ k, ownL k → ¬ own' k) := by
  obtain ⟨e1, e2⟩ := wip_rest h
  have := wopen_ok g own s w T (FrS 0 T).length hD h.off (h.rd hD.ok) (by rw [h.o]; exact Nat.zero_le _) e1
  rw [e2] at this
  exact this
end Go.Proofs.Ytjnjokbdoendkab
