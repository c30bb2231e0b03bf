/- Calls on the parts of a tenant. No walk. -/
import Derived.Test.YtipakjenggeflaaGreatDoorTnMem
import Derived.Test.YtipakjenggeflaaGreatDoorPkat
import Derived.Test.YtipakjenggeflaaGreatDoorLdNew
import Derived.Test.YtipakjenggeflaaGreatDoorPkaf
import Derived.Test.YtipakjenggeflaaGreatDoorPkae
import Derived.Test.YtipakjenggeflaaGreatDoorPkaa
import Derived.Test.YtipakjenggeflaaGreatDoorPkad
import Derived.Test.YtipakjenggeflaaGreatDoorPkam
import Derived.Test.YtipakjenggeflaaGreatDoorQSmall
import Derived.Test.YtipakjenggeflaaGreatDoorShelfDel
import Derived.BigQuiet
import Derived.Deep.CutRange
namespace Go.Proofs.YtipakjenggeflaaGreatDoor
open Go.RowKit
set_option linter.unusedVariables false

section
variable {A : Ad} {o : Nat → Nat → Prop} {w w' w1 : World} {own own2 : Nat → Prop} {l : Lm} {K : List Int} {s : DS} {L : LS} {M : List Pr} {E : List (List Int)} {Q : List Int} {tk : Option (Nat × List Int × List Int)} {vT : Value}
set_option maxRecDepth 100000 in
/-- behind a commit: the store is another one -/
theorem TnX.store (h : TnX A o w own l K s L M E Q tk vT) {s' : DS} {L' : LS} {M' : List Pr} {pD pL pS : Nat → Prop} (hT : Tri w' A.gd A.gl A.gs pD pL pS s' L' l.q M') (hd : Did3 (o 1) (o 2) (o 3) w w' pD pL pS) :
    ∃ o', TnX A o' w' (ownN own w w') l K s' L' M' E Q tk vT := by
  have hs := hd.kept.size
  have hl : ∀ i j, o i j → j < w.heap.size := fun i j hj => h.lt j (h.ow i j hj)
  have hb : ∀ i j, (i ≠ 1 ∧ i ≠ 2 ∧ i ≠ 3) → o i j → w'.heap[j]? = w.heap[j]? := fun i j hi hj => hd.kept.block j (hl i j hj) (fun e => by
    rcases e with e | e | e
    · exact hi.1 (h.dj _ _ _ hj e)
    · exact hi.2.1 (h.dj _ _ _ hj e)
    · exact hi.2.2 (h.dj _ _ _ hj e))
  have hlt3 : ∀ j, (pD j → j < w'.heap.size) ∧ (pL j → j < w'.heap.size) ∧ (pS j → j < w'.heap.size) := fun j => ⟨hT.d.lt j, hT.l.lt j, hT.t.lt j⟩
  have dj1 := setI_dj (o := o) (i0 := 1) (p := pD) (N := w.heap.size) h.dj hl (fun j hj => by rcases hd.n1 j hj with e | e; exact .inl e; exact .inr e.1)
  have hq1 : ∀ i j, i ≠ 1 → setI o 1 pD i j → o i j := fun i j hi hj => by rw [setI_other o pD hi] at hj; exact hj
  -- all three
  have dj : ∀ i i' j, setI (setI (setI o 1 pD) 2 pL) 3 pS i j → setI (setI (setI o 1 pD) 2 pL) 3 pS i' j → i = i' := by
    have key : ∀ i j, setI (setI (setI o 1 pD) 2 pL) 3 pS i j → (i = 1 ∧ pD j) ∨ (i = 2 ∧ pL j) ∨ (i = 3 ∧ pS j) ∨ ((i ≠ 1 ∧ i ≠ 2 ∧ i ≠ 3) ∧ o i j) := fun i j hj => by
      by_cases e3 : i = 3
      · subst e3; rw [setI_same] at hj; exact .inr (.inr (.inl ⟨rfl, hj⟩))
      rw [setI_other _ _ e3] at hj
      by_cases e2 : i = 2
      · subst e2; rw [setI_same] at hj; exact .inr (.inl ⟨rfl, hj⟩)
      rw [setI_other _ _ e2] at hj
      by_cases e1 : i = 1
      · subst e1; rw [setI_same] at hj; exact .inl ⟨rfl, hj⟩
      rw [setI_other _ _ e1] at hj
      exact .inr (.inr (.inr ⟨⟨e1, e2, e3⟩, hj⟩))
    have far : ∀ i j, (i ≠ 1 ∧ i ≠ 2 ∧ i ≠ 3) → o i j → ¬ pD j ∧ ¬ pL j ∧ ¬ pS j := fun i j hi hj => by
      have hjl := hl i j hj
      refine ⟨fun e => ?_, fun e => ?_, fun e => ?_⟩
      · rcases hd.n1 j e with e | e
        · exact hi.1 (h.dj _ _ _ hj e)
        · omega
      · rcases hd.n2 j e with e | e
        · exact hi.2.1 (h.dj _ _ _ hj e)
        · omega
      · rcases hd.n3 j e with e | e
        · exact hi.2.2 (h.dj _ _ _ hj e)
        · omega
    intro i i' j h1 h2
    rcases key i j h1 with ⟨e, g⟩ | ⟨e, g⟩ | ⟨e, g⟩ | ⟨e, g⟩ <;> rcases key i' j h2 with ⟨e', g'⟩ | ⟨e', g'⟩ | ⟨e', g'⟩ | ⟨e', g'⟩
    · rw [e, e']
    · exact absurd g (hT.ld j g')
    · exact absurd g (hT.sd j g')
    · exact absurd g (far _ _ e' g').1
    · exact absurd g' (hT.ld j g)
    · rw [e, e']
    · exact absurd g (hT.sl j g')
    · exact absurd g (far _ _ e' g').2.1
    · exact absurd g' (hT.sd j g)
    · exact absurd g' (hT.sl j g)
    · rw [e, e']
    · exact absurd g (far _ _ e' g').2.2
    · exact absurd g' (far _ _ e g).1
    · exact absurd g' (far _ _ e g).2.1
    · exact absurd g' (far _ _ e g).2.2
    · exact h.dj _ _ _ g g'
  have eo : ∀ i, (i ≠ 1 ∧ i ≠ 2 ∧ i ≠ 3) → setI (setI (setI o 1 pD) 2 pL) 3 pS i = o i := fun i hi => by rw [setI_other _ _ hi.2.2, setI_other _ _ hi.2.1, setI_other _ _ hi.1]
  have e3 : setI (setI (setI o 1 pD) 2 pL) 3 pS 3 = pS := setI_same _ _ _
  have e2 : setI (setI (setI o 1 pD) 2 pL) 3 pS 2 = pL := by rw [setI_other _ _ (by decide)]; exact setI_same _ _ _
  have e1 : setI (setI (setI o 1 pD) 2 pL) 3 pS 1 = pD := by rw [setI_other _ _ (by decide), setI_other _ _ (by decide)]; exact setI_same _ _ _
  refine ⟨setI (setI (setI o 1 pD) 2 pL) 3 pS, ?_, ?_, ?_, ?_, ?_, ?_, ?_, dj, ?_, ?_⟩
  · rw [e1, e2, e3]; exact hT
  · rw [eo 4 (by decide)]; exact h.lg.keep (fun j hj => hb 4 j (by decide) hj) hs
  · exact h.qu.keep (hb 5 _ (by decide) h.cq)
  · rw [eo 5 (by decide)]; exact h.cq
  · rw [eo 6 (by decide)]; exact h.tk.keep (fun _ h => h) hs (fun j hj _ => hb 6 j (by decide) hj)
  · exact (hb 7 _ (by decide) h.ct).trans h.row
  · rw [eo 7 (by decide)]; exact h.ct
  · intro i j hj
    by_cases i3 : i = 3
    · subst i3; rw [e3] at hj
      rcases hd.n3 j hj with e | e
      · exact .inl (h.ow _ _ e)
      · exact .inr e
    by_cases i2 : i = 2
    · subst i2; rw [e2] at hj
      rcases hd.n2 j hj with e | e
      · exact .inl (h.ow _ _ e)
      · exact .inr e
    by_cases i1 : i = 1
    · subst i1; rw [e1] at hj
      rcases hd.n1 j hj with e | e
      · exact .inl (h.ow _ _ e)
      · exact .inr e
    rw [eo i ⟨i1, i2, i3⟩] at hj
    exact .inl (h.ow _ _ hj)
  · intro j hj
    rcases hj with e | e
    · exact Nat.lt_of_lt_of_le (h.lt j e) hs
    · exact e.2
set_option maxRecDepth 100000 in
/-- what a commit answers -/
theorem tn_commit (h : TnX A o w own l K s L M E Q tk vT) (B : Nat → Prop) (a : Option Addr) (n c : Nat) (C : List Chg) (hc : CT B w a n c C) (hB : ∀ j, B j → ¬ own j) (hks : ∀ c ∈ C, c.key.size ≤ 9223372036854775807) (hO : s.O.length ≤ 900000) (hu : byM M ≤ 1000000000000) :
    Calls Tryz.prog 168 #[.pointer (some ⟨A.gs, 0, none⟩), .slice a n c] w fun e w' => e = .returned (.int .i64 (coE s L l.q M C)) ∧ (∃ o', TnX A o' w' (ownN own w w') l K (coS s L l.q M C) (coL s L l.q M C) (coM s L l.q M C) E Q tk vT) ∧ Did own w w' (ownN own w w') := by
  refine (commit_any A.gd A.gl A.gs (o 1) (o 2) (o 3) s L l.q M B a n c C w h.tri hc (fun j hj => ⟨fun ho => hB j hj (h.ow _ _ ho), fun ho => hB j hj (h.ow _ _ ho), fun ho => hB j hj (h.ow _ _ ho)⟩) hks hO hu).mono ?_
  rintro e w' ⟨rfl, pD, pL, pS, hT, hd⟩
  exact ⟨rfl, h.store hT hd, did_n hd.kept (fun j hj => by rcases hj with e | e | e <;> exact h.ow _ _ e)⟩
set_option maxRecDepth 100000 in
theorem tn_get (h : TnX A o w own l K s L M E Q tk vT) (hby : ∀ k, Byt (valM M k)) (k : ByteArray) :
    Calls Tryz.prog 57 #[.pointer (some ⟨A.gs, 0, none⟩), .string k] w fun e w' => ∃ a c, e = .returned (.tuple #[.slice a (valM M k).length c, .bool (hasM M k)]) ∧ w'.ownsRow w.heap.size 5 1 (.slice a (valM M k).length c) (valM M k).length (bv (valM M k)) ∧ Bts w' a (valM M k).length c (valM M k) ∧ Below w.heap.size w w' := by
  refine (get_any A.gs A.gl l.q _ (o 3) M k w h.tri.t).mono ?_
  rintro e w' ⟨v, rfl, hown, hb⟩
  obtain ⟨a, c, rfl, hm⟩ := Bts.of_owns hown (hby k)
  exact ⟨a, c, rfl, hown, hm, hb⟩
end
end Go.Proofs.YtipakjenggeflaaGreatDoor
