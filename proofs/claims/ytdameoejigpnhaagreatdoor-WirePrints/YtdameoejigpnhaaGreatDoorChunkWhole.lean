/- What Whole answers. -/
import Derived.Test.YtdameoejigpnhaaGreatDoorWre
namespace Go.Proofs.YtdameoejigpnhaaGreatDoor
open Go.RowKit
set_option linter.unusedVariables false

/-- what Whole answers: what is said, how many bytes, the error -/
def whV (x : Int) (l : List Int) : List Int × Nat × Int := if x < 0 ∨ 2048 < x then ([], 0, 2) else runW x.toNat ⟨0, 0, []⟩ l 0
set_option maxRecDepth 100000 in
theorem drop_hd (l : List Int) (k : Nat) (h : k < l.length) : l.drop k = l.getD k 0 :: l.drop (k + 1) := by
  rw [List.getD_eq_getElem?_getD, List.getElem?_eq_getElem h]; exact List.drop_eq_getElem_cons h
set_option maxRecDepth 100000 in
theorem run_byt (most : Nat) : ∀ (l : List Int) (s : CS) (k : Nat), Byt l → Byt s.body → Byt (runW most s l k).1
  | [], _, _, _, _ => Byt.nil
  | b :: r, s, k, hl, hs => by
    have hb : 0 ≤ b ∧ b ≤ 255 := hl b (by simp)
    have hr : Byt r := fun c hc => hl c (by simp [hc])
    have hs2 : Byt (stp most s b).1.body := by
      obtain ⟨ph, n, body⟩ := s
      by_cases h4 : ph = 4
      · subst h4
        have h9 : Byt (body ++ [b]) := Byt.append (l := body) hs (Byt.cons hb Byt.nil)
        show Byt (if n = 1 then ((⟨5, 0, body ++ [b]⟩, 0) : CS × Int) else (⟨4, n - 1, body ++ [b]⟩, 0)).1.body
        split <;> exact h9
      · have : (stp most ⟨ph, n, body⟩ b).1.body = body := by
          unfold Go.Proofs.YtdameoejigpnhaaGreatDoor.stp
          split <;> first | (exact absurd rfl h4) | skip
          all_goals (repeat' split)
          all_goals first | rfl | simp_all
        rw [this]; exact hs
    rw [runW_cons]
    split
    · exact Byt.nil
    · split
      · exact hs2
      · exact run_byt most r _ _ hr hs2
/-- the state of the loop -/
structure WL (w wr : World) (g : Nat) (m : Nat) (own : Nat → Prop) (s : CS) (l : List Int) (k : Nat) (T : List Int × Nat × Int) : Prop where
  rd : Rd wr g own m s
  low : ∀ k, own k → w.heap.size ≤ k
  bel : Below w.heap.size w wr
  run : runW m s (l.drop k) k = T
end Go.Proofs.YtdameoejigpnhaaGreatDoor
