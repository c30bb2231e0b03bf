/- Two requests, one behind the other. No walk. -/
import Derived.Test.YtdameoejigpnhaaGreatDoorWrj
namespace Go.Proofs.YtdameoejigpnhaaGreatDoor
open Go.RowKit
set_option linter.unusedVariables false

set_option maxRecDepth 100000 in
theorem idl_no {B : List Int} {s : WS} (hf : fldQ wp0 ws0 B = some s) (hB : B ≠ []) : idl (.ok s) = false := by
  have hl : B.length ≠ 0 := fun h => hB (List.length_eq_zero_iff.1 h)
  have hc := (fld_cnt wp0 B ws0 s hf).1 0 rfl
  cases s with
  | done x => rfl
  | head h l c u =>
    rcases hc with g | g
    · have e : c = 0 + B.length := by simpa [WS.cnt] using g
      show decide (c = 0) = false
      simp; omega
    · cases g
  | fix h n u => rfl
  | chk h c => rfl
set_option maxRecDepth 100000 in
/-- one byte of a whole request -/
theorem next_one {L : List Int} {X : WX} {s : WS} {j : Nat} (h : runQ wp0 ws0 L 0 = (X, L.length, 0)) (hj : j < L.length) (hs : fldQ wp0 ws0 (L.take j) = some s) :
    (wst wp0 s (L.getD j 0)).2 = 0 ∧ fldQ wp0 ws0 (L.take (j + 1)) = some (wst wp0 s (L.getD j 0)).1 ∧ (j + 1 = L.length → (wst wp0 s (L.getD j 0)).1 = .done X) ∧ (j + 1 ≠ L.length → (wst wp0 s (L.getD j 0)).1.over = false) := by
  obtain ⟨i, e1, e2, e3⟩ := run_okQ wp0 L ws0 0 X _ h
  rw [show i = L.length from by omega, List.take_length] at e3
  have ht : L.take (j + 1) = L.take j ++ [L.getD j 0] := by
    rw [List.take_add_one, List.getD_eq_getElem?_getD, List.getElem?_eq_getElem hj]; rfl
  have hf : fldQ wp0 ws0 (L.take (j + 1)) = fldQ wp0 s [L.getD j 0] := by rw [ht, fldQ_app, hs]; rfl
  have h0 : (wst wp0 s (L.getD j 0)).2 = 0 := by
    by_cases hz : (wst wp0 s (L.getD j 0)).2 = 0
    · exact hz
    · exfalso
      have hn : fldQ wp0 ws0 (L.take (j + 1)) = none := by rw [hf, fldQ_cons, if_pos hz]
      have hs2 : L = L.take (j + 1) ++ L.drop (j + 1) := (List.take_append_drop _ L).symm
      rw [hs2, fldQ_app, hn] at e3
      cases e3
  have h1 : fldQ wp0 ws0 (L.take (j + 1)) = some (wst wp0 s (L.getD j 0)).1 := by rw [hf, fldQ_cons, if_neg (by simpa using h0)]; rfl
  refine ⟨h0, h1, fun he => ?_, fun hne => ?_⟩
  · rw [he, List.take_length, e3] at h1
    exact (Option.some.inj h1).symm
  · obtain ⟨t, g1, g2⟩ := fld_beginQ wp0 h (j + 1) (by omega)
    rw [h1] at g1
    cases g1; exact g2
/-- where the reader stands behind k bytes of both -/
def NX (P Q : List Int) (k : Nat) (s : WS) : Prop := s.over = false ∧ ((k < P.length ∧ fldQ wp0 ws0 (P.take k) = some s) ∨ (P.length ≤ k ∧ k < P.length + Q.length ∧ fldQ wp0 ws0 (Q.take (k - P.length)) = some s) ∨ (k = P.length + Q.length ∧ s = ws0))
set_option maxRecDepth 100000 in
theorem NX.new {P Q : List Int} (h : 1 ≤ P.length) : NX P Q 0 ws0 := ⟨rfl, .inl ⟨by omega, rfl⟩⟩
set_option maxRecDepth 100000 in
theorem NX.put {P Q : List Int} {p q : WX} {k : Nat} {s : WS} (h : NX P Q k s) (hP : runQ wp0 ws0 P 0 = (p, P.length, 0)) (hQ : runQ wp0 ws0 Q 0 = (q, Q.length, 0)) (hp1 : 1 ≤ P.length) (hq1 : 1 ≤ Q.length) (hk : k < P.length + Q.length) :
    (wst wp0 s ((P ++ Q).getD k 0)).2 = 0 ∧ idl (.ok (wst wp0 s ((P ++ Q).getD k 0)).1) = false ∧
    ((k + 1 = P.length ∧ (wst wp0 s ((P ++ Q).getD k 0)).1 = .done p) ∨ (k + 1 = P.length + Q.length ∧ (wst wp0 s ((P ++ Q).getD k 0)).1 = .done q) ∨
     (k + 1 ≠ P.length ∧ k + 1 ≠ P.length + Q.length ∧ NX P Q (k + 1) (wst wp0 s ((P ++ Q).getD k 0)).1)) := by
  obtain ⟨ho, h1 | h1 | h1⟩ := h
  · obtain ⟨hk1, hf⟩ := h1
    have hg : (P ++ Q).getD k 0 = P.getD k 0 := by rw [List.getD_eq_getElem?_getD, List.getElem?_append_left hk1, ← List.getD_eq_getElem?_getD]
    rw [hg]
    obtain ⟨a1, a2, a3, a4⟩ := next_one hP hk1 hf
    refine ⟨a1, idl_no a2 (by intro e; have h9 := congrArg List.length e; simp only [List.length_take, List.length_nil] at h9; omega), ?_⟩
    by_cases he : k + 1 = P.length
    · exact .inl ⟨he, a3 he⟩
    · exact .inr (.inr ⟨he, by omega, a4 he, .inl ⟨by omega, a2⟩⟩)
  · obtain ⟨hk1, hk2, hf⟩ := h1
    have hg : (P ++ Q).getD k 0 = Q.getD (k - P.length) 0 := by rw [List.getD_eq_getElem?_getD, List.getElem?_append_right hk1, ← List.getD_eq_getElem?_getD]
    rw [hg]
    obtain ⟨a1, a2, a3, a4⟩ := next_one hQ (by omega) hf
    refine ⟨a1, idl_no a2 (by intro e; have h9 := congrArg List.length e; simp only [List.length_take, List.length_nil] at h9; omega), ?_⟩
    by_cases he : k + 1 = P.length + Q.length
    · exact .inr (.inl ⟨he, a3 (by omega)⟩)
    · refine .inr (.inr ⟨by omega, he, a4 (by omega), .inr (.inl ⟨by omega, by omega, ?_⟩)⟩)
      rw [show k + 1 - P.length = k - P.length + 1 from by omega]; exact a2
  · omega
set_option maxRecDepth 100000 in
/-- the request is taken -/
theorem NX.taken {P Q : List Int} {k : Nat} (hq1 : 1 ≤ Q.length) (h : k + 1 = P.length ∨ k + 1 = P.length + Q.length) : NX P Q (k + 1) ws0 := by
  refine ⟨rfl, ?_⟩
  rcases h with h | h
  · exact .inr (.inl ⟨by omega, by omega, by rw [show k + 1 - P.length = 0 from by omega]; rfl⟩)
  · exact .inr (.inr ⟨h, rfl⟩)
set_option maxRecDepth 100000 in
theorem NX.last {P Q : List Int} {k : Nat} {s : WS} (h : NX P Q k s) (hk : P.length + Q.length ≤ k) : s = ws0 := by
  obtain ⟨ho, h1 | h1 | h1⟩ := h
  · omega
  · omega
  · exact h1.2
/-- the reader and the bytes -/
structure NL (w5 wr : World) (g : Nat) (own : Nat → Prop) (al : Option Addr) (N cl : Nat) (L : List Int) (r : WR) : Prop where
  wat : Wat wr g own r
  low : ∀ k, own k → w5.heap.size ≤ k
  bel : Below w5.heap.size w5 wr
  bt : Bts wr al N cl L
  dj : 0 < N → ∀ p, al = some p → ¬ own p.block
variable {w5 wr w2 : World} {g : Nat} {own own2 : Nat → Prop} {al : Option Addr} {N cl : Nat} {L : List Int} {r r2 : WR}
set_option maxRecDepth 100000 in
theorem NL.step (h : NL w5 wr g own al N cl L r) (hd : Did own wr w2 own2) (hw : Wat w2 g own2 r2) : NL w5 w2 g own2 al N cl L r2 := by
  have hs := h.bel.size
  refine ⟨hw, fun k hk => ?_, h.bel.trans (hd.kept.low h.low hs), h.bt.keep (fun hp p e => hd.kept.block _ (h.bt.lt hp e) (h.dj hp p e)) hd.kept.size, fun hp p e ho => ?_⟩
  · rcases hd.new k hk with h1 | h1
    · exact h.low k h1
    · omega
  · rcases hd.new _ ho with h1 | h1
    · exact h.dj hp p e h1
    · have := h.bt.lt hp e; omega
set_option maxRecDepth 100000 in
theorem NL.below (h : NL w5 wr g own al N cl L r) (hb : Below wr.heap.size wr w2) : NL w5 w2 g own al N cl L r := ⟨wat_below h.wat hb, h.low, bstep h.bel hb, h.bt.below hb, h.dj⟩
end Go.Proofs.YtdameoejigpnhaaGreatDoor
