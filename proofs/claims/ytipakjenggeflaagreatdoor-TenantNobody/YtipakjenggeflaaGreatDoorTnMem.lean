/- A tenant in memory. No walk. -/
import Derived.Test.YtipakjenggeflaaGreatDoorTnRun
import Derived.Test.YtipakjenggeflaaGreatDoorPkam
import Derived.Test.YtipakjenggeflaaGreatDoorQMem
import Derived.Test.YtipakjenggeflaaGreatDoorPkas
import Derived.Test.YtipakjenggeflaaGreatDoorPkaa
import Derived.Test.YtipakjenggeflaaGreatDoorPkae
import Derived.Test.YtipakjenggeflaaGreatDoorPkag
import Derived.Laws.AppendOwn
import Derived.Deep.MidRow
namespace Go.Proofs.YtipakjenggeflaaGreatDoor
open Go.RowKit
set_option linter.unusedVariables false

/-- the blocks of a task -/
def oTask (N : Nat) (D : TD) (vF vO : Value) : Nat → Prop := fun k => (N ≤ k ∧ k ≤ D.g) ∨ vF.ownBlock = some k ∨ vO.ownBlock = some k
section
variable {D : TD} {w w' : World} {vF : Value} {k : Nat} {F : List Fr} {M : List Ps} {kd : Int} {vO : Value} {o : List Nat} {N : Nat}
set_option maxRecDepth 100000 in
/-- a task stays where its blocks stay -/
theorem Tm.keepT (h : Tm D w vF F M k kd vO o) (hk : TDK D) (hn : NewD N D) (hs : w.heap.size ≤ w'.heap.size) (hb : ∀ j, oTask N D vF vO j → w'.heap[j]? = w.heap[j]?) : Tm D w' vF F M k kd vO o := by
  have hlo := hk.lo
  refine ⟨(hb _ (.inl ⟨hn.g, Nat.le_refl _⟩)).trans h.row, h.mc.keep (hb _ (.inl ⟨hn.gm, by omega⟩)) (hb _ (.inl ⟨hn.gc, by omega⟩)) hs,
    h.oo.stay (fun hp p e hl => hb _ (.inl ⟨hn.aO hp p e, by have := hk.lO hp p e; omega⟩)) hs, h.ah.stay (fun hp p e hl => hb _ (.inl ⟨hn.aA hp p e, by have := hk.lA hp p e; omega⟩)) hs, ?_,
    own_keep h.fr (fun j e => hb j (.inr (.inl e))), own_keep h.od (fun j e => hb j (.inr (.inr e)))⟩
  obtain ⟨es, c, h1, h2⟩ := h.mp
  exact ⟨es, c, (hb _ (.inl ⟨hn.gM, by omega⟩)).trans h1, h2⟩
set_option maxRecDepth 100000 in
theorem TaT.keepT (h : TaT D w vF k F M kd vO o) (hk : TDK D) (hn : NewD N D) (hs : w.heap.size ≤ w'.heap.size) (hb : ∀ j, oTask N D vF vO j → w'.heap[j]? = w.heap[j]?) : TaT D w' vF k F M kd vO o := ⟨h.tm.keepT hk hn hs hb, h.tk, h.st⟩
set_option maxRecDepth 100000 in
theorem TaT.otlt (h : TaT D w vF k F M kd vO o) : ∀ j, oTask N D vF vO j → j < w.heap.size := fun j e => by
  rcases e with e | e | e
  · have := h.tm.lt; omega
  · exact (h.tm.fr.lt j e).2
  · exact (h.tm.od.lt j e).2
end
/-- the numbers of jobs that wait -/
def nmL (n m : Nat) : List Int := (List.range m).map fun i => ((n + i : Nat) : Int)
/-- a search behind so many tries (of a history's text and a code's); or none -/
def TkM (w : World) (own : Nat → Prop) (v : Value) (l : Lm) : Option (Nat × List Int × List Int) → Prop
  | none => v = .pointer none
  | some (k, hb, cb) => ∃ D N vF F M kd vO o, v = .pointer (some ⟨D.g, 0, none⟩) ∧ TDK D ∧ NewD N D ∧ TaT D w vF k F M kd vO o ∧ (D.l = (rdK cb).1 ∧ D.fu = l.fu ∧ D.bu = l.bu ∧ D.ops = opH hb) ∧ ∀ j, oTask N D vF vO j → own j
set_option maxRecDepth 100000 in
theorem TkM.keep {w w' : World} {own own' : Nat → Prop} {v : Value} {l : Lm} {k : Option (Nat × List Int × List Int)} (h : TkM w own v l k) (ho : ∀ j, own j → own' j) (hs : w.heap.size ≤ w'.heap.size) (hb : ∀ j, own j → j < w.heap.size → w'.heap[j]? = w.heap[j]?) : TkM w' own' v l k := by
  match k, h with
  | none, h => exact h
  | some (k, hb2, cb), h =>
    obtain ⟨D, N, vF, F, M, kd, vO, o, h2, h3, h4, h5, h6, h7⟩ := h
    exact ⟨D, N, vF, F, M, kd, vO, o, h2, h3, h4, h5.keepT h3 h4 hs (fun j hj => hb j (h7 j hj) (h5.otlt j hj)), h6, fun j hj => ho j (h7 j hj)⟩
/-- where the parts of a tenant lie -/
structure Ad where
  gd : Nat
  gl : Nat
  gs : Nat
  gg : Nat
  gq : Nat
  gt : Nat
abbrev tnA (A : Ad) (l : Lm) (vT : Value) : Array Value := #[.int .i64 l.q, .int .i64 l.n, .int .i64 l.fu, .int .i64 l.bu, .pointer (some ⟨A.gs, 0, none⟩), .pointer (some ⟨A.gg, 0, none⟩), .pointer (some ⟨A.gq, 0, none⟩), vT]
/-- the parts of a tenant in memory, side by side (o: whose block is whose) -/
structure TnX (A : Ad) (o : Nat → Nat → Prop) (w : World) (own : Nat → Prop) (l : Lm) (K : List Int) (s : DS) (L : LS) (M : List Pr) (E : List (List Int)) (Q : List Int) (k : Option (Nat × List Int × List Int)) (vT : Value) : Prop where
  tri : Tri w A.gd A.gl A.gs (o 1) (o 2) (o 3) s L l.q M
  lg : Lg w (o 4) A.gg K E
  qu : Qm w A.gq 8 Q
  cq : o 5 A.gq
  tk : TkM w (o 6) vT l k
  row : w.heap[A.gt]? = some (.cells (tnA A l vT) 84 (0, 0))
  ct : o 7 A.gt
  dj : ∀ i i' j, o i j → o i' j → i = i'
  ow : ∀ i j, o i j → own j
  lt : ∀ j, own j → j < w.heap.size
/-- the search is that of the first job that waits -/
def TkOf (T : TS) (k : Option Nat) (tk : Option (Nat × List Int × List Int)) : Prop := (k = none ∧ tk = none) ∨ ∃ n x W, k = some n ∧ T.W = x :: W ∧ tk = some (n, jobH T x, jobC T x)
/-- a tenant -/
def Tn (A : Ad) (w : World) (own : Nat → Prop) (l : Lm) (K : List Int) (X : TX) (k : Option Nat) : Prop := ∃ o tk vT, TnX A o w own l K X.s X.L X.T.M (X.T.E.map enL) (nmL X.T.E.length X.T.W.length) tk vT ∧ TI X.T ∧ LmOk l ∧ TkOf X.T k tk
section
variable {A : Ad} {o : Nat → Nat → Prop} {w w' : World} {own own2 : Nat → Prop} {l : Lm} {K : List Int} {s : DS} {L : LS} {M : List Pr} {E : List (List Int)} {Q : List Int} {tk : Option (Nat × List Int × List Int)} {X : TX} {k : Option Nat} {vT : Value}
set_option maxRecDepth 100000 in
theorem TnX.keep (h : TnX A o w own l K s L M E Q tk vT) (hs : w.heap.size ≤ w'.heap.size) (hos : w'.os = w.os ∧ w'.tape = w.tape ∧ w'.output = w.output) (hb : ∀ j, own j → w'.heap[j]? = w.heap[j]?) : TnX A o w' own l K s L M E Q tk vT := by
  have hK : Kept (fun j => ¬ own j) w w' := ⟨hos.1, hos.2.1, hos.2.2, hs, fun j _ ho => hb j (Classical.byContradiction ho)⟩
  have hd : ∀ i j, o i j → ¬ ¬ own j := fun i j ho hn => hn (h.ow i j ho)
  exact ⟨⟨h.tri.d.kept hK (hd 1), h.tri.l.kept hK (hd 2), h.tri.t.kept hK (hd 3), h.tri.ld, h.tri.sd, h.tri.sl⟩, h.lg.kept hK (hd 4), h.qu.keep (hb _ (h.ow _ _ h.cq)), h.cq,
    h.tk.keep (fun _ h => h) hs (fun j hj _ => hb j (h.ow _ _ hj)), (hb _ (h.ow _ _ h.ct)).trans h.row, h.ct, h.dj, h.ow, fun j hj => Nat.lt_of_lt_of_le (h.lt j hj) hs⟩
set_option maxRecDepth 100000 in
theorem TnX.below (h : TnX A o w own l K s L M E Q tk vT) (hb : Below w.heap.size w w') : TnX A o w' own l K s L M E Q tk vT := h.keep hb.size ⟨hb.os, hb.tape, hb.output⟩ (fun j hj => hb.block j (h.lt j hj))
set_option maxRecDepth 100000 in
theorem TnX.kept (h : TnX A o w own l K s L M E Q tk vT) (hb : Kept own2 w w') (ho : ∀ j, own j → ¬ own2 j) : TnX A o w' own l K s L M E Q tk vT := h.keep hb.size ⟨hb.os, hb.tape, hb.output⟩ (fun j hj => hb.block j (h.lt j hj) (ho j hj))
set_option maxRecDepth 100000 in
/-- its cells -/
theorem TnX.cell (h : TnX A o w own l K s L M E Q tk vT) (i : Nat) : w.cell? ⟨A.gt, i, none⟩ = (tnA A l vT)[i]? := cell_of_row _ A.gt i _ _ (0, 0) h.row
set_option maxRecDepth 100000 in
theorem TnX.c4 (h : TnX A o w own l K s L M E Q tk vT) : w.cell? ⟨A.gt, 4, none⟩ = some (.pointer (some ⟨A.gs, 0, none⟩)) := h.cell 4
/-- what is owned besides, behind a call that changes it -/
def ownN (own : Nat → Prop) (w w' : World) : Nat → Prop := fun j => own j ∨ (w.heap.size ≤ j ∧ j < w'.heap.size)
set_option maxRecDepth 100000 in
theorem did_n {own own2 : Nat → Prop} {w w' : World} (h : Kept own2 w w') (hs : ∀ j, own2 j → own j) : Did own w w' (ownN own w w') := ⟨⟨h.os, h.tape, h.output, h.size, fun j hj hn => h.block j hj (fun h2 => hn (hs j h2))⟩, fun _ h => h⟩
/-- one family of blocks is another one now -/
def setI (o : Nat → Nat → Prop) (i : Nat) (p : Nat → Prop) : Nat → Nat → Prop := fun i' j => if i' = i then p j else o i' j
set_option maxRecDepth 100000 in
theorem setI_same (o : Nat → Nat → Prop) (i : Nat) (p : Nat → Prop) : setI o i p i = p := by funext j; exact if_pos rfl
set_option maxRecDepth 100000 in
theorem setI_other (o : Nat → Nat → Prop) {i i' : Nat} (p : Nat → Prop) (h : i' ≠ i) : setI o i p i' = o i' := by funext j; exact if_neg h
set_option maxRecDepth 100000 in
theorem setI_dj {i0 : Nat} {p : Nat → Prop} {N : Nat} (hd : ∀ i i' j, o i j → o i' j → i = i') (hl : ∀ i j, o i j → j < N) (hp : ∀ j, p j → o i0 j ∨ N ≤ j) : ∀ i i' j, setI o i0 p i j → setI o i0 p i' j → i = i' := by
  intro i i' j h1 h2
  unfold setI at h1 h2
  by_cases e1 : i = i0 <;> by_cases e2 : i' = i0
  · rw [e1, e2]
  · rw [if_pos e1] at h1
    rw [if_neg e2] at h2
    rcases hp j h1 with h3 | h3
    · rw [e1]; exact hd _ _ _ h3 h2
    · have := hl _ _ h2; omega
  · rw [if_neg e1] at h1
    rw [if_pos e2] at h2
    rcases hp j h2 with h3 | h3
    · rw [e2]; exact hd _ _ _ h1 h3
    · have := hl _ _ h1; omega
  · rw [if_neg e1] at h1
    rw [if_neg e2] at h2
    exact hd _ _ _ h1 h2
end
end Go.Proofs.YtipakjenggeflaaGreatDoor
