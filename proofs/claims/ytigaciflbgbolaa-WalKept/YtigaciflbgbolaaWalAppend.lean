/- What Append answers. -/
import Derived.Test.YtigaciflbgbolaaWalWrite
namespace Go.Proofs.Ytigaciflbgbolaa
open Go.RowKit
set_option linter.unusedVariables false

/-- whether it comes to a write -/
def LS.go (L : LS) (s : DS) (b : List Int) : Bool := decide (b.length ≤ 16384) && decide (L.next + ns (20 + b.length) ≤ s.F.length) && !L.failed
set_option maxRecDepth 100000 in
theorem LS.go_iff {L : LS} {s : DS} {b : List Int} : L.go s b = true ↔ b.length ≤ 16384 ∧ L.next + ns (20 + b.length) ≤ s.F.length ∧ L.failed = false := by simp [LS.go, and_assoc]
def LS.wr (L : LS) (s : DS) (b : List Int) : DS × Int := s.apW L.next (prt (frmL ((L.T.length : Int) + 1) b))
/-- the answer, the disk and the log behind it -/
def apE (s : DS) (L : LS) (b : List Int) : Int := if 16384 < b.length then 5 else if s.F.length < L.next + ns (20 + b.length) then 11 else if L.failed then 14 else (L.wr s b).2
def apS (s : DS) (L : LS) (b : List Int) : DS := if L.go s b then (L.wr s b).1 else s
def apL (s : DS) (L : LS) (b : List Int) : LS := if L.go s b then (if (L.wr s b).2 = 0 then ⟨L.T ++ [b], L.next + ns (20 + b.length), L.failed⟩ else { L with failed := true }) else L
set_option maxRecDepth 100000 in
theorem ap_no {s : DS} {L : LS} {b : List Int} (h : L.go s b = false) : apS s L b = s ∧ apL s L b = L := by unfold apS apL; rw [h]; exact ⟨rfl, rfl⟩
set_option maxRecDepth 100000 in
theorem ap_yes {s : DS} {L : LS} {b : List Int} (h : L.go s b = true) : apE s L b = (L.wr s b).2 ∧ apS s L b = (L.wr s b).1 := by
  obtain ⟨h1, h2, h3⟩ := LS.go_iff.1 h
  unfold apE apS
  rw [if_neg (by omega), if_neg (by omega), h3, h]; exact ⟨rfl, rfl⟩
set_option maxRecDepth 100000 in
theorem ap_ok {s : DS} {L : LS} {b : List Int} (h : L.go s b = true) (h0 : (L.wr s b).2 = 0) : apL s L b = ⟨L.T ++ [b], L.next + ns (20 + b.length), L.failed⟩ := by unfold apL; rw [h, if_pos rfl, if_pos h0]
set_option maxRecDepth 100000 in
theorem ap_er {s : DS} {L : LS} {b : List Int} (h : L.go s b = true) (h0 : (L.wr s b).2 ≠ 0) : apL s L b = { L with failed := true } := by unfold apL; rw [h, if_pos rfl, if_neg h0]
/-- a log between two stores -/
structure LgX (w : World) (gl : Nat) (own : Nat → Prop) (gd : Nat) (T : List (List Int)) (next : Nat) (failed : Bool) (vt : Value) : Prop where
  row : w.heap[gl]? = some (.cells #[.pointer (some ⟨gd, 0, none⟩), vt, .int .i64 (next : Int), .bool failed] 77 (0, 0))
  tl : TL w (fun k => own k ∧ k ≠ gl) vt T
  og : own gl
  lt : ∀ k, own k → k < w.heap.size
section
variable {w : World} {gl : Nat} {own : Nat → Prop} {gd : Nat} {T : List (List Int)} {next : Nat} {failed : Bool} {vt : Value}
set_option maxRecDepth 100000 in
theorem LgX.c2 (h : LgX w gl own gd T next failed vt) : w.cell? ⟨gl, 2, none⟩ = some (.int .i64 (next : Int)) := by rw [cell_of_row w gl 2 _ _ (0, 0) h.row]; rfl
set_option maxRecDepth 100000 in
theorem LgX.fr (h : LgX w gl own gd T next failed vt) (j : Nat) : w.frozen? ⟨gl, j, none⟩ = false := frozen_of_row _ _ j _ _ h.row
set_option maxRecDepth 100000 in
theorem LgX.drew (h : LgX w gl own gd T next failed vt) : LgX w.drew gl own gd T next failed vt := ⟨h.row, h.tl.keep (fun _ _ _ => rfl) (Nat.le_refl _) (fun _ _ h => h), h.og, h.lt⟩
set_option maxRecDepth 100000 in
theorem LgX.setNext (h : LgX w gl own gd T next failed vt) (n : Nat) (h0 : TOk T) (h1 : T.length ≤ n) (h2 : n ≤ 4096) : LgR (w.setCell ⟨gl, 2, none⟩ (.int .i64 (n : Int))) gl own gd ⟨T, n, failed⟩ vt :=
  ⟨heap_setCell_same w gl 2 _ _ _ h.row, h.tl.keep (fun k _ ho => heap_setCell_other w ⟨gl, 2, none⟩ k _ ho.2) (by simp [World.setCell]) (fun _ _ h => h), h.og, fun k hk => by have := h.lt k hk; simpa [World.setCell] using this, h0, h1, h2⟩
end
set_option maxRecDepth 100000 in
/-- one text more in a log: the row behind an append, then the store of its slice -/
theorem LgR.more {wl w w6 : World} {gl : Nat} {own : Nat → Prop} {gd : Nat} {L : LS} {vt : Value} {xs : List Value} {a3 : Option Addr} {n c3 g4 cap4 : Nat} {l : List Int}
    (h : LgR w gl own gd L vt) (hta : TA w (fun k => own k ∧ k ≠ gl) vt L.T xs) (hbt : Bts w a3 n c3 l) (hfar : 0 < n → ∀ p, a3 = some p → ¬ own p.block ∧ wl.heap.size ≤ p.block) (hK : Kept own wl w)
    (ho : w6.ownsRow 0 38 1 (.slice (some ⟨g4, 0, none⟩) (L.T.length + 1) cap4) (L.T.length + 1) (xs ++ [.slice a3 n c3])) (hg : w.grownBy w6 vt.ownBlock) (hl : vt.ownBlock = some g4 ∨ g4 = w.heap.size) :
    w6.cell? ⟨gl, 1, none⟩ = some vt ∧ w6.frozen? ⟨gl, 1, none⟩ = false ∧ Bx (∃ own2 vt2, LgX (w6.setCell ⟨gl, 1, none⟩ (.slice (some ⟨g4, 0, none⟩) (L.T.length + 1) cap4)) gl own2 gd (L.T ++ [l]) L.next L.failed vt2 ∧ Kept own wl (w6.setCell ⟨gl, 1, none⟩ (.slice (some ⟨g4, 0, none⟩) (L.T.length + 1) cap4)) ∧ (∀ k, own k → own2 k) ∧ ∀ k, own2 k → own k ∨ (wl.heap.size ≤ k ∧ k < (w6.setCell ⟨gl, 1, none⟩ (.slice (some ⟨g4, 0, none⟩) (L.T.length + 1) cap4)).heap.size)) := by
  have hgl : vt.ownBlock ≠ some gl := fun e => (h.tl.ob gl e).2 rfl
  have hglt := h.lt gl h.og
  have hrow6 : w6.heap[gl]? = some (.cells #[.pointer (some ⟨gd, 0, none⟩), vt, .int .i64 (L.next : Int), .bool L.failed] 77 (0, 0)) := (hg.block gl hglt (fun e => hgl e.symm)).trans h.row
  have hg4 : g4 ≠ gl := by
    rcases hl with h1 | h1
    · intro e; rw [e] at h1; exact hgl h1
    · omega
  have hg4l : g4 < w6.heap.size := (ho.lt g4 rfl).2
  have hsz : (w6.setCell ⟨gl, 1, none⟩ (.slice (some ⟨g4, 0, none⟩) (L.T.length + 1) cap4)).heap.size = w6.heap.size := by simp [World.setCell]
  have hvf : ∀ {k : Nat}, vt.ownBlock = some k → k < w.heap.size := fun {k} e => h.lt k (h.tl.ob k e).1
  refine ⟨by rw [cell_of_row w6 gl 1 _ _ (0, 0) hrow6]; rfl, frozen_of_row _ _ 1 _ _ hrow6, ⟨fun k => own k ∨ k = g4 ∨ (0 < n ∧ ∃ p, a3 = some p ∧ p.block = k), _, ⟨heap_setCell_same w6 gl 1 _ _ _ hrow6, ?_, .inl h.og, fun k hk => ?_⟩, ?_, fun k hk => .inl hk, fun k hk => ?_⟩⟩
  · have hcar : ∀ {ai : Option Addr} {li ci : Nat} {y : List Int}, Bts w ai li ci y → (0 < li → ∀ p, ai = some p → vt.ownBlock ≠ some p.block ∧ p.block ≠ gl) → Bts (w6.setCell ⟨gl, 1, none⟩ (.slice (some ⟨g4, 0, none⟩) (L.T.length + 1) cap4)) ai li ci y ∧ (0 < li → ∀ p, ai = some p → (Value.slice (some ⟨g4, 0, none⟩) (L.T.length + 1) cap4).ownBlock ≠ some p.block) := by
      intro ai li ci y hy hn
      refine ⟨hy.keep (fun hp p e => (heap_setCell_other w6 ⟨gl, 1, none⟩ p.block _ (hn hp p e).2).trans (hg.block _ (hy.lt hp e) (fun hh => (hn hp p e).1 hh.symm))) (by rw [hsz]; exact hg.size), fun hp p e => ?_⟩
      show some g4 ≠ some p.block
      rcases hl with h1 | h1
      · rw [← h1]; exact (hn hp p e).1
      · intro e2
        have e4 : g4 = p.block := Option.some.inj e2
        have := hy.lt hp e
        omega
    refine ⟨⟨xs ++ [.slice a3 n c3], ?_, fun i hi => ?_⟩, fun k hk => ?_⟩
    · rw [List.length_append]
      refine ⟨ho.1, ?_⟩
      rcases ho.2 with h3 | ⟨g', cap', cur, hv, hgb, hh, r⟩
      · exact .inl h3
      · refine .inr ⟨g', cap', cur, hv, hgb, ?_, r⟩
        have e : g' = g4 := by injection hv with e1; injection e1 with e1; injection e1 with e1; exact e1.symm
        rw [e] at hh ⊢
        exact (heap_setCell_other w6 ⟨gl, 1, none⟩ g4 _ hg4).trans hh
    · rw [List.length_append] at hi
      by_cases hiL : i < L.T.length
      · obtain ⟨ai, li, ci, e1, e2, e3⟩ := hta.hx i hiL
        obtain ⟨f1, f2⟩ := hcar e2 (fun hp p e => ⟨(e3 hp p e).2, (e3 hp p e).1.2⟩)
        refine ⟨ai, li, ci, by rw [List.getElem?_append_left (by have := hta.hxl; omega)]; exact e1, ?_, fun hp p e => ⟨⟨.inl (e3 hp p e).1.1, (e3 hp p e).1.2⟩, f2 hp p e⟩⟩
        rw [List.getD_eq_getElem?_getD, List.getElem?_append_left hiL, ← List.getD_eq_getElem?_getD]; exact f1
      · obtain rfl : i = L.T.length := by simp at hi; omega
        have hfar2 : 0 < n → ∀ p, a3 = some p → vt.ownBlock ≠ some p.block ∧ p.block ≠ gl := fun hp p e => ⟨fun e2 => (hfar hp p e).1 (h.tl.ob _ e2).1, fun e2 => (hfar hp p e).1 (by rw [e2]; exact h.og)⟩
        obtain ⟨f1, f2⟩ := hcar hbt hfar2
        refine ⟨a3, n, c3, by rw [List.getElem?_append_right (by have := hta.hxl; omega), hta.hxl, Nat.sub_self]; rfl, ?_, fun hp p e => ⟨⟨.inr (.inr ⟨hp, p, e, rfl⟩), (hfar2 hp p e).2⟩, f2 hp p e⟩⟩
        rw [List.getD_eq_getElem?_getD, List.getElem?_append_right (Nat.le_refl _), Nat.sub_self]; exact f1
    · have e : g4 = k := by simpa [Value.ownBlock] using hk
      rw [← e]; exact ⟨.inr (.inl rfl), hg4⟩
  · rw [hsz]
    rcases hk with hk | hk | ⟨hp, p, e, rfl⟩
    · exact Nat.lt_of_lt_of_le (h.lt k hk) hg.size
    · rw [hk]; exact hg4l
    · exact Nat.lt_of_lt_of_le (hbt.lt hp e) hg.size
  · refine ⟨hg.os.trans hK.os, hg.tape.trans hK.tape, hg.output.trans hK.output, by rw [hsz]; exact Nat.le_trans hK.size hg.size, fun k hk hno => ?_⟩
    rw [heap_setCell_other w6 ⟨gl, 1, none⟩ k _ (by intro e; rw [e] at hno; exact hno h.og), hg.block k (Nat.lt_of_lt_of_le hk hK.size) (fun e => hno (h.tl.ob k e.symm).1)]
    exact hK.block k hk hno
  · rw [hsz]
    rcases hk with hk | hk | ⟨hp, p, e, rfl⟩
    · exact .inl hk
    · rcases hl with h1 | h1
      · left; rw [hk]; exact (h.tl.ob g4 h1).1
      · right; rw [hk]; exact ⟨by have := hK.size; omega, hg4l⟩
    · exact .inr ⟨(hfar hp p e).2, Nat.lt_of_lt_of_le (hbt.lt hp e) hg.size⟩
end Go.Proofs.Ytigaciflbgbolaa
