/- A task in memory. No walk. Sets of places as bits: what is asked of them. What stays when new memory is made; steps as values. No walk. A task: its top frame, whether a try is due, whether it is over; whether a step does an operation; whether a position was met. -/
import Derived.Test.YtbjeeefkbmdmfaaTmKey
import Derived.Test.YtbjeeefkbmdmfaaLne
import Derived.Test.YtbjeeefkbmdmfaaVNew
import Derived.Test.YtbjeeefkbmdmfaaOrIn
import Derived.Test.YtbjeeefkbmdmfaaLnd
import Derived.WalkSmall
import Derived.BigQuiet
import Derived.Test.YtbjeeefkbmdmfaaVStep
import Derived.Deep.CutRange
namespace Go.Proofs.Ytbjeeefkbmdmfaa
open Go.RowKit
set_option linter.unusedVariables false
open Go.MapKept Go.Maps

/-- a frame as cells, a set as a cell -/
def frC (f : Fr) : List Value := [.int .u64 (f.x : Nat), .int .i64 (f.S.getD 0 0), .int .i64 (f.S.getD 1 0), .int .i64 (f.S.getD 2 0), .int .i64 (f.S.getD 3 0), .int .i64 (f.k : Nat)]
def seC (x : Nat) : List Value := [.int .u64 (x : Nat)]
set_option maxRecDepth 100000 in
theorem frC_len (f : Fr) : (frC f).length = 6 := rfl
set_option maxRecDepth 100000 in
theorem seC_len (x : Nat) : (seC x).length = 1 := rfl
set_option maxRecDepth 100000 in
theorem frC_one (f : Fr) : ∀ u ∈ frC f, u.oneCell' = true := by intro u hu; simp [frC] at hu; rcases hu with rfl | rfl | rfl | rfl | rfl | rfl <;> rfl
set_option maxRecDepth 100000 in
theorem seC_one (x : Nat) : ∀ u ∈ seC x, u.oneCell' = true := by intro u hu; simp [seC] at hu; subst hu; rfl
abbrev Sts := Ls seC 1
set_option maxRecDepth 100000 in
theorem Ls.st {w : World} {ao : Option Addr} {len cap : Nat} {L : List Nat} (h : Sts w ao len cap L) (i : Nat) (hi : i < len) : ∃ b off, ao = some ⟨b, off, none⟩ ∧ b < w.heap.size ∧ w.cell? ⟨b, off + i, none⟩ = some (.int .u64 (L.getD i 0 : Nat)) := by
  obtain ⟨b, off, e, hlt, hc⟩ := h.spot (by omega)
  have hi2 : i < L.length := by rw [h.len_eq]; exact hi
  have e1 : L.getD i 0 = L[i] := by rw [List.getD_eq_getElem?_getD, List.getElem?_eq_getElem hi2]; rfl
  have h1 := hc i hi2 0 (by decide)
  rw [Nat.mul_one, Nat.add_zero] at h1
  exact ⟨b, off, e, hlt, by rw [e1]; exact h1⟩
section
variable {α : Type} {en : α → List Value} {k : Nat} {w w' : World} {ao : Option Addr} {len cap : Nat} {L : List α}
set_option maxRecDepth 100000 in
theorem Ls.stay (h : Ls en k w ao len cap L) (hb : 0 < len → ∀ p, ao = some p → p.block < w.heap.size → w'.heap[p.block]? = w.heap[p.block]?) (hs : w.heap.size ≤ w'.heap.size) : Ls en k w' ao len cap L :=
  ⟨h.len_eq, h.le_cap, h.cap_le, h.nil, fun hp => by
    obtain ⟨b, off, e, hlt, hc⟩ := h.spot hp
    have h1 : w'.heap[b]? = w.heap[b]? := hb hp _ e hlt
    exact ⟨b, off, e, Nat.lt_of_lt_of_le hlt hs, fun i hi j hj => (World.cell?_of_block (w := w) h1).trans (hc i hi j hj)⟩⟩
set_option maxRecDepth 100000 in
theorem cell_map {w : World} {b off : Nat} {es : Array MapEntry} {c : Nat} (h : w.heap[b]? = some (.map es c)) : w.cell? ⟨b, off, none⟩ = none := by simp [World.cell?, h]
set_option maxRecDepth 100000 in
theorem Ls.nomap (hk : ∀ z, (en z).length = k) (h0 : 0 < k) (h : Ls en k w ao len cap L) (hp : 0 < len) {p : Addr} (e : ao = some p) {gM : Nat} {es : Array MapEntry} {c : Nat} (hm : w.heap[gM]? = some (.map es c)) : p.block ≠ gM := by
  obtain ⟨b, off, e2, _, hc⟩ := h.spot hp
  rw [e2] at e
  cases e
  intro e3
  have hl : 0 < L.length := by rw [h.len_eq]; exact hp
  have h1 := hc 0 hl 0 h0
  have e3 : b = gM := e3
  rw [e3, cell_map hm, List.getElem?_eq_getElem (by rw [hk]; exact h0)] at h1
  cases h1
end
/-- what never changes of a task -/
structure TD where
  g : Nat
  gm : Nat
  gc : Nat
  cc : Nat
  fu : Int
  bu : Int
  aO : Option Addr
  n : Nat
  cO : Nat
  dn : Nat
  aA : Option Addr
  cA : Nat
  gM : Nat
  l : List Ic
  ops : List Opr
  A : List Nat
structure TDK (D : TD) : Prop where
  lk : IcsK D.l
  ok : OrsK D.ops
  fu : 0 ≤ D.fu ∧ D.fu ≤ 10000
  bu : 0 ≤ D.bu ∧ D.bu ≤ 1073741824
  n64 : D.n ≤ 64
  len : D.ops.length = D.n
  dn : D.dn < 2 ^ D.n ∧ ∀ i, i < D.n → D.dn.testBit i = (opN D.ops i).d
  ah : ∀ i, i < D.n → D.A.getD i 0 < 2 ^ D.n ∧ ∀ k, k < D.n → (D.A.getD i 0).testBit k = befO (opN D.ops k) (opN D.ops i)
  lo : D.gm < D.g ∧ D.gc < D.g ∧ D.gM < D.g
  lO : 0 < D.n → ∀ p, D.aO = some p → p.block < D.g
  lA : 0 < D.n → ∀ p, D.aA = some p → p.block < D.g
abbrev tmA (D : TD) (vF : Value) (t : Nat) (kd : Int) (vO : Value) : Array Value := #[.pointer (some ⟨D.gm, 0, none⟩), .int .i64 D.fu, .int .i64 D.bu, .slice D.aO D.n D.cO, .int .u64 (D.dn : Nat), .slice D.aA D.n D.cA, .map (some D.gM), vF, .int .i64 (t : Nat), .int .i64 kd, vO]
/-- a task in memory -/
structure Tm (D : TD) (w : World) (vF : Value) (F : List Fr) (M : List Ps) (t : Nat) (kd : Int) (vO : Value) (o : List Nat) : Prop where
  row : w.heap[D.g]? = some (.cells (tmA D vF t kd vO) 67 (0, 0))
  mc : Mc w D.gm D.gc D.cc D.l
  oo : Ors w D.aO D.n D.cO D.ops
  ah : Sts w D.aA D.n D.cA D.A
  mp : ∃ es clock, w.heap[D.gM]? = some (.map es clock) ∧ Km Try.prog 72 (.agg #[]) es clock (M.map psV)
  fr : w.ownsRow (D.g + 1) 100 6 vF F.length (F.flatMap frC)
  od : w.ownsRow (D.g + 1) 3 1 vO o.length ((orI o).flatMap ivC)
/-- what may be changed -/
def ownT (D : TD) (vF : Value) : Nat → Prop := fun j => j = D.g ∨ j = D.gM ∨ vF.ownBlock = some j
section
variable {D : TD} {w w' : World} {vF : Value} {F : List Fr} {M : List Ps} {t : Nat} {kd : Int} {vO : Value} {o : List Nat}
set_option maxRecDepth 100000 in
theorem Tm.lt (h : Tm D w vF F M t kd vO o) : D.g < w.heap.size := (Array.getElem?_eq_some_iff.1 h.row).1
set_option maxRecDepth 100000 in
theorem Tm.ltM (h : Tm D w vF F M t kd vO o) : D.gM < w.heap.size := by obtain ⟨es, c, h1, _⟩ := h.mp; exact (Array.getElem?_eq_some_iff.1 h1).1
set_option maxRecDepth 100000 in
theorem Tm.ltF (h : Tm D w vF F M t kd vO o) : ∀ j, vF.ownBlock = some j → D.g + 1 ≤ j ∧ j < w.heap.size := h.fr.lt
set_option maxRecDepth 100000 in
theorem Tm.froz (h : Tm D w vF F M t kd vO o) (i : Nat) : w.frozen? ⟨D.g, i, none⟩ = false := frozen_of_row _ D.g i _ _ h.row
set_option maxRecDepth 100000 in
/-- what is low, and no map, stays -/
theorem Tm.low (h : Tm D w vF F M t kd vO o) (hk : TDK D) (hK : Kept (ownT D vF) w w') : ∀ j, j < D.g → j ≠ D.gM → w'.heap[j]? = w.heap[j]? := fun j hj hm => hK.block j (Nat.lt_trans hj h.lt) (fun e => by
    rcases e with e | e | e
    · omega
    · exact hm e
    · have := (h.ltF j e).1; omega)
set_option maxRecDepth 100000 in
theorem Tm.gmM (h : Tm D w vF F M t kd vO o) : D.gm ≠ D.gM := by
  obtain ⟨es, c, h1, _⟩ := h.mp
  intro e
  have := h.mc.row
  rw [e, h1] at this; cases this
set_option maxRecDepth 100000 in
theorem Tm.gcM (h : Tm D w vF F M t kd vO o) : D.gc ≠ D.gM := by
  obtain ⟨es, c, h1, _⟩ := h.mp
  exact Ls.nomap icC_len (by decide) h.mc.ics h.mc.ln.1 rfl h1
set_option maxRecDepth 100000 in
theorem Tm.odk (h : Tm D w vF F M t kd vO o) (hk : TDK D) (hK : Kept (ownT D vF) w w') : w'.ownsRow (D.g + 1) 3 1 vO o.length ((orI o).flatMap ivC) :=
  own_keep h.od (fun j e => hK.block j (h.od.lt j e).2 (fun x => by
    have := (h.od.lt j e).1
    have := hk.lo
    rcases x with x | x | x
    · omega
    · omega
    · exact own_apart h.od h.fr (by decide) j e x))
set_option maxRecDepth 100000 in
/-- what was owned changes -/
theorem Tm.upd (h : Tm D w vF F M t kd vO o) (hk : TDK D) (hK : Kept (ownT D vF) w w') {vF' : Value} {F' : List Fr} {M' : List Ps} {t' : Nat} {kd' : Int} {vO' : Value} {o' : List Nat}
    (row : w'.heap[D.g]? = some (.cells (tmA D vF' t' kd' vO') 67 (0, 0)))
    (mp : ∃ es clock, w'.heap[D.gM]? = some (.map es clock) ∧ Km Try.prog 72 (.agg #[]) es clock (M'.map psV))
    (fr : w'.ownsRow (D.g + 1) 100 6 vF' F'.length (F'.flatMap frC))
    (od : w'.ownsRow (D.g + 1) 3 1 vO' o'.length ((orI o').flatMap ivC)) : Tm D w' vF' F' M' t' kd' vO' o' := by
  have hl := h.low hk hK
  obtain ⟨es, c, hm, _⟩ := h.mp
  exact ⟨row, h.mc.keep (hl _ hk.lo.1 h.gmM) (hl _ hk.lo.2.1 h.gcM) hK.size,
    h.oo.stay (fun hp p e _ => hl _ (hk.lO hp p e) (Ls.nomap orC_len (by decide) h.oo hp e hm)) hK.size,
    h.ah.stay (fun hp p e _ => hl _ (hk.lA hp p e) (Ls.nomap seC_len (by decide) h.ah hp e hm)) hK.size, mp, fr, od⟩
set_option maxRecDepth 100000 in
theorem Tm.below (h : Tm D w vF F M t kd vO o) (hb : Below w.heap.size w w') : Tm D w' vF F M t kd vO o := by
  refine ⟨(hb.block _ h.lt).trans h.row, h.mc.below hb, h.oo.below hb, h.ah.below hb, ?_, owns_below h.fr hb, owns_below h.od hb⟩
  have hl := h.ltM
  obtain ⟨es, c, h1, h2⟩ := h.mp
  exact ⟨es, c, (hb.block _ hl).trans h1, h2⟩
set_option maxRecDepth 100000 in
/-- it stays where nothing of it is changed -/
theorem Tm.keep (h : Tm D w vF F M t kd vO o) (hs : w.heap.size ≤ w'.heap.size) (hb : ∀ j, j < w.heap.size → (j ≤ D.g ∨ vF.ownBlock = some j ∨ vO.ownBlock = some j) → w'.heap[j]? = w.heap[j]?) (hk : TDK D) : Tm D w' vF F M t kd vO o := by
  refine ⟨(hb _ h.lt (.inl (Nat.le_refl _))).trans h.row, h.mc.keep (hb _ h.mc.lt.1 (.inl (Nat.le_of_lt hk.lo.1))) (hb _ h.mc.lt.2 (.inl (Nat.le_of_lt hk.lo.2.1))) hs,
    h.oo.stay (fun hp p e hl => hb _ hl (.inl (Nat.le_of_lt (hk.lO hp p e)))) hs, h.ah.stay (fun hp p e hl => hb _ hl (.inl (Nat.le_of_lt (hk.lA hp p e)))) hs, ?_, own_keep h.fr (fun j e => hb j (h.fr.lt j e).2 (.inr (.inl e))), own_keep h.od (fun j e => hb j (h.od.lt j e).2 (.inr (.inr e)))⟩
  have hl := h.ltM
  obtain ⟨es, c, h1, h2⟩ := h.mp
  exact ⟨es, c, (hb _ hl (.inl (Nat.le_of_lt hk.lo.2.2))).trans h1, h2⟩
set_option maxRecDepth 100000 in
theorem Tm.drewN (h : Tm D w vF F M t kd vO o) (q : Nat) : Tm D (w.drewN q) vF F M t kd vO o := h.below (below_drewN (Below.refl _ _) q)
set_option maxRecDepth 100000 in
/-- the task's own block is written -/
theorem Tm.set (h : Tm D w vF F M t kd vO o) (hk : TDK D) {i : Nat} {u vF' : Value} {t' : Nat} {kd' : Int} {vO' : Value} {o' : List Nat} {F' : List Fr} (hr : (w.setCell ⟨D.g, i, none⟩ u).heap[D.g]? = some (.cells (tmA D vF' t' kd' vO') 67 (0, 0)))
    (fr : w.ownsRow (D.g + 1) 100 6 vF' F'.length (F'.flatMap frC)) (od : w.ownsRow (D.g + 1) 3 1 vO' o'.length ((orI o').flatMap ivC)) : Tm D (w.setCell ⟨D.g, i, none⟩ u) vF' F' M t' kd' vO' o' := by
  have hK : Kept (ownT D vF) w (w.setCell ⟨D.g, i, none⟩ u) := (Kept.refl _ _).setCell (g := D.g) (.inl (.inl rfl)) i u
  obtain ⟨es, c, h1, h2⟩ := h.mp
  refine h.upd hk hK hr ⟨es, c, (heap_setCell_other w ⟨D.g, i, none⟩ D.gM u (by have := hk.lo; show D.gM ≠ D.g; omega)).trans h1, h2⟩ ?_ ?_
  · exact ownsRow_setCell_other fr (a := ⟨D.g, i, none⟩) (fun e => by have := (fr.lt _ e).1; simp only at this; omega) _
  · exact ownsRow_setCell_other od (a := ⟨D.g, i, none⟩) (fun e => by have := (od.lt _ e).1; simp only at this; omega) _
set_option maxRecDepth 100000 in
theorem Tm.try1 (h : Tm D w vF F M t kd vO o) (hk : TDK D) : Tm D (w.setCell ⟨D.g, 8, none⟩ (.int .i64 ((t : Int) + 1))) vF F M (t + 1) kd vO o :=
  h.set hk (heap_setCell_same w D.g 8 _ _ _ h.row) h.fr h.od
set_option maxRecDepth 100000 in
theorem Tm.kind (h : Tm D w vF F M t kd vO o) (hk : TDK D) (k : Int) : Tm D (w.setCell ⟨D.g, 9, none⟩ (.int .i64 k)) vF F M t k vO o :=
  h.set hk (heap_setCell_same w D.g 9 _ _ _ h.row) h.fr h.od
set_option maxRecDepth 100000 in
theorem Tm.order (h : Tm D w vF F M t kd vO o) (hk : TDK D) {v : Value} {p : List Nat} (hv : w.ownsRow (D.g + 1) 3 1 v p.length ((orI p).flatMap ivC)) : Tm D (w.setCell ⟨D.g, 10, none⟩ v) vF F M t kd v p :=
  h.set hk (heap_setCell_same w D.g 10 _ _ _ h.row) h.fr hv
set_option maxRecDepth 100000 in
theorem Tm.frames (h : Tm D w vF F M t kd vO o) (hk : TDK D) {v : Value} {F' : List Fr} (hv : w.ownsRow (D.g + 1) 100 6 v F'.length (F'.flatMap frC)) : Tm D (w.setCell ⟨D.g, 7, none⟩ v) v F' M t kd vO o :=
  h.set hk (heap_setCell_same w D.g 7 _ _ _ h.row) hv h.od
set_option maxRecDepth 100000 in
/-- the cells of the task -/
theorem Tm.cells (h : Tm D w vF F M t kd vO o) : w.cell? ⟨D.g, 0, none⟩ = some (.pointer (some ⟨D.gm, 0, none⟩)) ∧ w.cell? ⟨D.g, 1, none⟩ = some (.int .i64 D.fu) ∧ w.cell? ⟨D.g, 2, none⟩ = some (.int .i64 D.bu) ∧ w.cell? ⟨D.g, 3, none⟩ = some (.slice D.aO D.n D.cO) ∧ w.cell? ⟨D.g, 4, none⟩ = some (.int .u64 (D.dn : Nat)) ∧ w.cell? ⟨D.g, 5, none⟩ = some (.slice D.aA D.n D.cA) ∧ w.cell? ⟨D.g, 6, none⟩ = some (.map (some D.gM)) ∧ w.cell? ⟨D.g, 7, none⟩ = some vF ∧ w.cell? ⟨D.g, 8, none⟩ = some (.int .i64 (t : Nat)) ∧ w.cell? ⟨D.g, 9, none⟩ = some (.int .i64 kd) ∧ w.cell? ⟨D.g, 10, none⟩ = some vO :=
  ⟨cell_of_row _ D.g 0 _ _ (0, 0) h.row, cell_of_row _ D.g 1 _ _ (0, 0) h.row, cell_of_row _ D.g 2 _ _ (0, 0) h.row, cell_of_row _ D.g 3 _ _ (0, 0) h.row, cell_of_row _ D.g 4 _ _ (0, 0) h.row, cell_of_row _ D.g 5 _ _ (0, 0) h.row, cell_of_row _ D.g 6 _ _ (0, 0) h.row, cell_of_row _ D.g 7 _ _ (0, 0) h.row, cell_of_row _ D.g 8 _ _ (0, 0) h.row, cell_of_row _ D.g 9 _ _ (0, 0) h.row, cell_of_row _ D.g 10 _ _ (0, 0) h.row⟩
set_option maxRecDepth 100000 in
/-- where the frames lie -/
theorem Tm.form {B : List Fr} {f : Fr} (h : Tm D w vF (B ++ [f]) M t kd vO o) : ∃ gF cF, vF = .slice (some ⟨gF, 0, none⟩) (B.length + 1) cF ∧ D.g + 1 ≤ gF ∧ B.length + 1 ≤ cF ∧ cF ≤ maxLen := by
  have h1 := h.fr
  rcases h1.2 with ⟨_, h0⟩ | ⟨gF, cF, cur, e, hb, _, hc, hm, _⟩
  · simp at h0
  · rw [List.length_append] at e hc
    exact ⟨gF, cF, e, hb, hc, hm⟩
set_option maxRecDepth 100000 in
/-- the cells of the top frame -/
theorem Tm.top {B : List Fr} {f : Fr} {gF cF : Nat} (h : Tm D w (.slice (some ⟨gF, 0, none⟩) (B.length + 1) cF) (B ++ [f]) M t kd vO o) :
    w.cell? ⟨gF, B.length * 6, none⟩ = some (.int .u64 (f.x : Nat)) ∧ w.cell? ⟨gF, B.length * 6 + 1, none⟩ = some (.int .i64 (f.S.getD 0 0)) ∧ w.cell? ⟨gF, B.length * 6 + 2, none⟩ = some (.int .i64 (f.S.getD 1 0)) ∧ w.cell? ⟨gF, B.length * 6 + 3, none⟩ = some (.int .i64 (f.S.getD 2 0)) ∧ w.cell? ⟨gF, B.length * 6 + 4, none⟩ = some (.int .i64 (f.S.getD 3 0)) ∧ w.cell? ⟨gF, B.length * 6 + 5, none⟩ = some (.int .i64 (f.k : Nat)) := by
  have h1 := h.fr
  rw [List.length_append] at h1
  have hc : ∀ j, j < 6 → w.cell? ⟨gF, B.length * 6 + j, none⟩ = (frC f)[j]? := fun j hj => by
    rw [World.ownsRow.cellAt h1 (B.length * 6 + j) (by omega), flatE_get frC_len (B ++ [f]) B.length j (by simp) hj]
    simp
  exact ⟨hc 0 (by decide), hc 1 (by decide), hc 2 (by decide), hc 3 (by decide), hc 4 (by decide), hc 5 (by decide)⟩
set_option maxRecDepth 100000 in
theorem Tm.frozF {n gF cF : Nat} (h : Tm D w (.slice (some ⟨gF, 0, none⟩) n cF) F M t kd vO o) (i : Nat) : w.frozen? ⟨gF, i, none⟩ = false := by
  rcases h.fr.2 with ⟨e, _⟩ | ⟨g', c', cur, e, _, hg, _⟩
  · cases e
  · cases e; exact frozen_of_row w gF i cur _ hg
end
set_option maxRecDepth 100000 in
theorem fr_set (B : List Fr) (f : Fr) (k : Nat) : ((B ++ [f]).flatMap frC).set (B.length * 6 + 5) (.int .i64 (k : Nat)) = (B ++ [(⟨f.x, f.S, k⟩ : Fr)]).flatMap frC := by
  rw [List.flatMap_append, List.flatMap_append]
  have hl : (B.flatMap frC).length = B.length * 6 := flatE_len frC_len B
  rw [List.set_append_right _ _ (by omega), hl, show B.length * 6 + 5 - B.length * 6 = 5 by omega]
  rfl
section
variable {D : TD} {w w' : World} {F : List Fr} {M : List Ps} {t : Nat} {kd : Int} {vO : Value} {o : List Nat}
set_option maxRecDepth 100000 in
/-- the place of the top frame is written -/
theorem Tm.place {B : List Fr} {f : Fr} {gF cF : Nat} (h : Tm D w (.slice (some ⟨gF, 0, none⟩) (B.length + 1) cF) (B ++ [f]) M t kd vO o) (hk : TDK D) (k : Nat) : Tm D (w.setCell ⟨gF, B.length * 6 + 5, none⟩ (.int .i64 (k : Nat))) (.slice (some ⟨gF, 0, none⟩) (B.length + 1) cF) (B ++ [⟨f.x, f.S, k⟩]) M t kd vO o := by
  have hF := h.ltF gF rfl
  have hK : Kept (ownT D (.slice (some ⟨gF, 0, none⟩) (B.length + 1) cF)) w (w.setCell ⟨gF, B.length * 6 + 5, none⟩ (.int .i64 (k : Nat))) := (Kept.refl _ _).setCell (g := gF) (.inl (.inr (.inr rfl))) _ _
  obtain ⟨es, c, h1, h2⟩ := h.mp
  have h3 := h.fr
  rw [List.length_append] at h3
  have h4 := (World.ownsRow.stored h3 (B.length * 6 + 5) (.int .i64 (k : Nat))).1
  rw [fr_set] at h4
  refine h.upd hk hK ?_ ⟨es, c, ?_, h2⟩ (by rw [List.length_append]; exact h4) (h.odk hk hK)
  · exact (heap_setCell_other w ⟨gF, B.length * 6 + 5, none⟩ D.g _ (by show D.g ≠ gF; omega)).trans h.row
  · exact (heap_setCell_other w ⟨gF, B.length * 6 + 5, none⟩ D.gM _ (by have := hk.lo; show D.gM ≠ gF; omega)).trans h1
set_option maxRecDepth 100000 in
/-- the top frame is taken away -/
theorem Tm.pop {B : List Fr} {f : Fr} {gF cF : Nat} (h : Tm D w (.slice (some ⟨gF, 0, none⟩) (B.length + 1) cF) (B ++ [f]) M t kd vO o) (hk : TDK D) : Tm D (w.setCell ⟨D.g, 7, none⟩ (.slice (some ⟨gF, 0, none⟩) B.length cF)) (.slice (some ⟨gF, 0, none⟩) B.length cF) B M t kd vO o := by
  have h3 := h.fr
  rw [List.length_append, List.flatMap_append] at h3
  exact h.frames hk (ownsRow_pop (flatE_len frC_len B) h3)
set_option maxRecDepth 100000 in
/-- the map is written -/
theorem Tm.met {vF : Value} (h : Tm D w vF F M t kd vO o) (hk : TDK D) {es : Array MapEntry} {c : Nat} {M' : List Ps} (hm : Km Try.prog 72 (.agg #[]) es c (M'.map psV)) : Tm D (setK w D.gM es c) vF F M' t kd vO o := by
  have hK : Kept (ownT D vF) w (setK w D.gM es c) := setK_kept (Kept.refl _ _) es c (.inl (.inr (.inl rfl)))
  obtain ⟨es0, c0, h1, h2⟩ := h.mp
  refine h.upd hk hK ?_ ⟨es, c, setK_at es c h1, hm⟩ ?_ (h.odk hk hK)
  · rw [setK_other w es c (show D.g ≠ D.gM by have := hk.lo; omega)]; exact h.row
  · exact own_keep h.fr (fun j e => setK_other w es c (by have := (h.fr.lt j e).1; have := hk.lo; omega))
end
end Go.Proofs.Ytbjeeefkbmdmfaa
namespace Go.Proofs.Ytbjeeefkbmdmfaa
open Go.RowKit
set_option linter.unusedVariables false

set_option maxHeartbeats 400000 in
theorem with_any (x i : Nat) (hi : i < 64) (hx : x < 18446744073709551616) (w : World) :
    Calls Try.prog 52 #[.int .u64 (x : Nat), .int .i64 (i : Nat)] w fun e w' => e = .returned (.int .u64 ((x ||| 2 ^ i : Nat) : Int)) ∧ w' = w := by
  have hb : bits .or .u64 (x : Int) ((2 : Int) ^ i) = ((x ||| 2 ^ i : Nat) : Int) := by
    rw [show (2 : Int) ^ i = ((2 ^ i : Nat) : Int) by push_cast; rfl]; exact bit_or hx hi
  have hi0 : ¬ (i : Int) < 0 := by omega
  have h63 : ¬ (63 : Int) < (i : Int) := by omega
  have hp : IntKind.u64.wrap ((2 : Int) ^ i) = ((2 ^ i : Nat) : Int) := by
    have h1 : 2 ^ i < 2 ^ 64 := Nat.pow_lt_pow_right (by decide) hi
    have h2 : (2 : Int) ^ i = ((2 ^ i : Nat) : Int) := by push_cast; rfl
    rw [h2, IntKind.wrap_u64]
    generalize (2 ^ i : Nat) = y at h1
    omega
  go_enter Try.func52, Try.ntmps52
  go_wp2_with fail
  go_ret
  exact ⟨rfl, rfl⟩
set_option maxHeartbeats 400000 in
theorem has_any (x i : Nat) (hi : i < 64) (hx : x < 18446744073709551616) (w : World) :
    Calls Try.prog 69 #[.int .u64 (x : Nat), .int .i64 (i : Nat)] w fun e w' => e = .returned (.bool (x.testBit i)) ∧ w' = w := by
  have hb := bit_at (i := i) hx
  have hi0 : ¬ (i : Int) < 0 := by omega
  cases ht : x.testBit i with
  | true =>
    rw [ht, if_pos rfl] at hb
    clear ht
    go_enter Try.func69, Try.ntmps69
    go_wp2_with fail
    go_ret
    exact ⟨rfl, rfl⟩
  | false =>
    rw [ht, if_neg (by decide)] at hb
    clear ht
    go_enter Try.func69, Try.ntmps69
    go_wp2_with fail
    go_ret
    exact ⟨rfl, rfl⟩
set_option maxHeartbeats 400000 in
theorem within_any (n x y : Nat) (hn : n ≤ 64) (hx : x < 2 ^ n) (hy : y < 18446744073709551616) (w : World) :
    Calls Try.prog 54 #[.int .u64 (x : Nat), .int .u64 (y : Nat)] w fun e w' => e = .returned (.bool (inB n x y)) ∧ w' = w := by
  have hb := bit_in hn hx hy
  go_enter Try.func54, Try.ntmps54
  go_wp2_with fail
  go_ret
  exact ⟨rfl, rfl⟩
end Go.Proofs.Ytbjeeefkbmdmfaa
namespace Go.Proofs.Ytbjeeefkbmdmfaa
open Go.RowKit
set_option linter.unusedVariables false

set_option maxRecDepth 100000 in
theorem do1_len (x : Ic) (k g : Int) (v : VS) : (do1 x k g v).1.c.length = v.c.length := by
  unfold do1
  by_cases h0 : x.o = 0
  · rw [if_pos h0]
  rw [if_neg h0]
  by_cases h1 : x.o = 1
  · rw [if_pos h1]
  rw [if_neg h1]
  by_cases h2 : x.o = 2
  · rw [if_pos h2]
  rw [if_neg h2]
  by_cases h3 : x.o = 3
  · rw [if_pos h3]
  rw [if_neg h3]
  by_cases h4 : x.o = 4
  · rw [if_pos h4]
  rw [if_neg h4]
  by_cases h5 : x.o = 5
  · rw [if_pos h5]; exact List.length_set
  rw [if_neg h5]
  by_cases h6 : x.o = 6
  · rw [if_pos h6]
  rw [if_neg h6]
  by_cases h7 : x.o = 7
  · rw [if_pos h7]
  rw [if_neg h7]
  by_cases h15 : x.o = 15
  · rw [if_pos h15]
  rw [if_neg h15]
  by_cases h16 : x.o = 16
  · rw [if_pos h16]
  rw [if_neg h16]
  by_cases h17 : x.o = 17
  · rw [if_pos h17]
  rw [if_neg h17]
  by_cases h18 : x.o = 18
  · rw [if_pos h18]
  rw [if_neg h18]
  by_cases h19 : x.o = 19
  · rw [if_pos h19]
  rw [if_neg h19]
  cases jnd x.o (tpA v) (tpB v) with
  | some y => rfl
  | none => rfl
set_option maxRecDepth 100000 in
theorem vmF_len (l : List Ic) (k g : Int) : ∀ (f : Nat) (v : VS) (u : Nat), (vmF l k g f v u).2.1.length = v.c.length
  | 0, v, u => rfl
  | f + 1, v, u => by
    rcases do1_over (l.getD v.p ic0) k g v with h | h | h
    · rw [vmF_go h, vmF_len l k g f _ _, do1_len]
    · rw [vmF_ans h]; exact do1_len _ _ _ _
    · rw [vmF_ref h]
set_option maxRecDepth 100000 in
/-- a step, number by number -/
theorem stpV_form {l : List Ic} (h : (thr l).2.2 = 0) (s0 s1 s2 s3 k g f : Int) : ∃ K a b c d r u, stpV l [s0, s1, s2, s3] k g f = (K, [a, b, c, d], r, u) := by
  rw [stpV_yes h]
  unfold stpO'
  split
  · obtain ⟨a, b, c, d, e⟩ := four_list (vmF_len l k g f.toNat (vs0 [s0, s1, s2, s3]) 0)
    rw [e]; exact ⟨_, _, _, _, _, _, _, rfl⟩
  · exact ⟨_, _, _, _, _, _, _, rfl⟩
/-- a step as its seven numbers -/
def agS (K a b c d r u : Int) : Value := .agg #[.int .i64 K, .int .i64 a, .int .i64 b, .int .i64 c, .int .i64 d, .int .i64 r, .int .i64 u]
set_option maxRecDepth 100000 in
theorem stC_form (K a b c d r u : Int) : stC (K, [a, b, c, d], r, u) = .agg #[.int .i64 K, .int .i64 a, .int .i64 b, .int .i64 c, .int .i64 d, .int .i64 r, .int .i64 u] := rfl
set_option maxRecDepth 100000 in
theorem st_zero : (Try.prog.info? 109).map (fun i => i.zero.map (·.cells.size)) = some (some 7) := by kernel_rfl
set_option maxRecDepth 100000 in
theorem st_info : (Try.prog.info? 109).map (·.size) = some 7 := by kernel_rfl
set_option maxRecDepth 100000 in
theorem st_one (K a b c d r u : Int) : (#[Value.int .i64 K, .int .i64 a, .int .i64 b, .int .i64 c, .int .i64 d, .int .i64 r, .int .i64 u]).all (·.oneCell') = true := by simp [Value.oneCell']
set_option maxRecDepth 100000 in
theorem up_mc {gm gc cc : Nat} {l : List Ic} : Up (fun W => Mc W gm gc cc l) := fun W W' h hb => h.below hb
set_option maxRecDepth 100000 in
theorem Mc.put {W : World} {gm gc cc : Nat} {l : List Ic} (h : Mc W gm gc cc l) {z : Nat} {vs : List Value} (h1 : gm ≠ z) (h2 : gc ≠ z) : Mc (W.setCells z 0 vs) gm gc cc l := h.keep (setCells_other h1 vs 0) (setCells_other h2 vs 0) (by rw [setCells_size]; exact Nat.le_refl _)
end Go.Proofs.Ytbjeeefkbmdmfaa
namespace Go.Proofs.Ytbjeeefkbmdmfaa
open Go.RowKit
set_option linter.unusedVariables false
open Go.MapKept Go.Maps

section
variable {D : TD} {w : World} {vF : Value} {F B : List Fr} {f : Fr} {M : List Ps} {t : Nat} {kd : Int} {vO : Value} {o : List Nat} {gF cF : Nat}
set_option maxHeartbeats 400000 in
theorem last_any (h : Tm D w (.slice (some ⟨gF, 0, none⟩) (B.length + 1) cF) (B ++ [f]) M t kd vO o) (hB : B.length ≤ 1073741824) :
    Calls Try.prog 53 #[.pointer (some ⟨D.g, 0, none⟩)] w fun e w' => e = .returned (.pointer (some ⟨gF, B.length * 6, none⟩)) ∧ ∃ q, w' = w.drewN q := by
  obtain ⟨_, _, _, _, _, _, _, c7, _⟩ := h.cells
  obtain ⟨L, hL⟩ : ∃ L : Nat, L = B.length := ⟨_, rfl⟩
  rw [← hL] at c7 hB ⊢
  have hw : IntKind.i64.wrap (((L + 1 : Nat) : Int) - 1) = (L : Int) := by rw [show ((L + 1 : Nat) : Int) - 1 = (L : Int) by omega]; exact IntWalk.i64_in _ (by omega)
  have h1 : (L : Int) < ((L + 1 : Nat) : Int) := by omega
  clear h hL
  go_enter Try.func53, Try.ntmps53
  go_wp2_with fail
  go_quiet (fail)
  go_wp2_with fail
  go_ret
  exact ⟨rfl, _, rfl⟩
set_option maxHeartbeats 400000 in
theorem runs_any (h : Tm D w vF F M t kd vO o) :
    Calls Try.prog 39 #[.pointer (some ⟨D.g, 0, none⟩)] w fun e w' => e = .returned (.bool (decide (F ≠ []))) ∧ w' = w := by
  obtain ⟨_, _, _, _, _, _, _, c7, _⟩ := h.cells
  obtain ⟨ao, cap, rfl, hl⟩ : ∃ ao cap, vF = .slice ao F.length cap ∧ True := by
    rcases h.fr.2 with ⟨e, e2⟩ | ⟨g, c, _, e, _⟩
    · exact ⟨none, 0, by rw [e, e2], trivial⟩
    · exact ⟨_, _, e, trivial⟩
  obtain ⟨b, HD⟩ : ∃ b, Bx (decide (F ≠ []) = b) := ⟨_, ⟨rfl⟩⟩
  rw [HD.out]
  have hd : decide ((0 : Int) < (F.length : Int)) = b := by
    rw [← HD.out]
    cases F with
    | nil => rfl
    | cons a t => exact decide_eq_true (by simp only [List.length_cons]; omega) |>.trans (decide_eq_true (by simp)).symm
  clear h hl
  generalize F.length = m at c7 hd
  cases b with
  | true =>
    have hd : 0 < m := by simpa using hd
    go_enter Try.func39, Try.ntmps39
    go_wp2_with fail
    go_ret
    exact ⟨rfl, rfl⟩
  | false =>
    have hd : ¬ 0 < m := by simpa using hd
    go_enter Try.func39, Try.ntmps39
    go_wp2_with fail
    go_ret
    exact ⟨rfl, rfl⟩
set_option maxHeartbeats 400000 in
theorem over_any (h : Tm D w vF F M t kd vO o) :
    Calls Try.prog 18 #[.pointer (some ⟨D.g, 0, none⟩)] w fun e w' => e = .returned (.bool (decide (kd ≠ 0))) ∧ w' = w := by
  obtain ⟨_, _, _, _, _, _, _, _, _, c9, _⟩ := h.cells
  clear h
  by_cases hk : kd = 0
  · subst hk
    go_enter Try.func18, Try.ntmps18
    go_wp2_with fail
    go_ret
    exact ⟨rfl, rfl⟩
  · have hb : (kd != 0) = true := by simpa using hk
    rw [decide_eq_true hk]
    go_enter Try.func18, Try.ntmps18
    go_wp2_with fail
    go_ret
    exact ⟨rfl, rfl⟩
set_option maxHeartbeats 400000 in
theorem tries_any (h : Tm D w vF F M t kd vO o) :
    Calls Try.prog 21 #[.pointer (some ⟨D.g, 0, none⟩)] w fun e w' => e = .returned (.int .i64 (t : Nat)) ∧ w' = w := by
  obtain ⟨_, _, _, _, _, _, _, _, c8, _⟩ := h.cells
  clear h
  go_enter Try.func21, Try.ntmps21
  go_wp2_with fail
  go_ret
  exact ⟨rfl, rfl⟩
end
end Go.Proofs.Ytbjeeefkbmdmfaa
