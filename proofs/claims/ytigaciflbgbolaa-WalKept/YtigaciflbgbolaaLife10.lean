/- A life of the law WalKept, in memory; what is sure, what may be besides. No walk. -/
import Derived.Test.YtigaciflbgbolaaLaw10c
namespace Go.Proofs.Ytigaciflbgbolaa
open Go.RowKit
set_option linter.unusedVariables false

def rowX (gd : Nat) (pl vs vm : Value) (doubt : Bool) : Obj := .cells #[.pointer (some ⟨gd, 0, none⟩), pl, vs, vm, .bool doubt] 62 (0, 0)
def rowK (d : DoM) (a2 : Option Addr) (l2 c2 : Nat) (a3 : Option Addr) (l3 c3 : Nat) : Obj := .cells #[.int .i64 d.kind, .int .i64 d.n, .int .i64 d.long, .slice a2 l2 c2, .slice a3 l3 c3] 41 (0, 0)
section
variable {W : World} {gx gk gd : Nat} {pl vs vm : Value} {doubt : Bool} {d : DoM} {a2 a3 : Option Addr} {l2 c2 l3 c3 : Nat}
set_option maxRecDepth 100000 in
theorem rx0 (h : W.heap[gx]? = some (rowX gd pl vs vm doubt)) : W.cell? ⟨gx, 0, none⟩ = some (.pointer (some ⟨gd, 0, none⟩)) := by rw [cell_of_row W gx 0 _ _ (0, 0) h]; rfl
set_option maxRecDepth 100000 in
theorem rx1 (h : W.heap[gx]? = some (rowX gd pl vs vm doubt)) : W.cell? ⟨gx, 1, none⟩ = some pl := by rw [cell_of_row W gx 1 _ _ (0, 0) h]; rfl
set_option maxRecDepth 100000 in
theorem rx2 (h : W.heap[gx]? = some (rowX gd pl vs vm doubt)) : W.cell? ⟨gx, 2, none⟩ = some vs := by rw [cell_of_row W gx 2 _ _ (0, 0) h]; rfl
set_option maxRecDepth 100000 in
theorem rx3 (h : W.heap[gx]? = some (rowX gd pl vs vm doubt)) : W.cell? ⟨gx, 3, none⟩ = some vm := by rw [cell_of_row W gx 3 _ _ (0, 0) h]; rfl
set_option maxRecDepth 100000 in
theorem rx4 (h : W.heap[gx]? = some (rowX gd pl vs vm doubt)) : W.cell? ⟨gx, 4, none⟩ = some (.bool doubt) := by rw [cell_of_row W gx 4 _ _ (0, 0) h]; rfl
set_option maxRecDepth 100000 in
theorem rxf (h : W.heap[gx]? = some (rowX gd pl vs vm doubt)) (j : Nat) : W.frozen? ⟨gx, j, none⟩ = false := frozen_of_row _ _ j _ _ h
set_option maxRecDepth 100000 in
theorem rk0 (h : W.heap[gk]? = some (rowK d a2 l2 c2 a3 l3 c3)) : W.cell? ⟨gk, 0, none⟩ = some (.int .i64 d.kind) := by rw [cell_of_row W gk 0 _ _ (0, 0) h]; rfl
set_option maxRecDepth 100000 in
theorem rk1 (h : W.heap[gk]? = some (rowK d a2 l2 c2 a3 l3 c3)) : W.cell? ⟨gk, 1, none⟩ = some (.int .i64 d.n) := by rw [cell_of_row W gk 1 _ _ (0, 0) h]; rfl
set_option maxRecDepth 100000 in
theorem rk2 (h : W.heap[gk]? = some (rowK d a2 l2 c2 a3 l3 c3)) : W.cell? ⟨gk, 2, none⟩ = some (.int .i64 d.long) := by rw [cell_of_row W gk 2 _ _ (0, 0) h]; rfl
set_option maxRecDepth 100000 in
theorem rk3 (h : W.heap[gk]? = some (rowK d a2 l2 c2 a3 l3 c3)) : W.cell? ⟨gk, 3, none⟩ = some (.slice a2 l2 c2) := by rw [cell_of_row W gk 3 _ _ (0, 0) h]; rfl
set_option maxRecDepth 100000 in
theorem rk4 (h : W.heap[gk]? = some (rowK d a2 l2 c2 a3 l3 c3)) : W.cell? ⟨gk, 4, none⟩ = some (.slice a3 l3 c3) := by rw [cell_of_row W gk 4 _ _ (0, 0) h]; rfl
set_option maxRecDepth 100000 in
theorem rkr (h : W.heap[gk]? = some (rowK d a2 l2 c2 a3 l3 c3)) : W.rangeAt gk 0 [.int .i64 d.kind, .int .i64 d.n, .int .i64 d.long, .slice a2 l2 c2, .slice a3 l3 c3] := row_range (X := [.int .i64 d.kind, .int .i64 d.n, .int .i64 d.long, .slice a2 l2 c2, .slice a3 l3 c3]) h
end
set_option maxRecDepth 100000 in
theorem do_info : (Try.prog.info? 41).map (·.size) = some 5 := by kernel_rfl
/-- a life -/
structure Lf (B : Nat) (w : World) (gx : Nat) (X : Nat → Prop) (gd : Nat) (pl vs : Value) (am : Option Addr) (lm cm : Nat) (S : List (List Int)) (M : List Int) (doubt : Bool) : Prop where
  row : w.heap[gx]? = some (rowX gd pl vs (.slice am lm cm) doubt)
  tl : TL w (fun k => X k ∧ k ≠ gx) vs S
  mb : Bts w am lm cm M
  mo : 0 < lm → ∀ p, am = some p → (X p.block ∧ p.block ≠ gx) ∧ vs.ownBlock ≠ some p.block
  og : X gx
  ge : ∀ k, X k → B ≤ k
  lt : ∀ k, X k → k < w.heap.size
section
variable {B : Nat} {w w' : World} {gx : Nat} {X X2 : Nat → Prop} {gd : Nat} {pl vs : Value} {am : Option Addr} {lm cm : Nat} {S : List (List Int)} {M : List Int} {doubt : Bool}
set_option maxRecDepth 100000 in
theorem Lf.xk (h : Lf B w gx X gd pl vs am lm cm S M doubt) (hx : XK X w w') : Lf B w' gx X gd pl vs am lm cm S M doubt :=
  ⟨(hx.2 gx h.og).trans h.row, h.tl.keep (fun k _ ho => hx.2 k ho.1) hx.1 (fun _ _ h => h), h.mb.keep (fun hp p e => hx.2 _ (h.mo hp p e).1.1) hx.1, h.mo, h.og, h.ge, fun k hk => Nat.lt_of_lt_of_le (h.lt k hk) hx.1⟩
set_option maxRecDepth 100000 in
theorem Lf.below (h : Lf B w gx X gd pl vs am lm cm S M doubt) (hb : Below w.heap.size w w') : Lf B w' gx X gd pl vs am lm cm S M doubt := h.xk (xk_below h.lt hb)
set_option maxRecDepth 100000 in
/-- more is the law's -/
theorem Lf.wide (h : Lf B w gx X gd pl vs am lm cm S M doubt) (hs : ∀ k, X k → X2 k) (hg : ∀ k, X2 k → B ≤ k) (hl : ∀ k, X2 k → k < w.heap.size) : Lf B w gx X2 gd pl vs am lm cm S M doubt :=
  ⟨h.row, h.tl.keep (fun _ _ _ => rfl) (Nat.le_refl _) (fun k _ ho => ⟨hs k ho.1, ho.2⟩), h.mb, fun hp p e => ⟨⟨hs _ (h.mo hp p e).1.1, (h.mo hp p e).1.2⟩, (h.mo hp p e).2⟩, hs gx h.og, hg, hl⟩
set_option maxRecDepth 100000 in
theorem Lf.rest (h : Lf B w gx X gd pl vs am lm cm S M doubt) (j : Nat) (v : Value) : TL (w.setCell ⟨gx, j, none⟩ v) (fun k => X k ∧ k ≠ gx) vs S ∧ Bts (w.setCell ⟨gx, j, none⟩ v) am lm cm M ∧ ∀ k, X k → k < (w.setCell ⟨gx, j, none⟩ v).heap.size :=
  ⟨h.tl.keep (fun k _ ho => heap_setCell_other w ⟨gx, j, none⟩ k v ho.2) (by simp [World.setCell]) (fun _ _ h => h), h.mb.keep (fun hp p e => heap_setCell_other w ⟨gx, j, none⟩ p.block v (h.mo hp p e).1.2) (by simp [World.setCell]), fun k hk => by have := h.lt k hk; simpa [World.setCell] using this⟩
set_option maxRecDepth 100000 in
theorem Lf.setL (h : Lf B w gx X gd pl vs am lm cm S M doubt) (pl' : Value) : Lf B (w.setCell ⟨gx, 1, none⟩ pl') gx X gd pl' vs am lm cm S M doubt := by
  obtain ⟨r1, r2, r3⟩ := h.rest 1 pl'
  exact ⟨heap_setCell_same w gx 1 _ _ _ h.row, r1, r2, h.mo, h.og, h.ge, r3⟩
set_option maxRecDepth 100000 in
theorem Lf.setB (h : Lf B w gx X gd pl vs am lm cm S M doubt) (b : Bool) : Lf B (w.setCell ⟨gx, 4, none⟩ (.bool b)) gx X gd pl vs am lm cm S M b := by
  obtain ⟨r1, r2, r3⟩ := h.rest 4 (.bool b)
  exact ⟨heap_setCell_same w gx 4 _ _ _ h.row, r1, r2, h.mo, h.og, h.ge, r3⟩
set_option maxRecDepth 100000 in
theorem Lf.keptSet (h : Lf B w gx X gd pl vs am lm cm S M doubt) (j : Nat) (v : Value) : Kept X w (w.setCell ⟨gx, j, none⟩ v) := (Kept.refl X w).setCell (.inl h.og) j v
set_option maxRecDepth 100000 in
/-- another text may be besides: one in new memory -/
theorem Lf.setM {wl : World} (h : Lf B w gx X gd pl vs am lm cm S M doubt) {a : Option Addr} {n c : Nat} {l : List Int} (hb : Bts w a n c l) (hn : 0 < n → ∀ p, a = some p → wl.heap.size ≤ p.block) (hlt : ∀ k, X k → k < wl.heap.size) (hB : B ≤ wl.heap.size) (hK : Kept X wl w) :
    ∃ X2, Lf B (w.setCell ⟨gx, 3, none⟩ (.slice a n c)) gx X2 gd pl vs a n c S l doubt ∧ Kept X wl (w.setCell ⟨gx, 3, none⟩ (.slice a n c)) ∧ (∀ k, X k → X2 k) ∧ ∀ k, X2 k → X k ∨ (wl.heap.size ≤ k ∧ k < (w.setCell ⟨gx, 3, none⟩ (.slice a n c)).heap.size) := by
  obtain ⟨r1, r2, r3⟩ := h.rest 3 (.slice a n c)
  have hsz : (w.setCell ⟨gx, 3, none⟩ (.slice a n c)).heap.size = w.heap.size := by simp [World.setCell]
  have hg : ∀ hp : 0 < n, ∀ p, a = some p → p.block ≠ gx ∧ ¬ X p.block := fun hp p e => ⟨fun e2 => by have := hn hp p e; have := hlt gx h.og; omega, fun hX => by have := hn hp p e; have := hlt _ hX; omega⟩
  refine ⟨fun k => X k ∨ (0 < n ∧ ∃ p, a = some p ∧ p.block = k), ⟨heap_setCell_same w gx 3 _ _ _ h.row, r1.keep (fun _ _ _ => rfl) (Nat.le_refl _) (fun k _ ho => ⟨.inl ho.1, ho.2⟩), hb.keep (fun hp p e => heap_setCell_other w ⟨gx, 3, none⟩ p.block _ (hg hp p e).1) (Nat.le_of_eq hsz.symm), fun hp p e => ⟨⟨.inr ⟨hp, p, e, rfl⟩, (hg hp p e).1⟩, fun e2 => (hg hp p e).2 (h.tl.ob _ e2).1⟩, .inl h.og, fun k hk => ?_, fun k hk => ?_⟩, hK.setCell (.inl h.og) 3 _, fun k hk => .inl hk, fun k hk => ?_⟩
  · rcases hk with hk | ⟨hp, p, e, rfl⟩
    · exact h.ge k hk
    · exact Nat.le_trans hB (hn hp p e)
  · rcases hk with hk | ⟨hp, p, e, rfl⟩
    · exact r3 k hk
    · rw [hsz]; exact hb.lt hp e
  · rcases hk with hk | ⟨hp, p, e, rfl⟩
    · exact .inl hk
    · exact .inr ⟨hn hp p e, by rw [hsz]; exact hb.lt hp e⟩
set_option maxRecDepth 100000 in
/-- one text more is sure: the row behind an append, then the store of its slice -/
theorem Lf.snoc {wl w6 : World} {xs : List Value} {a3 : Option Addr} {n c3 g4 cap4 : Nat} {l : List Int}
    (h : Lf B w gx X gd pl vs am lm cm S M doubt) (hta : TA w (fun k => X k ∧ k ≠ gx) vs S xs) (hbt : Bts w a3 n c3 l) (hfar : 0 < n → ∀ p, a3 = some p → p.block ≠ gx ∧ vs.ownBlock ≠ some p.block) (hown : 0 < n → ∀ p, a3 = some p → X p.block ∨ wl.heap.size ≤ p.block) (hB : B ≤ wl.heap.size) (hK : Kept X wl w)
    (ho : w6.ownsRow 0 38 1 (.slice (some ⟨g4, 0, none⟩) (S.length + 1) cap4) (S.length + 1) (xs ++ [.slice a3 n c3])) (hg : w.grownBy w6 vs.ownBlock) (hl : vs.ownBlock = some g4 ∨ g4 = w.heap.size) :
    w6.cell? ⟨gx, 2, none⟩ = some vs ∧ w6.frozen? ⟨gx, 2, none⟩ = false ∧ Bx (∃ X2, Lf B (w6.setCell ⟨gx, 2, none⟩ (.slice (some ⟨g4, 0, none⟩) (S.length + 1) cap4)) gx X2 gd pl (.slice (some ⟨g4, 0, none⟩) (S.length + 1) cap4) am lm cm (S ++ [l]) M doubt ∧ Kept X wl (w6.setCell ⟨gx, 2, none⟩ (.slice (some ⟨g4, 0, none⟩) (S.length + 1) cap4)) ∧ (∀ k, X k → X2 k) ∧ ∀ k, X2 k → X k ∨ (wl.heap.size ≤ k ∧ k < (w6.setCell ⟨gx, 2, none⟩ (.slice (some ⟨g4, 0, none⟩) (S.length + 1) cap4)).heap.size)) := by
  have hgl : vs.ownBlock ≠ some gx := fun e => (h.tl.ob gx e).2 rfl
  have hglt := h.lt gx h.og
  have hrow6 : w6.heap[gx]? = some (rowX gd pl vs (.slice am lm cm) doubt) := (hg.block gx hglt (fun e => hgl e.symm)).trans h.row
  have hg4 : g4 ≠ gx := by
    rcases hl with h1 | h1
    · intro e; rw [e] at h1; exact hgl h1
    · omega
  have hg4l : g4 < w6.heap.size := (ho.lt g4 rfl).2
  have hsz : (w6.setCell ⟨gx, 2, none⟩ (.slice (some ⟨g4, 0, none⟩) (S.length + 1) cap4)).heap.size = w6.heap.size := by simp [World.setCell]
  have hg4B : X g4 ∨ wl.heap.size ≤ g4 := by
    rcases hl with h1 | h1
    · exact .inl (h.tl.ob g4 h1).1
    · right; have := hK.size; omega
  have hcar : ∀ {ai : Option Addr} {li ci : Nat} {y : List Int}, Bts w ai li ci y → (0 < li → ∀ p, ai = some p → vs.ownBlock ≠ some p.block ∧ p.block ≠ gx) → Bts (w6.setCell ⟨gx, 2, none⟩ (.slice (some ⟨g4, 0, none⟩) (S.length + 1) cap4)) ai li ci y ∧ (0 < li → ∀ p, ai = some p → (Value.slice (some ⟨g4, 0, none⟩) (S.length + 1) cap4).ownBlock ≠ some p.block) := by
    intro ai li ci y hy hn
    refine ⟨hy.keep (fun hp p e => (heap_setCell_other w6 ⟨gx, 2, none⟩ p.block _ (hn hp p e).2).trans (hg.block _ (hy.lt hp e) (fun hh => (hn hp p e).1 hh.symm))) (by rw [hsz]; exact hg.size), fun hp p e => ?_⟩
    show some g4 ≠ some p.block
    rcases hl with h1 | h1
    · rw [← h1]; exact (hn hp p e).1
    · intro e2
      have e4 : g4 = p.block := Option.some.inj e2
      have := hy.lt hp e
      omega
  obtain ⟨m1, m2⟩ := hcar h.mb (fun hp p e => ⟨(h.mo hp p e).2, (h.mo hp p e).1.2⟩)
  refine ⟨by rw [cell_of_row w6 gx 2 _ _ (0, 0) hrow6]; rfl, frozen_of_row _ _ 2 _ _ hrow6, ⟨fun k => X k ∨ k = g4 ∨ (0 < n ∧ ∃ p, a3 = some p ∧ p.block = k), ⟨heap_setCell_same w6 gx 2 _ _ _ hrow6, ?_, m1, fun hp p e => ⟨⟨.inl (h.mo hp p e).1.1, (h.mo hp p e).1.2⟩, m2 hp p e⟩, .inl h.og, fun k hk => ?_, fun k hk => ?_⟩, ?_, fun k hk => .inl hk, fun k hk => ?_⟩⟩
  · refine ⟨⟨xs ++ [.slice a3 n c3], ?_, fun i hi => ?_⟩, fun k hk => ?_⟩
    · rw [List.length_append]
      refine ⟨ho.1, ?_⟩
      rcases ho.2 with h3 | ⟨g', cap', cur, hv, hgb, hh, r⟩
      · exact .inl h3
      · refine .inr ⟨g', cap', cur, hv, hgb, ?_, r⟩
        have e : g' = g4 := by injection hv with e1; injection e1 with e1; injection e1 with e1; exact e1.symm
        rw [e] at hh ⊢
        exact (heap_setCell_other w6 ⟨gx, 2, none⟩ g4 _ hg4).trans hh
    · rw [List.length_append] at hi
      by_cases hiL : i < S.length
      · obtain ⟨ai, li, ci, e1, e2, e3⟩ := hta.hx i hiL
        obtain ⟨f1, f2⟩ := hcar e2 (fun hp p e => ⟨(e3 hp p e).2, (e3 hp p e).1.2⟩)
        refine ⟨ai, li, ci, by rw [List.getElem?_append_left (by have := hta.hxl; omega)]; exact e1, ?_, fun hp p e => ⟨⟨.inl (e3 hp p e).1.1, (e3 hp p e).1.2⟩, f2 hp p e⟩⟩
        rw [List.getD_eq_getElem?_getD, List.getElem?_append_left hiL, ← List.getD_eq_getElem?_getD]; exact f1
      · obtain rfl : i = S.length := by simp at hi; omega
        obtain ⟨f1, f2⟩ := hcar hbt (fun hp p e => ⟨(hfar hp p e).2, (hfar hp p e).1⟩)
        refine ⟨a3, n, c3, by rw [List.getElem?_append_right (by have := hta.hxl; omega), hta.hxl, Nat.sub_self]; rfl, ?_, fun hp p e => ⟨⟨.inr (.inr ⟨hp, p, e, rfl⟩), (hfar hp p e).1⟩, f2 hp p e⟩⟩
        rw [List.getD_eq_getElem?_getD, List.getElem?_append_right (Nat.le_refl _), Nat.sub_self]; exact f1
    · have e : g4 = k := by simpa [Value.ownBlock] using hk
      rw [← e]; exact ⟨.inr (.inl rfl), hg4⟩
  · rcases hk with hk | hk | ⟨hp, p, e, rfl⟩
    · exact h.ge k hk
    · rw [hk]
      rcases hg4B with h1 | h1
      · exact h.ge _ h1
      · omega
    · rcases hown hp p e with h1 | h1
      · exact h.ge _ h1
      · omega
  · rw [hsz]
    rcases hk with hk | hk | ⟨hp, p, e, rfl⟩
    · exact Nat.lt_of_lt_of_le (h.lt k hk) hg.size
    · rw [hk]; exact hg4l
    · exact Nat.lt_of_lt_of_le (hbt.lt hp e) hg.size
  · refine ⟨hg.os.trans hK.os, hg.tape.trans hK.tape, hg.output.trans hK.output, by rw [hsz]; exact Nat.le_trans hK.size hg.size, fun k hk hno => ?_⟩
    rw [heap_setCell_other w6 ⟨gx, 2, none⟩ k _ (by intro e; rw [e] at hno; exact hno h.og), hg.block k (Nat.lt_of_lt_of_le hk hK.size) (fun e => hno (h.tl.ob k e.symm).1)]
    exact hK.block k hk hno
  · rw [hsz]
    rcases hk with hk | hk | ⟨hp, p, e, rfl⟩
    · exact .inl hk
    · rw [hk]
      rcases hg4B with h1 | h1
      · exact .inl h1
      · exact .inr ⟨h1, hg4l⟩
    · rcases hown hp p e with h1 | h1
      · exact .inl h1
      · exact .inr ⟨h1, Nat.lt_of_lt_of_le (hbt.lt hp e) hg.size⟩
end
/-- what a life is between two calls -/
def Inv (n : Nat) (s : DS) (S : List (List Int)) (M : List Int) (doubt : Bool) (L : LS) : Prop := s.F.length = n ∧ s.O.length ≤ n ∧
  ((doubt = false ∧ Rest s S ∧ L = lgs S) ∨ (doubt = true ∧ s.off = true ∧ L = ⟨S, (FrS 0 S).length, true⟩ ∧ TOk (S ++ [M]) ∧ ∀ K, Lay S (app s.F (kpt s.O K)) ∨ Lay (S ++ [M]) (app s.F (kpt s.O K))))
/-- what a crash leaves of it -/
def Left (n : Nat) (s : DS) (S : List (List Int)) (M : List Int) (doubt : Bool) (T : List (List Int)) : Prop := s.F.length = n ∧ s.O = [] ∧ s.off = false ∧ s.armed = false ∧ TOk T ∧ Lay T s.F ∧ (T = S ∨ (doubt = true ∧ T = S ++ [M]))
set_option maxRecDepth 100000 in
theorem kpt_nil (K : List Bool) : kpt [] K = [] := by cases K <;> rfl
set_option maxRecDepth 100000 in
theorem Inv.left {n : Nat} {s : DS} {S : List (List Int)} {M : List Int} {doubt : Bool} {L : LS} (h : Inv n s S M doubt L) (K : List Bool) : ∃ T, Left n (s.cr K) S M doubt T := by
  obtain ⟨h1, _, h2⟩ := h
  have hF : (s.cr K).F.length = n := by show (app s.F (kpt s.O K)).length = n; rw [app_len]; exact h1
  rcases h2 with ⟨d, hr, _⟩ | ⟨d, _, _, ht, hl⟩
  · refine ⟨S, hF, rfl, rfl, rfl, hr.t, ?_, .inl rfl⟩
    show Lay S (app s.F (kpt s.O K))
    rw [hr.o, kpt_nil]; exact hr.lay
  · rcases hl K with h3 | h3
    · exact ⟨S, hF, rfl, rfl, rfl, fun t ht' => ht t (List.mem_append_left _ ht'), h3, .inl rfl⟩
    · exact ⟨S ++ [M], hF, rfl, rfl, rfl, ht, h3, .inr ⟨d, rfl⟩⟩
set_option maxRecDepth 100000 in
theorem Left.rd {n : Nat} {s : DS} {S : List (List Int)} {M : List Int} {doubt : Bool} {T : List (List Int)} (h : Left n s S M doubt T) (hok : s.Ok) : rdF s.now = some (T, (FrS 0 T).length) := by
  obtain ⟨_, h2, _, _, h5, h6, _⟩ := h
  have : s.now = s.F := by unfold DS.now; rw [h2]; rfl
  rw [this]; exact rd_lay hok.f h6 h5 hok.n2
end Go.Proofs.Ytigaciflbgbolaa
