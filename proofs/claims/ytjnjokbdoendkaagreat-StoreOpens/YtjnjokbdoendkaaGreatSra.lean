/- The document's own log in memory. No walk. What nought and Room of the document's own log answer. -/
import Derived.Test.YtjnjokbdoendkaaGreatSwp
import Derived.Test.YtjnjokbdoendkaaGreatSry
import Derived.Test.YtjnjokbdoendkaaGreatSrs
import Derived.BigQuiet
namespace Go.Proofs.YtjnjokbdoendkaaGreat
open Go.RowKit
set_option linter.unusedVariables false

/-- .. in memory -/
structure RgR (w : World) (gl : Nat) (own : Nat → Prop) (gd : Nat) (L : LS) (vt : Value) : Prop where
  row : w.heap[gl]? = some (.cells #[.pointer (some ⟨gd, 0, none⟩), vt, .int .i64 (L.next : Int), .bool L.failed] 94 (0, 0))
  tl : TL w (fun k => own k ∧ k ≠ gl) vt L.T
  og : own gl
  lt : ∀ k, own k → k < w.heap.size
  ok : TOk L.T
  tn : L.T.length ≤ L.next
  n2 : L.next ≤ 4096
def Rg (w : World) (gl : Nat) (own : Nat → Prop) (gd : Nat) (L : LS) : Prop := ∃ vt, RgR w gl own gd L vt
section
variable {w w' : World} {gl : Nat} {own : Nat → Prop} {gd : Nat} {L : LS} {vt : Value}
set_option maxRecDepth 100000 in
theorem RgR.c0 (h : RgR w gl own gd L vt) : w.cell? ⟨gl, 0, none⟩ = some (.pointer (some ⟨gd, 0, none⟩)) := by rw [cell_of_row w gl 0 _ _ (0, 0) h.row]; rfl
set_option maxRecDepth 100000 in
theorem RgR.c1 (h : RgR w gl own gd L vt) : w.cell? ⟨gl, 1, none⟩ = some vt := by rw [cell_of_row w gl 1 _ _ (0, 0) h.row]; rfl
set_option maxRecDepth 100000 in
theorem RgR.c2 (h : RgR w gl own gd L vt) : w.cell? ⟨gl, 2, none⟩ = some (.int .i64 (L.next : Int)) := by rw [cell_of_row w gl 2 _ _ (0, 0) h.row]; rfl
set_option maxRecDepth 100000 in
theorem RgR.c3 (h : RgR w gl own gd L vt) : w.cell? ⟨gl, 3, none⟩ = some (.bool L.failed) := by rw [cell_of_row w gl 3 _ _ (0, 0) h.row]; rfl
set_option maxRecDepth 100000 in
theorem RgR.fr (h : RgR w gl own gd L vt) (j : Nat) : w.frozen? ⟨gl, j, none⟩ = false := frozen_of_row _ _ j _ _ h.row
set_option maxRecDepth 100000 in
theorem RgR.keep (h : RgR w gl own gd L vt) (hb : ∀ k, own k → w'.heap[k]? = w.heap[k]?) (hs : w.heap.size ≤ w'.heap.size) : RgR w' gl own gd L vt :=
  ⟨(hb gl h.og).trans h.row, h.tl.keep (fun k _ ho => hb k ho.1) hs (fun _ _ h => h), h.og, fun k hk => Nat.lt_of_lt_of_le (h.lt k hk) hs, h.ok, h.tn, h.n2⟩
set_option maxRecDepth 100000 in
theorem Rg.keep (h : Rg w gl own gd L) (hb : ∀ k, own k → w'.heap[k]? = w.heap[k]?) (hs : w.heap.size ≤ w'.heap.size) : Rg w' gl own gd L := by
  obtain ⟨vt, h⟩ := h
  exact ⟨vt, h.keep hb hs⟩
set_option maxRecDepth 100000 in
theorem Rg.lt (h : Rg w gl own gd L) : ∀ k, own k → k < w.heap.size := by obtain ⟨vt, h⟩ := h; exact h.lt
set_option maxRecDepth 100000 in
theorem Rg.below (h : Rg w gl own gd L) (hb : Below w.heap.size w w') : Rg w' gl own gd L := h.keep (fun k hk => hb.block k (h.lt k hk)) hb.size
set_option maxRecDepth 100000 in
theorem Rg.kept {own2 : Nat → Prop} (h : Rg w gl own gd L) (hb : Kept own2 w w') (hd : ∀ k, own k → ¬ own2 k) : Rg w' gl own gd L := h.keep (fun k hk => hb.block k (h.lt k hk) (hd k hk)) hb.size
set_option maxRecDepth 100000 in
theorem RgR.setTl (h : RgR w gl own gd L vt) (j : Nat) (v : Value) : TL (w.setCell ⟨gl, j, none⟩ v) (fun k => own k ∧ k ≠ gl) vt L.T :=
  h.tl.keep (fun k _ ho => heap_setCell_other w ⟨gl, j, none⟩ k v ho.2) (by simp [World.setCell]) (fun _ _ h => h)
set_option maxRecDepth 100000 in
theorem RgR.setLt (h : RgR w gl own gd L vt) (j : Nat) (v : Value) : ∀ k, own k → k < (w.setCell ⟨gl, j, none⟩ v).heap.size := fun k hk => by have := h.lt k hk; simpa [World.setCell] using this
set_option maxRecDepth 100000 in
theorem RgR.setFailed (h : RgR w gl own gd L vt) : RgR (w.setCell ⟨gl, 3, none⟩ (.bool true)) gl own gd { L with failed := true } vt :=
  ⟨heap_setCell_same w gl 3 _ _ _ h.row, h.setTl 3 _, h.og, h.setLt 3 _, h.ok, h.tn, h.n2⟩
end
set_option maxRecDepth 100000 in
theorem RgR.below {w w' : World} {gl : Nat} {own : Nat → Prop} {gd : Nat} {L : LS} {vt : Value} (h : RgR w gl own gd L vt) (hb : Below w.heap.size w w') : RgR w' gl own gd L vt := h.keep (fun k hk => hb.block k (h.lt k hk)) hb.size
/-- a log between two stores -/
structure RgX (w : World) (gl : Nat) (own : Nat → Prop) (gd : Nat) (T : List (List Int)) (next : Nat) (failed : Bool) (vt : Value) : Prop where
  row : w.heap[gl]? = some (.cells #[.pointer (some ⟨gd, 0, none⟩), vt, .int .i64 (next : Int), .bool failed] 94 (0, 0))
  tl : TL w (fun k => own k ∧ k ≠ gl) vt T
  og : own gl
  lt : ∀ k, own k → k < w.heap.size
section
variable {w : World} {gl : Nat} {own : Nat → Prop} {gd : Nat} {T : List (List Int)} {next : Nat} {failed : Bool} {vt : Value}
set_option maxRecDepth 100000 in
theorem RgX.c2 (h : RgX w gl own gd T next failed vt) : w.cell? ⟨gl, 2, none⟩ = some (.int .i64 (next : Int)) := by rw [cell_of_row w gl 2 _ _ (0, 0) h.row]; rfl
set_option maxRecDepth 100000 in
theorem RgX.fr (h : RgX w gl own gd T next failed vt) (j : Nat) : w.frozen? ⟨gl, j, none⟩ = false := frozen_of_row _ _ j _ _ h.row
set_option maxRecDepth 100000 in
theorem RgX.setNext (h : RgX w gl own gd T next failed vt) (n : Nat) (h0 : TOk T) (h1 : T.length ≤ n) (h2 : n ≤ 4096) : RgR (w.setCell ⟨gl, 2, none⟩ (.int .i64 (n : Int))) gl own gd ⟨T, n, failed⟩ vt :=
  ⟨heap_setCell_same w gl 2 _ _ _ h.row, h.tl.keep (fun k _ ho => heap_setCell_other w ⟨gl, 2, none⟩ k _ ho.2) (by simp [World.setCell]) (fun _ _ h => h), h.og, fun k hk => by have := h.lt k hk; simpa [World.setCell] using this, h0, h1, h2⟩
end
set_option maxRecDepth 100000 in
/-- one text more in a log: the row behind an append, then the store of its slice -/
theorem RgR.more {wl w w6 : World} {gl : Nat} {own : Nat → Prop} {gd : Nat} {L : LS} {vt : Value} {xs : List Value} {a3 : Option Addr} {n c3 g4 cap4 : Nat} {l : List Int}
    (h : RgR w gl own gd L vt) (hta : TA w (fun k => own k ∧ k ≠ gl) vt L.T xs) (hbt : Bts w a3 n c3 l) (hfar : 0 < n → ∀ p, a3 = some p → ¬ own p.block ∧ wl.heap.size ≤ p.block) (hK : Kept own wl w)
    (ho : w6.ownsRow 0 46 1 (.slice (some ⟨g4, 0, none⟩) (L.T.length + 1) cap4) (L.T.length + 1) (xs ++ [.slice a3 n c3])) (hg : w.grownBy w6 vt.ownBlock) (hl : vt.ownBlock = some g4 ∨ g4 = w.heap.size) :
    w6.cell? ⟨gl, 1, none⟩ = some vt ∧ w6.frozen? ⟨gl, 1, none⟩ = false ∧ Bx (∃ own2 vt2, RgX (w6.setCell ⟨gl, 1, none⟩ (.slice (some ⟨g4, 0, none⟩) (L.T.length + 1) cap4)) gl own2 gd (L.T ++ [l]) L.next L.failed vt2 ∧ Kept own wl (w6.setCell ⟨gl, 1, none⟩ (.slice (some ⟨g4, 0, none⟩) (L.T.length + 1) cap4)) ∧ (∀ k, own k → own2 k) ∧ ∀ k, own2 k → own k ∨ (wl.heap.size ≤ k ∧ k < (w6.setCell ⟨gl, 1, none⟩ (.slice (some ⟨g4, 0, none⟩) (L.T.length + 1) cap4)).heap.size)) := by
  have hgl : vt.ownBlock ≠ some gl := fun e => (h.tl.ob gl e).2 rfl
  have hglt := h.lt gl h.og
  have hrow6 : w6.heap[gl]? = some (.cells #[.pointer (some ⟨gd, 0, none⟩), vt, .int .i64 (L.next : Int), .bool L.failed] 94 (0, 0)) := (hg.block gl hglt (fun e => hgl e.symm)).trans h.row
  have hg4 : g4 ≠ gl := by
    rcases hl with h1 | h1
    · intro e; rw [e] at h1; exact hgl h1
    · omega
  have hg4l : g4 < w6.heap.size := (ho.lt g4 rfl).2
  have hsz : (w6.setCell ⟨gl, 1, none⟩ (.slice (some ⟨g4, 0, none⟩) (L.T.length + 1) cap4)).heap.size = w6.heap.size := by simp [World.setCell]
  have hvf : ∀ {k : Nat}, vt.ownBlock = some k → k < w.heap.size := fun {k} e => h.lt k (h.tl.ob k e).1
  refine ⟨by rw [cell_of_row w6 gl 1 _ _ (0, 0) hrow6]; rfl, frozen_of_row _ _ 1 _ _ hrow6, ⟨fun k => own k ∨ k = g4 ∨ (0 < n ∧ ∃ p, a3 = some p ∧ p.block = k), _, ⟨heap_setCell_same w6 gl 1 _ _ _ hrow6, ?_, .inl h.og, fun k hk => ?_⟩, ?_, fun k hk => .inl hk, fun k hk => ?_⟩⟩
  · have hcar : ∀ {ai : Option Addr} {li ci : Nat} {y : List Int}, Bts w ai li ci y → (0 < li → ∀ p, ai = some p → vt.ownBlock ≠ some p.block ∧ p.block ≠ gl) → Bts (w6.setCell ⟨gl, 1, none⟩ (.slice (some ⟨g4, 0, none⟩) (L.T.length + 1) cap4)) ai li ci y ∧ (0 < li → ∀ p, ai = some p → (Value.slice (some ⟨g4, 0, none⟩) (L.T.length + 1) cap4).ownBlock ≠ some p.block) := by
      intro ai li ci y hy hn
      refine ⟨hy.keep (fun hp p e => (heap_setCell_other w6 ⟨gl, 1, none⟩ p.block _ (hn hp p e).2).trans (hg.block _ (hy.lt hp e) (fun hh => (hn hp p e).1 hh.symm))) (by rw [hsz]; exact hg.size), fun hp p e => ?_⟩
      show some g4 ≠ some p.block
      rcases hl with h1 | h1
      · rw [← h1]; exact (hn hp p e).1
      · intro e2
        have e4 : g4 = p.block := Option.some.inj e2
        have := hy.lt hp e
        omega
    refine ⟨⟨xs ++ [.slice a3 n c3], ?_, fun i hi => ?_⟩, fun k hk => ?_⟩
    · rw [List.length_append]
      refine ⟨ho.1, ?_⟩
      rcases ho.2 with h3 | ⟨g', cap', cur, hv, hgb, hh, r⟩
      · exact .inl h3
      · refine .inr ⟨g', cap', cur, hv, hgb, ?_, r⟩
        have e : g' = g4 := by injection hv with e1; injection e1 with e1; injection e1 with e1; exact e1.symm
        rw [e] at hh ⊢
        exact (heap_setCell_other w6 ⟨gl, 1, none⟩ g4 _ hg4).trans hh
    · rw [List.length_append] at hi
      by_cases hiL : i < L.T.length
      · obtain ⟨ai, li, ci, e1, e2, e3⟩ := hta.hx i hiL
        obtain ⟨f1, f2⟩ := hcar e2 (fun hp p e => ⟨(e3 hp p e).2, (e3 hp p e).1.2⟩)
        refine ⟨ai, li, ci, by rw [List.getElem?_append_left (by have := hta.hxl; omega)]; exact e1, ?_, fun hp p e => ⟨⟨.inl (e3 hp p e).1.1, (e3 hp p e).1.2⟩, f2 hp p e⟩⟩
        rw [List.getD_eq_getElem?_getD, List.getElem?_append_left hiL, ← List.getD_eq_getElem?_getD]; exact f1
      · obtain rfl : i = L.T.length := by simp at hi; omega
        have hfar2 : 0 < n → ∀ p, a3 = some p → vt.ownBlock ≠ some p.block ∧ p.block ≠ gl := fun hp p e => ⟨fun e2 => (hfar hp p e).1 (h.tl.ob _ e2).1, fun e2 => (hfar hp p e).1 (by rw [e2]; exact h.og)⟩
        obtain ⟨f1, f2⟩ := hcar hbt hfar2
        refine ⟨a3, n, c3, by rw [List.getElem?_append_right (by have := hta.hxl; omega), hta.hxl, Nat.sub_self]; rfl, ?_, fun hp p e => ⟨⟨.inr (.inr ⟨hp, p, e, rfl⟩), (hfar2 hp p e).2⟩, f2 hp p e⟩⟩
        rw [List.getD_eq_getElem?_getD, List.getElem?_append_right (Nat.le_refl _), Nat.sub_self]; exact f1
    · have e : g4 = k := by simpa [Value.ownBlock] using hk
      rw [← e]; exact ⟨.inr (.inl rfl), hg4⟩
  · rw [hsz]
    rcases hk with hk | hk | ⟨hp, p, e, rfl⟩
    · exact Nat.lt_of_lt_of_le (h.lt k hk) hg.size
    · rw [hk]; exact hg4l
    · exact Nat.lt_of_lt_of_le (hbt.lt hp e) hg.size
  · refine ⟨hg.os.trans hK.os, hg.tape.trans hK.tape, hg.output.trans hK.output, by rw [hsz]; exact Nat.le_trans hK.size hg.size, fun k hk hno => ?_⟩
    rw [heap_setCell_other w6 ⟨gl, 1, none⟩ k _ (by intro e; rw [e] at hno; exact hno h.og), hg.block k (Nat.lt_of_lt_of_le hk hK.size) (fun e => hno (h.tl.ob k e.symm).1)]
    exact hK.block k hk hno
  · rw [hsz]
    rcases hk with hk | hk | ⟨hp, p, e, rfl⟩
    · exact .inl hk
    · rcases hl with h1 | h1
      · left; rw [hk]; exact (h.tl.ob g4 h1).1
      · right; rw [hk]; exact ⟨by have := hK.size; omega, hg4l⟩
    · exact .inr ⟨(hfar hp p e).2, Nat.lt_of_lt_of_le (hbt.lt hp e) hg.size⟩
end Go.Proofs.YtjnjokbdoendkaaGreat
namespace Go.Proofs.YtjnjokbdoendkaaGreat
open Go.RowKit
set_option linter.unusedVariables false

set_option maxRecDepth 100000 in
theorem s0_getD (j : Nat) : s0.getD j 0 = 0 := by
  unfold s0
  rw [List.getD_eq_getElem?_getD, List.getElem?_replicate]
  split <;> rfl
set_option maxRecDepth 100000 in
theorem eq_s0 {l : List Int} (hl : l.length = 64) (h : ∀ k, k < 64 → l.getD k 0 = 0) : l = s0 := by
  unfold s0
  refine List.eq_replicate_iff.2 ⟨hl, fun x hx => ?_⟩
  obtain ⟨i, hi, rfl⟩ := List.getElem_of_mem hx
  have := h i (by omega)
  rwa [List.getD_eq_getElem?_getD, List.getElem?_eq_getElem hi] at this
set_option maxRecDepth 100000 in
set_option maxHeartbeats 400000 in
theorem nought_any (a : Option Addr) (cap : Nat) (l : List Int) (w : World) (h : Bts w a 64 cap l) :
    Calls Tryz.prog 66 #[.slice a 64 cap] w fun e w' => e = .returned (.bool (decide (l = s0))) ∧ w = w' := by
  have HL : Bx (l.length = 64) := ⟨h.len_eq⟩
  obtain ⟨b, off, rfl, _, hcell⟩ := h.spot (by decide)
  have HC := Bx.mk hcell
  have hcc := h.le_cap
  have hcm := h.cap_le
  unfold maxLen at hcm
  clear h hcell
  go_enter Tryz.func66, Tryz.ntmps66
  go_wp2_with fail
  go_loopw [3] (fun i wr => ∃ j : Nat, j ≤ 64 ∧ i = .int .i64 j ∧ Bx (∀ k, k < j → l.getD k 0 = 0) ∧ wr = w) (fun i _ => 64 - (intOf i).toNat)
  case atStart => exact ⟨0, by omega, rfl, ⟨fun k hk => absurd hk (Nat.not_lt_zero _)⟩, rfl⟩
  case round =>
    obtain ⟨j, hj, rfl, HZ, hwr⟩ := hrel
    subst hwr
    by_cases hlt : j < 64
    · have hI : (j : Int) < 64 := by omega
      have c0 := HC.out j hlt
      by_cases hz : l.getD j 0 = 0
      · rw [hz] at c0
        have HZ2 : Bx (∀ k, k < j + 1 → l.getD k 0 = 0) := ⟨fun k hk => by
          by_cases e : k = j
          · rw [e]; exact hz
          · exact HZ.out k (by omega)⟩
        clear hz
        go_wp2_with fail
        go_roundw
        case rel => exact ⟨j + 1, by omega, by go_num, HZ2, by first | rfl | trivial⟩
        case measure => simp [intOf]; omega
      · have hb : (l.getD j 0 != 0) = true := by simpa using hz
        have HF : Bx (decide (l = s0) = false) := ⟨decide_eq_false fun e => hz (by rw [e]; exact s0_getD j)⟩
        generalize l.getD j 0 = x at c0 hb
        clear hz
        go_wp2_with fail
        go_ret
        exact ⟨by rw [HF.out]; rfl, rfl⟩
    · have hI : ¬ (j : Int) < 64 := by omega
      have HF : Bx (decide (l = s0) = true) := ⟨decide_eq_true (eq_s0 HL.out (fun k hk => HZ.out k (by omega)))⟩
      clear HZ
      go_wp2_with fail
      go_ret
      exact ⟨by rw [HF.out]; rfl, rfl⟩
set_option maxRecDepth 100000 in
set_option maxHeartbeats 400000 in
theorem rroom_no (gl gd : Nat) (own ownL : Nat → Prop) (s : DS) (m : Nat) (L : LS) (w : World) (hD : RS w gd own s m) (h : Rg w gl ownL gd L) (hn : L.next ≤ s.F.length) (h4 : s.F.length ≤ 4096) (he : L.next = s.F.length) :
    Calls Tryz.prog 51 #[.pointer (some ⟨gl, 0, none⟩)] w fun e w' => e = .returned (.int .i64 (roomV s.F.length L.next)) ∧ ∃ q, w' = w.drewN q := by
  obtain ⟨vt, hR⟩ := h
  obtain ⟨X, left, power, vl, hR9, _, _⟩ := hD
  have c0 := hR.c0
  have c2 := hR.c2
  have d0 := hR9.c0
  have HE : Bx (roomV s.F.length L.next = -1) := ⟨by unfold roomV; rw [if_pos he]⟩
  clear hR hR9
  generalize s.F.length = N at *
  generalize L.next = K at *
  have e1 : IntKind.i64.wrap ((N : Int) - (K : Int)) = (N : Int) - (K : Int) := IntWalk.i64_in _ (by omega)
  have e2 : IntKind.i64.wrap (64 * ((N : Int) - (K : Int))) = 64 * ((N : Int) - (K : Int)) := IntWalk.i64_in _ (by omega)
  have e3 : IntKind.i64.wrap (64 * ((N : Int) - (K : Int)) - 20) = 64 * ((N : Int) - (K : Int)) - 20 := IntWalk.i64_in _ (by omega)
  have g1 : decide (64 * ((N : Int) - (K : Int)) - 20 < 0) = true := decide_eq_true (by omega)
  clear hn h4 he
  go_enter Tryz.func51, Tryz.ntmps51
  go_wp2_with fail
  go_quiet (fail)
  go_wp2_with fail
  go_ret
  exact ⟨ret_int (by rw [HE.out]), nq, rfl⟩
set_option maxRecDepth 100000 in
set_option maxHeartbeats 400000 in
theorem rroom_big (gl gd : Nat) (own ownL : Nat → Prop) (s : DS) (m : Nat) (L : LS) (w : World) (hD : RS w gd own s m) (h : Rg w gl ownL gd L) (hn : L.next ≤ s.F.length) (h4 : s.F.length ≤ 4096) (he : ¬ L.next = s.F.length) (hb : 16384 < ((s.F.length : Int) - L.next) * 64 - 20) :
    Calls Tryz.prog 51 #[.pointer (some ⟨gl, 0, none⟩)] w fun e w' => e = .returned (.int .i64 (roomV s.F.length L.next)) ∧ ∃ q, w' = w.drewN q := by
  obtain ⟨vt, hR⟩ := h
  obtain ⟨X, left, power, vl, hR9, _, _⟩ := hD
  have c0 := hR.c0
  have c2 := hR.c2
  have d0 := hR9.c0
  have HE : Bx (roomV s.F.length L.next = 16384) := ⟨by unfold roomV; rw [if_neg he, if_pos hb]⟩
  clear hR hR9
  generalize s.F.length = N at *
  generalize L.next = K at *
  have e1 : IntKind.i64.wrap ((N : Int) - (K : Int)) = (N : Int) - (K : Int) := IntWalk.i64_in _ (by omega)
  have e2 : IntKind.i64.wrap (64 * ((N : Int) - (K : Int))) = 64 * ((N : Int) - (K : Int)) := IntWalk.i64_in _ (by omega)
  have e3 : IntKind.i64.wrap (64 * ((N : Int) - (K : Int)) - 20) = 64 * ((N : Int) - (K : Int)) - 20 := IntWalk.i64_in _ (by omega)
  have g1 : decide (64 * ((N : Int) - (K : Int)) - 20 < 0) = false := decide_eq_false (by omega); have g2 : decide (64 * ((N : Int) - (K : Int)) - 20 > 16384) = true := decide_eq_true (by omega)
  clear hn h4 he hb
  go_enter Tryz.func51, Tryz.ntmps51
  go_wp2_with fail
  go_quiet (fail)
  go_wp2_with fail
  go_ret
  exact ⟨ret_int (by rw [HE.out]), nq, rfl⟩
set_option maxRecDepth 100000 in
set_option maxHeartbeats 400000 in
theorem rroom_some (gl gd : Nat) (own ownL : Nat → Prop) (s : DS) (m : Nat) (L : LS) (w : World) (hD : RS w gd own s m) (h : Rg w gl ownL gd L) (hn : L.next ≤ s.F.length) (h4 : s.F.length ≤ 4096) (he : ¬ L.next = s.F.length) (hb : ¬ 16384 < ((s.F.length : Int) - L.next) * 64 - 20) :
    Calls Tryz.prog 51 #[.pointer (some ⟨gl, 0, none⟩)] w fun e w' => e = .returned (.int .i64 (roomV s.F.length L.next)) ∧ ∃ q, w' = w.drewN q := by
  obtain ⟨vt, hR⟩ := h
  obtain ⟨X, left, power, vl, hR9, _, _⟩ := hD
  have c0 := hR.c0
  have c2 := hR.c2
  have d0 := hR9.c0
  have HE : Bx (roomV s.F.length L.next = 64 * ((s.F.length : Int) - L.next) - 20) := ⟨by unfold roomV; rw [if_neg he, if_neg hb]; omega⟩
  clear hR hR9
  generalize s.F.length = N at *
  generalize L.next = K at *
  have e1 : IntKind.i64.wrap ((N : Int) - (K : Int)) = (N : Int) - (K : Int) := IntWalk.i64_in _ (by omega)
  have e2 : IntKind.i64.wrap (64 * ((N : Int) - (K : Int))) = 64 * ((N : Int) - (K : Int)) := IntWalk.i64_in _ (by omega)
  have e3 : IntKind.i64.wrap (64 * ((N : Int) - (K : Int)) - 20) = 64 * ((N : Int) - (K : Int)) - 20 := IntWalk.i64_in _ (by omega)
  have g1 : decide (64 * ((N : Int) - (K : Int)) - 20 < 0) = false := decide_eq_false (by omega); have g2 : decide (64 * ((N : Int) - (K : Int)) - 20 > 16384) = false := decide_eq_false (by omega)
  clear hn h4 he hb
  go_enter Tryz.func51, Tryz.ntmps51
  go_wp2_with fail
  go_quiet (fail)
  go_wp2_with fail
  go_ret
  exact ⟨ret_int (by rw [HE.out]), nq, rfl⟩
set_option maxRecDepth 100000 in
theorem rroom_any (gl gd : Nat) (own ownL : Nat → Prop) (s : DS) (m : Nat) (L : LS) (w : World) (hD : RS w gd own s m) (h : Rg w gl ownL gd L) (hn : L.next ≤ s.F.length) (h4 : s.F.length ≤ 4096) :
    Calls Tryz.prog 51 #[.pointer (some ⟨gl, 0, none⟩)] w fun e w' => e = .returned (.int .i64 (roomV s.F.length L.next)) ∧ ∃ q, w' = w.drewN q := by
  by_cases he : L.next = s.F.length
  · exact rroom_no gl gd own ownL s m L w hD h hn h4 he
  · by_cases hb : 16384 < ((s.F.length : Int) - L.next) * 64 - 20
    · exact rroom_big gl gd own ownL s m L w hD h hn h4 he hb
    · exact rroom_some gl gd own ownL s m L w hD h hn h4 he hb
end Go.Proofs.YtjnjokbdoendkaaGreat
