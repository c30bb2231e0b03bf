/- Texts and a log in memory. No walk. -/
import Derived.Test.YtjnjokbdoendkaaGreatSwm
import Derived.Test.YtjnjokbdoendkaaGreatSdk
namespace Go.Proofs.YtjnjokbdoendkaaGreat
open Go.RowKit
set_option linter.unusedVariables false

/-- texts in memory -/
structure Txs (w : World) (ao : Option Addr) (len cap : Nat) (T : List (List Int)) : Prop where
  len_eq : T.length = len
  le_cap : len ≤ cap
  cap_le : cap ≤ maxLen
  spot : 0 < len → ∃ b off, ao = some ⟨b, off, none⟩ ∧ b < w.heap.size ∧ ∀ i, i < len → ∃ ai li ci, w.cell? ⟨b, off + i, none⟩ = some (.slice ai li ci) ∧ Bts w ai li ci (T.getD i [])
set_option maxRecDepth 100000 in
theorem Txs.below {w w' : World} {ao : Option Addr} {len cap : Nat} {T : List (List Int)} (h : Txs w ao len cap T) (hb : Below w.heap.size w w') : Txs w' ao len cap T :=
  ⟨h.len_eq, h.le_cap, h.cap_le, fun hp => by
    obtain ⟨b, off, e, hlt, hc⟩ := h.spot hp
    refine ⟨b, off, e, Nat.lt_of_lt_of_le hlt hb.size, fun i hi => ?_⟩
    obtain ⟨ai, li, ci, h1, h2⟩ := hc i hi
    exact ⟨ai, li, ci, (hb.cell hlt).trans h1, h2.below hb⟩⟩
set_option maxRecDepth 100000 in
theorem Bts.keep {w w' : World} {a : Option Addr} {n c : Nat} {l : List Int} (h : Bts w a n c l) (hb : 0 < n → ∀ p, a = some p → w'.heap[p.block]? = w.heap[p.block]?) (hs : w.heap.size ≤ w'.heap.size) : Bts w' a n c l :=
  ⟨h.len_eq, h.byt, h.le_cap, h.cap_le, h.nil, fun hp => by
    obtain ⟨b, off, e, hlt, hc⟩ := h.spot hp
    have h1 : w'.heap[b]? = w.heap[b]? := hb hp _ e
    exact ⟨b, off, e, Nat.lt_of_lt_of_le hlt hs, fun i hi => (World.cell?_of_block (w := w) h1).trans (hc i hi)⟩⟩
set_option maxRecDepth 100000 in
theorem Bts.lt {w : World} {a : Option Addr} {n c : Nat} {l : List Int} (h : Bts w a n c l) (hp : 0 < n) {p : Addr} (e : a = some p) : p.block < w.heap.size := by
  obtain ⟨b, off, e2, hlt, _⟩ := h.spot hp
  rw [e2] at e; cases e; exact hlt
/-- an own list of texts -/
structure TL (w : World) (own : Nat → Prop) (v : Value) (L : List (List Int)) : Prop where
  row : ∃ xs, w.ownsRow 0 46 1 v L.length xs ∧ ∀ i, i < L.length → ∃ ai li ci, xs[i]? = some (.slice ai li ci) ∧ Bts w ai li ci (L.getD i []) ∧ (0 < li → ∀ p, ai = some p → own p.block ∧ v.ownBlock ≠ some p.block)
  ob : ∀ k, v.ownBlock = some k → own k
set_option maxRecDepth 100000 in
theorem TL.nil (w : World) (own : Nat → Prop) : TL w own (.slice none 0 0) [] := ⟨⟨[], World.ownsRow_nil _ _ _ _, fun i hi => by simp at hi⟩, fun k hk => by simp [Value.ownBlock] at hk⟩
set_option maxRecDepth 100000 in
theorem TL.keep {w w' : World} {own own2 : Nat → Prop} {v : Value} {L : List (List Int)} (h : TL w own v L) (hb : ∀ k, k < w.heap.size → own k → w'.heap[k]? = w.heap[k]?) (hs : w.heap.size ≤ w'.heap.size) (ho : ∀ k, k < w.heap.size → own k → own2 k) : TL w' own2 v L := by
  obtain ⟨xs, h1, h2⟩ := h.row
  refine ⟨⟨xs, ⟨h1.1, ?_⟩, fun i hi => ?_⟩, fun k hk => ho k (h1.lt k hk).2 (h.ob k hk)⟩
  · rcases h1.2 with h3 | ⟨g', cap', cur, hv, hg, hh, r⟩
    · exact .inl h3
    · exact .inr ⟨g', cap', cur, hv, hg, (hb g' (Array.getElem?_eq_some_iff.1 hh).1 (h.ob g' (by rw [hv]; rfl))).trans hh, r⟩
  · obtain ⟨ai, li, ci, e1, e2, e3⟩ := h2 i hi
    exact ⟨ai, li, ci, e1, e2.keep (fun hp p e => hb _ (e2.lt hp e) (e3 hp p e).1) hs, fun hp p e => ⟨ho _ (e2.lt hp e) (e3 hp p e).1, (e3 hp p e).2⟩⟩
set_option maxRecDepth 100000 in
theorem TL.below {w w' : World} {own : Nat → Prop} {v : Value} {L : List (List Int)} (h : TL w own v L) (hb : Below w.heap.size w w') : TL w' own v L := h.keep (fun k hk _ => hb.block k hk) hb.size (fun _ _ h => h)
set_option maxRecDepth 100000 in
theorem TL.kept {w w' : World} {own own2 : Nat → Prop} {v : Value} {L : List (List Int)} (h : TL w own v L) (hb : Kept own2 w w') (hd : ∀ k, own k → ¬ own2 k) : TL w' own v L := h.keep (fun k hk ho => hb.block k hk (hd k ho)) hb.size (fun _ _ h => h)
set_option maxRecDepth 100000 in
theorem TL.form {w : World} {own : Nat → Prop} {v : Value} {L : List (List Int)} (h : TL w own v L) : ∃ a c, v = .slice a L.length c ∧ c ≤ maxLen := by
  obtain ⟨xs, ho, _⟩ := h.row
  rcases ho.2 with ⟨rfl, h0⟩ | ⟨g, cap, cur, rfl, hb, hg, hnc, hcm, hcs, ht⟩
  · exact ⟨none, 0, by rw [h0], Nat.zero_le _⟩
  · exact ⟨some ⟨g, 0, none⟩, cap, rfl, hcm⟩
set_option maxRecDepth 100000 in
theorem TL.txs {w : World} {own : Nat → Prop} {v : Value} {L : List (List Int)} (h : TL w own v L) : ∃ a c, v = .slice a L.length c ∧ Txs w a L.length c L := by
  obtain ⟨xs, ho, hx⟩ := h.row
  rcases ho.2 with ⟨rfl, h0⟩ | ⟨g, cap, cur, rfl, hb, hg, hnc, hcm, hcs, ht⟩
  · exact ⟨none, 0, by rw [h0], rfl, by omega, Nat.zero_le _, fun hp => by omega⟩
  · refine ⟨some ⟨g, 0, none⟩, cap, rfl, rfl, hnc, hcm, fun hp => ⟨g, 0, rfl, (Array.getElem?_eq_some_iff.1 hg).1, fun i hi => ?_⟩⟩
    obtain ⟨ai, li, ci, e1, e2, e3⟩ := hx i hi
    refine ⟨ai, li, ci, ?_, e2⟩
    rw [Nat.zero_add, ho.cellAt i (by omega)]; exact e1
set_option maxRecDepth 100000 in
/-- one text more -/
theorem TL.app {w wB w' : World} {own own2 : Nat → Prop} {v : Value} {L : List (List Int)} {l : List Int} {a : Option Addr} {n c g cap : Nat} {xs : List Value}
    (h : TL w own v L) (hx : ∀ i, i < L.length → ∃ ai li ci, xs[i]? = some (.slice ai li ci) ∧ Bts w ai li ci (L.getD i []) ∧ (0 < li → ∀ p, ai = some p → own p.block ∧ v.ownBlock ≠ some p.block)) (hxl : xs.length = L.length)
    (hbt : Bts w a n c l) (hne : 0 < n → ∀ p, a = some p → own2 p.block ∧ v.ownBlock ≠ some p.block) (hB : wB = w.alloc (.cells #[.slice a n c] 46))
    (ho : w'.ownsRow 0 46 1 (.slice (some ⟨g, 0, none⟩) (L.length + 1) cap) (L.length + 1) (xs ++ [.slice a n c])) (hg : wB.grownBy w' v.ownBlock) (hl : v.ownBlock = some g ∨ g = wB.heap.size)
    (ho2 : ∀ k, own k → own2 k) (hg2 : own2 g) : TL w' own2 (.slice (some ⟨g, 0, none⟩) (L.length + 1) cap) (L ++ [l]) := by
  have hb : Below w.heap.size w wB := by rw [hB]; exact (Below.refl _ _).alloc (Nat.le_refl _) _
  have hcar : ∀ {ai : Option Addr} {li ci : Nat} {y : List Int}, Bts w ai li ci y → (0 < li → ∀ p, ai = some p → own2 p.block ∧ v.ownBlock ≠ some p.block) → Bts w' ai li ci y ∧ (0 < li → ∀ p, ai = some p → own2 p.block ∧ (Value.slice (some ⟨g, 0, none⟩) (L.length + 1) cap).ownBlock ≠ some p.block) := by
    intro ai li ci y hy hn
    refine ⟨hy.keep (fun hp p e => (hg.block _ (Nat.lt_of_lt_of_le (hy.lt hp e) hb.size) (fun hh => (hn hp p e).2 hh.symm)).trans (hb.block _ (hy.lt hp e))) (Nat.le_trans hb.size hg.size), fun hp p e => ⟨(hn hp p e).1, ?_⟩⟩
    show some g ≠ some p.block
    rcases hl with h1 | h1
    · rw [← h1]; exact (hn hp p e).2
    · intro e2
      have e4 : g = p.block := Option.some.inj e2
      have := hy.lt hp e
      have := hb.size
      omega
  refine ⟨⟨xs ++ [.slice a n c], by rw [List.length_append]; exact ho, fun i hi => ?_⟩, fun k hk => ?_⟩
  · rw [List.length_append] at hi
    by_cases hiL : i < L.length
    · obtain ⟨ai, li, ci, e1, e2, e3⟩ := hx i hiL
      obtain ⟨f1, f2⟩ := hcar e2 (fun hp p e => ⟨ho2 _ (e3 hp p e).1, (e3 hp p e).2⟩)
      refine ⟨ai, li, ci, by rw [List.getElem?_append_left (by omega)]; exact e1, ?_, f2⟩
      rw [List.getD_eq_getElem?_getD, List.getElem?_append_left hiL, ← List.getD_eq_getElem?_getD]; exact f1
    · obtain rfl : i = L.length := by simp at hi; omega
      obtain ⟨f1, f2⟩ := hcar hbt hne
      refine ⟨a, n, c, by rw [List.getElem?_append_right (by omega), hxl, Nat.sub_self]; rfl, ?_, f2⟩
      rw [List.getD_eq_getElem?_getD, List.getElem?_append_right (Nat.le_refl _), Nat.sub_self]; exact f1
  · have e : g = k := by simpa [Value.ownBlock] using hk
    rw [← e]; exact hg2
/-- texts of which nothing is somebody's -/
structure TxF (own : Nat → Prop) (w : World) (ao : Option Addr) (len cap : Nat) (T : List (List Int)) : Prop where
  len_eq : T.length = len
  le_cap : len ≤ cap
  cap_le : cap ≤ maxLen
  spot : 0 < len → ∃ b off, ao = some ⟨b, off, none⟩ ∧ b < w.heap.size ∧ ¬ own b ∧ ∀ i, i < len → ∃ ai li ci, w.cell? ⟨b, off + i, none⟩ = some (.slice ai li ci) ∧ Bts w ai li ci (T.getD i []) ∧ (0 < li → ∀ p, ai = some p → ¬ own p.block)
set_option maxRecDepth 100000 in
theorem TL.txf {w : World} {own own2 : Nat → Prop} {v : Value} {L : List (List Int)} (h : TL w own v L) (hd : ∀ k, own k → ¬ own2 k) : ∃ a c, v = .slice a L.length c ∧ TxF own2 w a L.length c L := by
  obtain ⟨xs, ho, hx⟩ := h.row
  have hob := h.ob
  rcases ho.2 with ⟨rfl, h0⟩ | ⟨g, cap, cur, rfl, hb, hg, hnc, hcm, hcs, ht⟩
  · exact ⟨none, 0, by rw [h0], rfl, by omega, Nat.zero_le _, fun hp => by omega⟩
  · refine ⟨some ⟨g, 0, none⟩, cap, rfl, rfl, hnc, hcm, fun hp => ⟨g, 0, rfl, (Array.getElem?_eq_some_iff.1 hg).1, hd _ (hob g rfl), fun i hi => ?_⟩⟩
    obtain ⟨ai, li, ci, e1, e2, e3⟩ := hx i hi
    refine ⟨ai, li, ci, ?_, e2, fun hp p e => hd _ (e3 hp p e).1⟩
    rw [Nat.zero_add, ho.cellAt i (by omega)]; exact e1
set_option maxRecDepth 100000 in
theorem TxF.did {own own' : Nat → Prop} {w w' : World} {ao : Option Addr} {len cap : Nat} {T : List (List Int)} (h : TxF own w ao len cap T) (hk : Did own w w' own') : TxF own' w' ao len cap T :=
  ⟨h.len_eq, h.le_cap, h.cap_le, fun hp => by
    obtain ⟨b, off, e, hlt, hB, hc⟩ := h.spot hp
    have hno : ∀ k, k < w.heap.size → ¬ own k → ¬ own' k := fun k hk1 hk2 hk3 => by rcases hk.new k hk3 with h1 | h1; exact hk2 h1; omega
    refine ⟨b, off, e, Nat.lt_of_lt_of_le hlt hk.kept.size, hno b hlt hB, fun i hi => ?_⟩
    obtain ⟨ai, li, ci, h1, h2, h3⟩ := hc i hi
    exact ⟨ai, li, ci, (World.cell?_of_block (w := w) (hk.kept.block b hlt hB)).trans h1, h2.keep (fun hp p e => hk.kept.block _ (h2.lt hp e) (h3 hp p e)) hk.kept.size, fun hp p e => hno _ (h2.lt hp e) (h3 hp p e)⟩⟩
/-- a log, as the mathematics has it -/
structure LS where
  T : List (List Int)
  next : Nat
  failed : Bool
/-- .. in memory -/
structure LgR (w : World) (gl : Nat) (own : Nat → Prop) (gd : Nat) (L : LS) (vt : Value) : Prop where
  row : w.heap[gl]? = some (.cells #[.pointer (some ⟨gd, 0, none⟩), vt, .int .i64 (L.next : Int), .bool L.failed] 121 (0, 0))
  tl : TL w (fun k => own k ∧ k ≠ gl) vt L.T
  og : own gl
  lt : ∀ k, own k → k < w.heap.size
  ok : TOk L.T
  tn : L.T.length ≤ L.next
  n2 : L.next ≤ 4096
def Lg (w : World) (gl : Nat) (own : Nat → Prop) (gd : Nat) (L : LS) : Prop := ∃ vt, LgR w gl own gd L vt
section
variable {w w' : World} {gl : Nat} {own : Nat → Prop} {gd : Nat} {L : LS} {vt : Value}
set_option maxRecDepth 100000 in
theorem LgR.c0 (h : LgR w gl own gd L vt) : w.cell? ⟨gl, 0, none⟩ = some (.pointer (some ⟨gd, 0, none⟩)) := by rw [cell_of_row w gl 0 _ _ (0, 0) h.row]; rfl
set_option maxRecDepth 100000 in
theorem LgR.c1 (h : LgR w gl own gd L vt) : w.cell? ⟨gl, 1, none⟩ = some vt := by rw [cell_of_row w gl 1 _ _ (0, 0) h.row]; rfl
set_option maxRecDepth 100000 in
theorem LgR.c2 (h : LgR w gl own gd L vt) : w.cell? ⟨gl, 2, none⟩ = some (.int .i64 (L.next : Int)) := by rw [cell_of_row w gl 2 _ _ (0, 0) h.row]; rfl
set_option maxRecDepth 100000 in
theorem LgR.c3 (h : LgR w gl own gd L vt) : w.cell? ⟨gl, 3, none⟩ = some (.bool L.failed) := by rw [cell_of_row w gl 3 _ _ (0, 0) h.row]; rfl
set_option maxRecDepth 100000 in
theorem LgR.fr (h : LgR w gl own gd L vt) (j : Nat) : w.frozen? ⟨gl, j, none⟩ = false := frozen_of_row _ _ j _ _ h.row
set_option maxRecDepth 100000 in
theorem LgR.keep (h : LgR w gl own gd L vt) (hb : ∀ k, own k → w'.heap[k]? = w.heap[k]?) (hs : w.heap.size ≤ w'.heap.size) : LgR w' gl own gd L vt :=
  ⟨(hb gl h.og).trans h.row, h.tl.keep (fun k _ ho => hb k ho.1) hs (fun _ _ h => h), h.og, fun k hk => Nat.lt_of_lt_of_le (h.lt k hk) hs, h.ok, h.tn, h.n2⟩
set_option maxRecDepth 100000 in
theorem Lg.keep (h : Lg w gl own gd L) (hb : ∀ k, own k → w'.heap[k]? = w.heap[k]?) (hs : w.heap.size ≤ w'.heap.size) : Lg w' gl own gd L := by
  obtain ⟨vt, h⟩ := h
  exact ⟨vt, h.keep hb hs⟩
set_option maxRecDepth 100000 in
theorem Lg.lt (h : Lg w gl own gd L) : ∀ k, own k → k < w.heap.size := by obtain ⟨vt, h⟩ := h; exact h.lt
set_option maxRecDepth 100000 in
theorem Lg.below (h : Lg w gl own gd L) (hb : Below w.heap.size w w') : Lg w' gl own gd L := h.keep (fun k hk => hb.block k (h.lt k hk)) hb.size
set_option maxRecDepth 100000 in
theorem Lg.kept {own2 : Nat → Prop} (h : Lg w gl own gd L) (hb : Kept own2 w w') (hd : ∀ k, own k → ¬ own2 k) : Lg w' gl own gd L := h.keep (fun k hk => hb.block k (h.lt k hk) (hd k hk)) hb.size
set_option maxRecDepth 100000 in
theorem LgR.setTl (h : LgR w gl own gd L vt) (j : Nat) (v : Value) : TL (w.setCell ⟨gl, j, none⟩ v) (fun k => own k ∧ k ≠ gl) vt L.T :=
  h.tl.keep (fun k _ ho => heap_setCell_other w ⟨gl, j, none⟩ k v ho.2) (by simp [World.setCell]) (fun _ _ h => h)
set_option maxRecDepth 100000 in
theorem LgR.setLt (h : LgR w gl own gd L vt) (j : Nat) (v : Value) : ∀ k, own k → k < (w.setCell ⟨gl, j, none⟩ v).heap.size := fun k hk => by have := h.lt k hk; simpa [World.setCell] using this
set_option maxRecDepth 100000 in
theorem LgR.setFailed (h : LgR w gl own gd L vt) : LgR (w.setCell ⟨gl, 3, none⟩ (.bool true)) gl own gd { L with failed := true } vt :=
  ⟨heap_setCell_same w gl 3 _ _ _ h.row, h.setTl 3 _, h.og, h.setLt 3 _, h.ok, h.tn, h.n2⟩
end
/-- a call that may change what two own -/
structure Did2 (o1 o2 : Nat → Prop) (w w' : World) (p1 p2 : Nat → Prop) : Prop where
  kept : Kept (fun k => o1 k ∨ o2 k) w w'
  n1 : ∀ k, p1 k → o1 k ∨ (w.heap.size ≤ k ∧ k < w'.heap.size)
  n2 : ∀ k, p2 k → o2 k ∨ (w.heap.size ≤ k ∧ k < w'.heap.size)
  dj : ∀ k, p2 k → ¬ p1 k
end Go.Proofs.YtjnjokbdoendkaaGreat
