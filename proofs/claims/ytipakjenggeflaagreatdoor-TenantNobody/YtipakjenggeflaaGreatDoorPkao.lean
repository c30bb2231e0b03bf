/- Texts and a log in memory. No walk. Lists of changes and of pairs in memory. No walk. A store in memory: its map by keys. No walk. Whether changes can be: the program's answer. What the small calls of a log answer. What Texts of a log answers. What readDisk and readFrames answer. What readFrames answers. What wipe answers, and Open. What Open answers. What cut answers: a frame's pieces. -/
import Derived.Test.YtipakjenggeflaaGreatDoorPkal
import Derived.Test.YtipakjenggeflaaGreatDoorPkan
import Derived.Test.YtipakjenggeflaaGreatDoorPkai
import Derived.MapKept
namespace Go.Proofs.YtipakjenggeflaaGreatDoor
open Go.RowKit
set_option linter.unusedVariables false

/-- texts in memory -/
structure TxsW (w : World) (ao : Option Addr) (len cap : Nat) (T : List (List Int)) : Prop where
  len_eq : T.length = len
  le_cap : len ≤ cap
  cap_le : cap ≤ maxLen
  spot : 0 < len → ∃ b off, ao = some ⟨b, off, none⟩ ∧ b < w.heap.size ∧ ∀ i, i < len → ∃ ai li ci, w.cell? ⟨b, off + i, none⟩ = some (.slice ai li ci) ∧ Bts w ai li ci (T.getD i [])
set_option maxRecDepth 100000 in
theorem TxsW.below {w w' : World} {ao : Option Addr} {len cap : Nat} {T : List (List Int)} (h : TxsW w ao len cap T) (hb : Below w.heap.size w w') : TxsW w' ao len cap T :=
  ⟨h.len_eq, h.le_cap, h.cap_le, fun hp => by
    obtain ⟨b, off, e, hlt, hc⟩ := h.spot hp
    refine ⟨b, off, e, Nat.lt_of_lt_of_le hlt hb.size, fun i hi => ?_⟩
    obtain ⟨ai, li, ci, h1, h2⟩ := hc i hi
    exact ⟨ai, li, ci, (hb.cell hlt).trans h1, h2.below hb⟩⟩
/-- an own list of texts -/
structure TL (w : World) (own : Nat → Prop) (v : Value) (L : List (List Int)) : Prop where
  row : ∃ xs, w.ownsRow 0 34 1 v L.length xs ∧ ∀ i, i < L.length → ∃ ai li ci, xs[i]? = some (.slice ai li ci) ∧ Bts w ai li ci (L.getD i []) ∧ (0 < li → ∀ p, ai = some p → own p.block ∧ v.ownBlock ≠ some p.block)
  ob : ∀ k, v.ownBlock = some k → own k
set_option maxRecDepth 100000 in
theorem TL.nil (w : World) (own : Nat → Prop) : TL w own (.slice none 0 0) [] := ⟨⟨[], World.ownsRow_nil _ _ _ _, fun i hi => by simp at hi⟩, fun k hk => by simp [Value.ownBlock] at hk⟩
set_option maxRecDepth 100000 in
theorem TL.keep {w w' : World} {own own2 : Nat → Prop} {v : Value} {L : List (List Int)} (h : TL w own v L) (hb : ∀ k, k < w.heap.size → own k → w'.heap[k]? = w.heap[k]?) (hs : w.heap.size ≤ w'.heap.size) (ho : ∀ k, k < w.heap.size → own k → own2 k) : TL w' own2 v L := by
  obtain ⟨xs, h1, h2⟩ := h.row
  refine ⟨⟨xs, ⟨h1.1, ?_⟩, fun i hi => ?_⟩, fun k hk => ho k (h1.lt k hk).2 (h.ob k hk)⟩
  · rcases h1.2 with h3 | ⟨g', cap', cur, hv, hg, hh, r⟩
    · exact .inl h3
    · exact .inr ⟨g', cap', cur, hv, hg, (hb g' (Array.getElem?_eq_some_iff.1 hh).1 (h.ob g' (by rw [hv]; rfl))).trans hh, r⟩
  · obtain ⟨ai, li, ci, e1, e2, e3⟩ := h2 i hi
    exact ⟨ai, li, ci, e1, e2.keep (fun hp p e => hb _ (e2.lt hp e) (e3 hp p e).1) hs, fun hp p e => ⟨ho _ (e2.lt hp e) (e3 hp p e).1, (e3 hp p e).2⟩⟩
set_option maxRecDepth 100000 in
theorem TL.below {w w' : World} {own : Nat → Prop} {v : Value} {L : List (List Int)} (h : TL w own v L) (hb : Below w.heap.size w w') : TL w' own v L := h.keep (fun k hk _ => hb.block k hk) hb.size (fun _ _ h => h)
set_option maxRecDepth 100000 in
theorem TL.kept {w w' : World} {own own2 : Nat → Prop} {v : Value} {L : List (List Int)} (h : TL w own v L) (hb : Kept own2 w w') (hd : ∀ k, own k → ¬ own2 k) : TL w' own v L := h.keep (fun k hk ho => hb.block k hk (hd k ho)) hb.size (fun _ _ h => h)
set_option maxRecDepth 100000 in
theorem TL.form {w : World} {own : Nat → Prop} {v : Value} {L : List (List Int)} (h : TL w own v L) : ∃ a c, v = .slice a L.length c ∧ c ≤ maxLen := by
  obtain ⟨xs, ho, _⟩ := h.row
  rcases ho.2 with ⟨rfl, h0⟩ | ⟨g, cap, cur, rfl, hb, hg, hnc, hcm, hcs, ht⟩
  · exact ⟨none, 0, by rw [h0], Nat.zero_le _⟩
  · exact ⟨some ⟨g, 0, none⟩, cap, rfl, hcm⟩
set_option maxRecDepth 100000 in
theorem TL.txs {w : World} {own : Nat → Prop} {v : Value} {L : List (List Int)} (h : TL w own v L) : ∃ a c, v = .slice a L.length c ∧ TxsW w a L.length c L := by
  obtain ⟨xs, ho, hx⟩ := h.row
  rcases ho.2 with ⟨rfl, h0⟩ | ⟨g, cap, cur, rfl, hb, hg, hnc, hcm, hcs, ht⟩
  · exact ⟨none, 0, by rw [h0], rfl, by omega, Nat.zero_le _, fun hp => by omega⟩
  · refine ⟨some ⟨g, 0, none⟩, cap, rfl, rfl, hnc, hcm, fun hp => ⟨g, 0, rfl, (Array.getElem?_eq_some_iff.1 hg).1, fun i hi => ?_⟩⟩
    obtain ⟨ai, li, ci, e1, e2, e3⟩ := hx i hi
    refine ⟨ai, li, ci, ?_, e2⟩
    rw [Nat.zero_add, ho.cellAt i (by omega)]; exact e1
set_option maxRecDepth 100000 in
/-- one text more -/
theorem TL.app {w wB w' : World} {own own2 : Nat → Prop} {v : Value} {L : List (List Int)} {l : List Int} {a : Option Addr} {n c g cap : Nat} {xs : List Value}
    (h : TL w own v L) (hx : ∀ i, i < L.length → ∃ ai li ci, xs[i]? = some (.slice ai li ci) ∧ Bts w ai li ci (L.getD i []) ∧ (0 < li → ∀ p, ai = some p → own p.block ∧ v.ownBlock ≠ some p.block)) (hxl : xs.length = L.length)
    (hbt : Bts w a n c l) (hne : 0 < n → ∀ p, a = some p → own2 p.block ∧ v.ownBlock ≠ some p.block) (hB : wB = w.alloc (.cells #[.slice a n c] 34))
    (ho : w'.ownsRow 0 34 1 (.slice (some ⟨g, 0, none⟩) (L.length + 1) cap) (L.length + 1) (xs ++ [.slice a n c])) (hg : wB.grownBy w' v.ownBlock) (hl : v.ownBlock = some g ∨ g = wB.heap.size)
    (ho2 : ∀ k, own k → own2 k) (hg2 : own2 g) : TL w' own2 (.slice (some ⟨g, 0, none⟩) (L.length + 1) cap) (L ++ [l]) := by
  have hb : Below w.heap.size w wB := by rw [hB]; exact (Below.refl _ _).alloc (Nat.le_refl _) _
  have hcar : ∀ {ai : Option Addr} {li ci : Nat} {y : List Int}, Bts w ai li ci y → (0 < li → ∀ p, ai = some p → own2 p.block ∧ v.ownBlock ≠ some p.block) → Bts w' ai li ci y ∧ (0 < li → ∀ p, ai = some p → own2 p.block ∧ (Value.slice (some ⟨g, 0, none⟩) (L.length + 1) cap).ownBlock ≠ some p.block) := by
    intro ai li ci y hy hn
    refine ⟨hy.keep (fun hp p e => (hg.block _ (Nat.lt_of_lt_of_le (hy.lt hp e) hb.size) (fun hh => (hn hp p e).2 hh.symm)).trans (hb.block _ (hy.lt hp e))) (Nat.le_trans hb.size hg.size), fun hp p e => ⟨(hn hp p e).1, ?_⟩⟩
    show some g ≠ some p.block
    rcases hl with h1 | h1
    · rw [← h1]; exact (hn hp p e).2
    · intro e2
      have e4 : g = p.block := Option.some.inj e2
      have := hy.lt hp e
      have := hb.size
      omega
  refine ⟨⟨xs ++ [.slice a n c], by rw [List.length_append]; exact ho, fun i hi => ?_⟩, fun k hk => ?_⟩
  · rw [List.length_append] at hi
    by_cases hiL : i < L.length
    · obtain ⟨ai, li, ci, e1, e2, e3⟩ := hx i hiL
      obtain ⟨f1, f2⟩ := hcar e2 (fun hp p e => ⟨ho2 _ (e3 hp p e).1, (e3 hp p e).2⟩)
      refine ⟨ai, li, ci, by rw [List.getElem?_append_left (by omega)]; exact e1, ?_, f2⟩
      rw [List.getD_eq_getElem?_getD, List.getElem?_append_left hiL, ← List.getD_eq_getElem?_getD]; exact f1
    · obtain rfl : i = L.length := by simp at hi; omega
      obtain ⟨f1, f2⟩ := hcar hbt hne
      refine ⟨a, n, c, by rw [List.getElem?_append_right (by omega), hxl, Nat.sub_self]; rfl, ?_, f2⟩
      rw [List.getD_eq_getElem?_getD, List.getElem?_append_right (Nat.le_refl _), Nat.sub_self]; exact f1
  · have e : g = k := by simpa [Value.ownBlock] using hk
    rw [← e]; exact hg2
/-- texts of which nothing is somebody's -/
structure TxF (own : Nat → Prop) (w : World) (ao : Option Addr) (len cap : Nat) (T : List (List Int)) : Prop where
  len_eq : T.length = len
  le_cap : len ≤ cap
  cap_le : cap ≤ maxLen
  spot : 0 < len → ∃ b off, ao = some ⟨b, off, none⟩ ∧ b < w.heap.size ∧ ¬ own b ∧ ∀ i, i < len → ∃ ai li ci, w.cell? ⟨b, off + i, none⟩ = some (.slice ai li ci) ∧ Bts w ai li ci (T.getD i []) ∧ (0 < li → ∀ p, ai = some p → ¬ own p.block)
set_option maxRecDepth 100000 in
theorem TL.txf {w : World} {own own2 : Nat → Prop} {v : Value} {L : List (List Int)} (h : TL w own v L) (hd : ∀ k, own k → ¬ own2 k) : ∃ a c, v = .slice a L.length c ∧ TxF own2 w a L.length c L := by
  obtain ⟨xs, ho, hx⟩ := h.row
  have hob := h.ob
  rcases ho.2 with ⟨rfl, h0⟩ | ⟨g, cap, cur, rfl, hb, hg, hnc, hcm, hcs, ht⟩
  · exact ⟨none, 0, by rw [h0], rfl, by omega, Nat.zero_le _, fun hp => by omega⟩
  · refine ⟨some ⟨g, 0, none⟩, cap, rfl, rfl, hnc, hcm, fun hp => ⟨g, 0, rfl, (Array.getElem?_eq_some_iff.1 hg).1, hd _ (hob g rfl), fun i hi => ?_⟩⟩
    obtain ⟨ai, li, ci, e1, e2, e3⟩ := hx i hi
    refine ⟨ai, li, ci, ?_, e2, fun hp p e => hd _ (e3 hp p e).1⟩
    rw [Nat.zero_add, ho.cellAt i (by omega)]; exact e1
set_option maxRecDepth 100000 in
theorem TxF.did {own own' : Nat → Prop} {w w' : World} {ao : Option Addr} {len cap : Nat} {T : List (List Int)} (h : TxF own w ao len cap T) (hk : Did own w w' own') : TxF own' w' ao len cap T :=
  ⟨h.len_eq, h.le_cap, h.cap_le, fun hp => by
    obtain ⟨b, off, e, hlt, hB, hc⟩ := h.spot hp
    have hno : ∀ k, k < w.heap.size → ¬ own k → ¬ own' k := fun k hk1 hk2 hk3 => by rcases hk.new k hk3 with h1 | h1; exact hk2 h1; omega
    refine ⟨b, off, e, Nat.lt_of_lt_of_le hlt hk.kept.size, hno b hlt hB, fun i hi => ?_⟩
    obtain ⟨ai, li, ci, h1, h2, h3⟩ := hc i hi
    exact ⟨ai, li, ci, (World.cell?_of_block (w := w) (hk.kept.block b hlt hB)).trans h1, h2.keep (fun hp p e => hk.kept.block _ (h2.lt hp e) (h3 hp p e)) hk.kept.size, fun hp p e => hno _ (h2.lt hp e) (h3 hp p e)⟩⟩
/-- a log, as the mathematics has it -/
structure LS where
  T : List (List Int)
  next : Nat
  failed : Bool
/-- .. in memory -/
structure LgRW (w : World) (gl : Nat) (own : Nat → Prop) (gd : Nat) (L : LS) (vt : Value) : Prop where
  row : w.heap[gl]? = some (.cells #[.pointer (some ⟨gd, 0, none⟩), vt, .int .i64 (L.next : Int), .bool L.failed] 207 (0, 0))
  tl : TL w (fun k => own k ∧ k ≠ gl) vt L.T
  og : own gl
  lt : ∀ k, own k → k < w.heap.size
  ok : TOkW L.T
  tn : L.T.length ≤ L.next
  n2 : L.next ≤ 4096
def LgW (w : World) (gl : Nat) (own : Nat → Prop) (gd : Nat) (L : LS) : Prop := ∃ vt, LgRW w gl own gd L vt
section
variable {w w' : World} {gl : Nat} {own : Nat → Prop} {gd : Nat} {L : LS} {vt : Value}
set_option maxRecDepth 100000 in
theorem LgRW.c0 (h : LgRW w gl own gd L vt) : w.cell? ⟨gl, 0, none⟩ = some (.pointer (some ⟨gd, 0, none⟩)) := by rw [cell_of_row w gl 0 _ _ (0, 0) h.row]; rfl
set_option maxRecDepth 100000 in
theorem LgRW.c1 (h : LgRW w gl own gd L vt) : w.cell? ⟨gl, 1, none⟩ = some vt := by rw [cell_of_row w gl 1 _ _ (0, 0) h.row]; rfl
set_option maxRecDepth 100000 in
theorem LgRW.c2 (h : LgRW w gl own gd L vt) : w.cell? ⟨gl, 2, none⟩ = some (.int .i64 (L.next : Int)) := by rw [cell_of_row w gl 2 _ _ (0, 0) h.row]; rfl
set_option maxRecDepth 100000 in
theorem LgRW.c3 (h : LgRW w gl own gd L vt) : w.cell? ⟨gl, 3, none⟩ = some (.bool L.failed) := by rw [cell_of_row w gl 3 _ _ (0, 0) h.row]; rfl
set_option maxRecDepth 100000 in
theorem LgRW.fr (h : LgRW w gl own gd L vt) (j : Nat) : w.frozen? ⟨gl, j, none⟩ = false := frozen_of_row _ _ j _ _ h.row
set_option maxRecDepth 100000 in
theorem LgRW.keep (h : LgRW w gl own gd L vt) (hb : ∀ k, own k → w'.heap[k]? = w.heap[k]?) (hs : w.heap.size ≤ w'.heap.size) : LgRW w' gl own gd L vt :=
  ⟨(hb gl h.og).trans h.row, h.tl.keep (fun k _ ho => hb k ho.1) hs (fun _ _ h => h), h.og, fun k hk => Nat.lt_of_lt_of_le (h.lt k hk) hs, h.ok, h.tn, h.n2⟩
set_option maxRecDepth 100000 in
theorem LgW.keep (h : LgW w gl own gd L) (hb : ∀ k, own k → w'.heap[k]? = w.heap[k]?) (hs : w.heap.size ≤ w'.heap.size) : LgW w' gl own gd L := by
  obtain ⟨vt, h⟩ := h
  exact ⟨vt, h.keep hb hs⟩
set_option maxRecDepth 100000 in
theorem LgW.lt (h : LgW w gl own gd L) : ∀ k, own k → k < w.heap.size := by obtain ⟨vt, h⟩ := h; exact h.lt
set_option maxRecDepth 100000 in
theorem LgW.below (h : LgW w gl own gd L) (hb : Below w.heap.size w w') : LgW w' gl own gd L := h.keep (fun k hk => hb.block k (h.lt k hk)) hb.size
set_option maxRecDepth 100000 in
theorem LgW.kept {own2 : Nat → Prop} (h : LgW w gl own gd L) (hb : Kept own2 w w') (hd : ∀ k, own k → ¬ own2 k) : LgW w' gl own gd L := h.keep (fun k hk => hb.block k (h.lt k hk) (hd k hk)) hb.size
set_option maxRecDepth 100000 in
theorem LgRW.setTl (h : LgRW w gl own gd L vt) (j : Nat) (v : Value) : TL (w.setCell ⟨gl, j, none⟩ v) (fun k => own k ∧ k ≠ gl) vt L.T :=
  h.tl.keep (fun k _ ho => heap_setCell_other w ⟨gl, j, none⟩ k v ho.2) (by simp [World.setCell]) (fun _ _ h => h)
set_option maxRecDepth 100000 in
theorem LgRW.setLt (h : LgRW w gl own gd L vt) (j : Nat) (v : Value) : ∀ k, own k → k < (w.setCell ⟨gl, j, none⟩ v).heap.size := fun k hk => by have := h.lt k hk; simpa [World.setCell] using this
set_option maxRecDepth 100000 in
theorem LgRW.setFailed (h : LgRW w gl own gd L vt) : LgRW (w.setCell ⟨gl, 3, none⟩ (.bool true)) gl own gd { L with failed := true } vt :=
  ⟨heap_setCell_same w gl 3 _ _ _ h.row, h.setTl 3 _, h.og, h.setLt 3 _, h.ok, h.tn, h.n2⟩
end
/-- a call that may change what two own -/
structure Did2 (o1 o2 : Nat → Prop) (w w' : World) (p1 p2 : Nat → Prop) : Prop where
  kept : Kept (fun k => o1 k ∨ o2 k) w w'
  n1 : ∀ k, p1 k → o1 k ∨ (w.heap.size ≤ k ∧ k < w'.heap.size)
  n2 : ∀ k, p2 k → o2 k ∨ (w.heap.size ≤ k ∧ k < w'.heap.size)
  dj : ∀ k, p2 k → ¬ p1 k
end Go.Proofs.YtipakjenggeflaaGreatDoor
namespace Go.Proofs.YtipakjenggeflaaGreatDoor
open Go.RowKit
set_option linter.unusedVariables false

/-- an element of a list: what it is, and where its bytes lie -/
structure It (α : Type) where
  x : α
  a : Option Addr
  n : Nat
  c : Nat
/-- its cells -/
def chE (z : It Chg) : List Value := [.string z.x.key, .bool z.x.del, .slice z.a z.n z.c]
def prE (z : It Pr) : List Value := [.string z.x.1, .slice z.a z.n z.c]
set_option maxRecDepth 100000 in
theorem chE_len (z : It Chg) : (chE z).length = 3 := rfl
set_option maxRecDepth 100000 in
theorem prE_len (z : It Pr) : (prE z).length = 2 := rfl
set_option maxRecDepth 100000 in
theorem prE_one (z : It Pr) : ∀ u ∈ prE z, u.oneCell' = true := by intro u hu; simp [prE] at hu; rcases hu with rfl | rfl <;> rfl
set_option maxRecDepth 100000 in
theorem frozen_keep {w w' : World} {k j : Nat} (h : w'.heap[k]? = w.heap[k]?) : w'.frozen? ⟨k, j, none⟩ = w.frozen? ⟨k, j, none⟩ := by simp [World.frozen?, h]
/-- no cell of it is frozen -/
def Unf (w : World) (k : Nat) : Prop := ∀ j, w.frozen? ⟨k, j, none⟩ = false
set_option maxRecDepth 100000 in
theorem Unf.keep {w w' : World} {k : Nat} (h : Unf w k) (hb : w'.heap[k]? = w.heap[k]?) : Unf w' k := fun j => (frozen_keep hb).trans (h j)
set_option maxRecDepth 100000 in
theorem own_unf {w : World} {base n c k : Nat} {E : TypeId} {a : Option Addr} {xs : List Value} (h : w.ownsRow base E k (.slice a n c) n xs) : ∀ p, a = some p → Unf w p.block := fun p e j => by
  rcases h.2 with ⟨h1, _⟩ | ⟨g, cap, cur, hv, _, hh, _⟩
  · cases h1; cases e
  · cases hv; cases e; exact frozen_of_row w g j _ _ hh
section
variable {α : Type} {en : It α → List Value} {k : Nat} {vl : α → List Int} {E : TypeId}
set_option maxRecDepth 100000 in
theorem flat_getS (hk : ∀ z, (en z).length = k) (Z : List (It α)) (i j : Nat) (hi : i < Z.length) (hj : j < k) : (Z.flatMap en)[i * k + j]? = (en Z[i])[j]? := by
  induction Z generalizing i with
  | nil => simp at hi
  | cons z t ih =>
    rw [List.flatMap_cons]
    cases i with
    | zero => rw [Nat.zero_mul, Nat.zero_add, List.getElem?_append_left (by rw [hk]; exact hj)]; rfl
    | succ i =>
      rw [List.getElem?_append_right (by rw [hk, Nat.succ_mul]; omega), hk, show (i + 1) * k + j - k = i * k + j from by rw [Nat.succ_mul]; omega, ih i (by simpa using hi)]; rfl
set_option maxRecDepth 100000 in
theorem flatC_len (hk : ∀ z, (en z).length = k) (Z : List (It α)) : (Z.flatMap en).length = Z.length * k := by
  induction Z with
  | nil => simp
  | cons z t ih => rw [List.flatMap_cons, List.length_append, ih, hk, List.length_cons, Nat.succ_mul]; omega
/-- a list in memory, all of it in blocks of B -/
structure RT (en : It α → List Value) (k : Nat) (vl : α → List Int) (B : Nat → Prop) (w : World) (ao : Option Addr) (len cap : Nat) (L : List α) : Prop where
  len_eq : L.length = len
  le_cap : len ≤ cap
  cap_le : cap ≤ maxLen
  spot : 0 < len → ∃ b off, ao = some ⟨b, off, none⟩ ∧ b < w.heap.size ∧ B b ∧ ∀ i, i < len → ∃ z : It α, L[i]? = some z.x ∧ (∀ j, j < k → w.cell? ⟨b, off + i * k + j, none⟩ = (en z)[j]?) ∧ Bts w z.a z.n z.c (vl z.x) ∧ (0 < z.n → ∀ p, z.a = some p → B p.block)
set_option maxRecDepth 100000 in
theorem RT.keep {B B2 : Nat → Prop} {w w' : World} {ao : Option Addr} {len cap : Nat} {L : List α} (h : RT en k vl B w ao len cap L) (hb : ∀ k, k < w.heap.size → B k → w'.heap[k]? = w.heap[k]?) (hs : w.heap.size ≤ w'.heap.size) (ho : ∀ k, k < w.heap.size → B k → B2 k) : RT en k vl B2 w' ao len cap L :=
  ⟨h.len_eq, h.le_cap, h.cap_le, fun hp => by
    obtain ⟨b, off, e, hlt, hB, hc⟩ := h.spot hp
    refine ⟨b, off, e, Nat.lt_of_lt_of_le hlt hs, ho b hlt hB, fun i hi => ?_⟩
    obtain ⟨z, h1, h2, h3, h4⟩ := hc i hi
    exact ⟨z, h1, fun j hj => (World.cell?_of_block (w := w) (hb b hlt hB)).trans (h2 j hj), h3.keep (fun hp p e => hb _ (h3.lt hp e) (h4 hp p e)) hs, fun hp p e => ho _ (h3.lt hp e) (h4 hp p e)⟩⟩
set_option maxRecDepth 100000 in
theorem RT.below {B : Nat → Prop} {w w' : World} {ao : Option Addr} {len cap : Nat} {L : List α} (h : RT en k vl B w ao len cap L) (hb : Below w.heap.size w w') : RT en k vl B w' ao len cap L := h.keep (fun k hk _ => hb.block k hk) hb.size (fun _ _ h => h)
set_option maxRecDepth 100000 in
theorem RT.drewN {B : Nat → Prop} {w : World} {ao : Option Addr} {len cap : Nat} {L : List α} (h : RT en k vl B w ao len cap L) (n : Nat) : RT en k vl B (w.drewN n) ao len cap L := h.keep (fun _ _ _ => rfl) (Nat.le_refl _) (fun _ _ h => h)
set_option maxRecDepth 100000 in
theorem RT.kept {B own : Nat → Prop} {w w' : World} {ao : Option Addr} {len cap : Nat} {L : List α} (h : RT en k vl B w ao len cap L) (hb : Kept own w w') (hd : ∀ k, B k → ¬ own k) : RT en k vl B w' ao len cap L := h.keep (fun k hk ho => hb.block k hk (hd k ho)) hb.size (fun _ _ h => h)
set_option maxRecDepth 100000 in
theorem RT.mono {B B2 : Nat → Prop} {w : World} {ao : Option Addr} {len cap : Nat} {L : List α} (h : RT en k vl B w ao len cap L) (ho : ∀ k, k < w.heap.size → B k → B2 k) : RT en k vl B2 w ao len cap L := h.keep (fun _ _ _ => rfl) (Nat.le_refl _) ho
set_option maxRecDepth 100000 in
/-- all of it lies low, and stays while what is low stays -/
theorem RT.low {B : Nat → Prop} {w : World} {ao : Option Addr} {len cap : Nat} {L : List α} (h : RT en k vl B w ao len cap L) : RT en k vl (fun k => k < w.heap.size) w ao len cap L := h.mono (fun k hk _ => hk)
set_option maxRecDepth 100000 in
theorem RT.stay {N : Nat} {w w' : World} {ao : Option Addr} {len cap : Nat} {L : List α} (h : RT en k vl (fun k => k < N) w ao len cap L) (hb : Below N w w') : RT en k vl (fun k => k < N) w' ao len cap L := h.keep (fun k _ ho => hb.block k ho) hb.size (fun _ _ h => h)
set_option maxRecDepth 100000 in
/-- its beginning -/
theorem RT.take {B : Nat → Prop} {w : World} {ao : Option Addr} {len cap : Nat} {L : List α} (h : RT en k vl B w ao len cap L) (m : Nat) (hm : m ≤ len) : RT en k vl B w ao m cap (L.take m) :=
  ⟨by rw [List.length_take, h.len_eq]; omega, Nat.le_trans hm h.le_cap, h.cap_le, fun hp => by
    obtain ⟨b, off, e, hlt, hB, hc⟩ := h.spot (by omega)
    refine ⟨b, off, e, hlt, hB, fun i hi => ?_⟩
    obtain ⟨z, h1, h2⟩ := hc i (by omega)
    exact ⟨z, by rw [List.getElem?_take, if_pos hi]; exact h1, h2⟩⟩
/-- an own list -/
structure RL (en : It α → List Value) (k : Nat) (vl : α → List Int) (E : TypeId) (w : World) (own : Nat → Prop) (v : Value) (L : List α) : Prop where
  row : ∃ Z : List (It α), Z.map (·.x) = L ∧ w.ownsRow 0 E k v L.length (Z.flatMap en) ∧ ∀ z ∈ Z, Bts w z.a z.n z.c (vl z.x) ∧ (0 < z.n → ∀ p, z.a = some p → own p.block ∧ v.ownBlock ≠ some p.block ∧ Unf w p.block)
  ob : ∀ k, v.ownBlock = some k → own k
set_option maxRecDepth 100000 in
theorem RL.nil (w : World) (own : Nat → Prop) : RL en k vl E w own (.slice none 0 0) [] := ⟨⟨[], rfl, World.ownsRow_nil _ _ _ _, fun i hi => by simp at hi⟩, fun k hk => by simp [Value.ownBlock] at hk⟩
set_option maxRecDepth 100000 in
theorem RL.keep {w w' : World} {own own2 : Nat → Prop} {v : Value} {L : List α} (h : RL en k vl E w own v L) (hb : ∀ k, k < w.heap.size → own k → w'.heap[k]? = w.heap[k]?) (hs : w.heap.size ≤ w'.heap.size) (ho : ∀ k, k < w.heap.size → own k → own2 k) : RL en k vl E w' own2 v L := by
  obtain ⟨Z, h0, h1, h2⟩ := h.row
  refine ⟨⟨Z, h0, ⟨h1.1, ?_⟩, fun z hz => ?_⟩, fun k hk => ho k (h1.lt k hk).2 (h.ob k hk)⟩
  · rcases h1.2 with h3 | ⟨g', cap', cur, hv, hg, hh, r⟩
    · exact .inl h3
    · exact .inr ⟨g', cap', cur, hv, hg, (hb g' (Array.getElem?_eq_some_iff.1 hh).1 (h.ob g' (by rw [hv]; rfl))).trans hh, r⟩
  · obtain ⟨e2, e3⟩ := h2 z hz
    exact ⟨e2.keep (fun hp p e => hb _ (e2.lt hp e) (e3 hp p e).1) hs, fun hp p e => ⟨ho _ (e2.lt hp e) (e3 hp p e).1, (e3 hp p e).2.1, (e3 hp p e).2.2.keep (hb _ (e2.lt hp e) (e3 hp p e).1)⟩⟩
set_option maxRecDepth 100000 in
theorem RL.below {w w' : World} {own : Nat → Prop} {v : Value} {L : List α} (h : RL en k vl E w own v L) (hb : Below w.heap.size w w') : RL en k vl E w' own v L := h.keep (fun k hk _ => hb.block k hk) hb.size (fun _ _ h => h)
set_option maxRecDepth 100000 in
theorem RL.drewN {w : World} {own : Nat → Prop} {v : Value} {L : List α} (h : RL en k vl E w own v L) (n : Nat) : RL en k vl E (w.drewN n) own v L := h.keep (fun _ _ _ => rfl) (Nat.le_refl _) (fun _ _ h => h)
set_option maxRecDepth 100000 in
theorem RL.mono {w : World} {own own2 : Nat → Prop} {v : Value} {L : List α} (h : RL en k vl E w own v L) (ho : ∀ k, k < w.heap.size → own k → own2 k) : RL en k vl E w own2 v L := h.keep (fun _ _ _ => rfl) (Nat.le_refl _) ho
set_option maxRecDepth 100000 in
theorem RL.list {w : World} {own : Nat → Prop} {v : Value} {L M : List α} (h : RL en k vl E w own v L) (e : L = M) : RL en k vl E w own v M := by rw [← e]; exact h
set_option maxRecDepth 100000 in
theorem RL.lt {w : World} {own : Nat → Prop} {v : Value} {L : List α} (h : RL en k vl E w own v L) {j : Nat} (hj : v.ownBlock = some j) : j < w.heap.size := by
  obtain ⟨Z, h0, h1, h2⟩ := h.row
  exact (h1.lt j hj).2
set_option maxRecDepth 100000 in
theorem RL.form {w : World} {own : Nat → Prop} {v : Value} {L : List α} (h : RL en k vl E w own v L) : ∃ a c, v = .slice a L.length c ∧ c ≤ maxLen := by
  obtain ⟨Z, _, ho, _⟩ := h.row
  rcases ho.2 with ⟨rfl, h0⟩ | ⟨g, cap, cur, rfl, hb, hg, hnc, hcm, hcs, ht⟩
  · exact ⟨none, 0, by rw [h0], Nat.zero_le _⟩
  · exact ⟨some ⟨g, 0, none⟩, cap, rfl, hcm⟩
set_option maxRecDepth 100000 in
theorem RL.rt (hk : ∀ z, (en z).length = k) {w : World} {own : Nat → Prop} {v : Value} {L : List α} (h : RL en k vl E w own v L) : ∃ a c, v = .slice a L.length c ∧ RT en k vl own w a L.length c L := by
  obtain ⟨Z, hZ, ho, hx⟩ := h.row
  have hob := h.ob
  have hZl : Z.length = L.length := by rw [← hZ, List.length_map]
  rcases ho.2 with ⟨rfl, h0⟩ | ⟨g, cap, cur, rfl, hb, hg, hnc, hcm, hcs, ht⟩
  · exact ⟨none, 0, by rw [h0], rfl, by omega, Nat.zero_le _, fun hp => by omega⟩
  · refine ⟨some ⟨g, 0, none⟩, cap, rfl, rfl, hnc, hcm, fun hp => ⟨g, 0, rfl, (Array.getElem?_eq_some_iff.1 hg).1, hob g rfl, fun i hi => ?_⟩⟩
    have hi2 : i < Z.length := by omega
    obtain ⟨e2, e3⟩ := hx Z[i] (List.getElem_mem hi2)
    refine ⟨Z[i], by rw [← hZ, List.getElem?_map, List.getElem?_eq_getElem hi2]; rfl, fun j hj => ?_, e2, fun hp p e => (e3 hp p e).1⟩
    rw [Nat.zero_add, ho.cellAt (i * k + j) (by have : (i + 1) * k ≤ L.length * k := Nat.mul_le_mul_right _ hi; rw [Nat.succ_mul] at this; omega), flat_getS hk Z i j hi2 hj]
/-- an append of one element to an own list: what it asks, what it gives -/
structure RA (en : It α → List Value) (k : Nat) (vl : α → List Int) (w : World) (own : Nat → Prop) (v : Value) (L : List α) (Z : List (It α)) : Prop where
  z : Z.map (·.x) = L
  b : ∀ z ∈ Z, Bts w z.a z.n z.c (vl z.x) ∧ (0 < z.n → ∀ p, z.a = some p → own p.block ∧ v.ownBlock ≠ some p.block ∧ Unf w p.block)
set_option maxRecDepth 100000 in
theorem RL.open {w : World} {own : Nat → Prop} {v : Value} {L : List α} (h : RL en k vl E w own v L) : ∃ Z : List (It α), w.ownsRow 0 E k v L.length (Z.flatMap en) ∧ Bx (RA en k vl w own v L Z) := by
  obtain ⟨Z, h0, h1, h2⟩ := h.row
  exact ⟨Z, h1, ⟨h0, h2⟩⟩
set_option maxRecDepth 100000 in
theorem RA.done {w wB w' : World} {own own2 : Nat → Prop} {v : Value} {L : List α} {Z : List (It α)} {z : It α} {g cap m : Nat} {news : List Value} (h : RA en k vl w own v L Z) (hm : m = L.length) (hz : news = en z) (hbt : Bts w z.a z.n z.c (vl z.x)) (hne : 0 < z.n → ∀ p, z.a = some p → own2 p.block ∧ v.ownBlock ≠ some p.block ∧ Unf w p.block)
    (hB : Below w.heap.size w wB)
    (ho : w'.ownsRow 0 E k (.slice (some ⟨g, 0, none⟩) (m + 1) cap) (m + 1) (Z.flatMap en ++ news)) (hg : wB.grownBy w' v.ownBlock) (hl : v.ownBlock = some g ∨ w.heap.size ≤ g)
    (ho2 : ∀ k, own k → own2 k) (hg2 : own2 g) : RL en k vl E w' own2 (.slice (some ⟨g, 0, none⟩) (m + 1) cap) (L ++ [z.x]) := by
  subst hm hz
  have hcar : ∀ {ai : Option Addr} {li ci : Nat} {y : List Int}, Bts w ai li ci y → (0 < li → ∀ p, ai = some p → own2 p.block ∧ v.ownBlock ≠ some p.block ∧ Unf w p.block) → Bts w' ai li ci y ∧ (0 < li → ∀ p, ai = some p → own2 p.block ∧ (Value.slice (some ⟨g, 0, none⟩) (L.length + 1) cap).ownBlock ≠ some p.block ∧ Unf w' p.block) := by
    intro ai li ci y hy hn
    have hbl : ∀ (hp : 0 < li) p (e : ai = some p), w'.heap[p.block]? = w.heap[p.block]? := fun hp p e => (hg.block _ (Nat.lt_of_lt_of_le (hy.lt hp e) hB.size) (fun hh => (hn hp p e).2.1 hh.symm)).trans (hB.block _ (hy.lt hp e))
    refine ⟨hy.keep (fun hp p e => hbl hp p e) (Nat.le_trans hB.size hg.size), fun hp p e => ⟨(hn hp p e).1, ?_, (hn hp p e).2.2.keep (hbl hp p e)⟩⟩
    show some g ≠ some p.block
    rcases hl with h1 | h1
    · rw [← h1]; exact (hn hp p e).2.1
    · intro e2
      have e4 : g = p.block := Option.some.inj e2
      have := hy.lt hp e
      omega
  refine ⟨⟨Z ++ [z], by rw [List.map_append, h.z]; rfl, by rw [List.length_append, List.flatMap_append]; simpa using ho, fun y hy => ?_⟩, fun k hk => ?_⟩
  · rcases List.mem_append.1 hy with hy | hy
    · obtain ⟨e2, e3⟩ := h.b y hy
      exact hcar e2 (fun hp p e => ⟨ho2 _ (e3 hp p e).1, (e3 hp p e).2⟩)
    · obtain rfl : y = z := by simpa using hy
      exact hcar hbt hne
  · have e : g = k := by simpa [Value.ownBlock] using hk
    rw [← e]; exact hg2
end
/-- changes, pairs -/
abbrev CT := RT chE 3 Chg.val
abbrev PT := RT prE 2 (fun p : Pr => p.2)
abbrev CLS := RL chE 3 Chg.val 167
abbrev PL := RL prE 2 (fun p : Pr => p.2) 150
set_option maxRecDepth 100000 in
/-- a change of a list -/
theorem RT.chg {B : Nat → Prop} {w : World} {ao : Option Addr} {len cap : Nat} {L : List Chg} (h : CT B w ao len cap L) (i : Nat) (hi : i < len) : ∃ b off ai ni ci, ao = some ⟨b, off, none⟩ ∧ b < w.heap.size ∧ B b ∧
    w.cell? ⟨b, off + i * 3, none⟩ = some (.string (L[i]'(by rw [h.len_eq]; exact hi)).key) ∧ w.cell? ⟨b, off + i * 3 + 1, none⟩ = some (.bool (L[i]'(by rw [h.len_eq]; exact hi)).del) ∧ w.cell? ⟨b, off + i * 3 + 2, none⟩ = some (.slice ai ni ci) ∧
    Bts w ai ni ci (L[i]'(by rw [h.len_eq]; exact hi)).val ∧ (0 < ni → ∀ p, ai = some p → B p.block) := by
  obtain ⟨b, off, e, hlt, hB, hc⟩ := h.spot (by omega)
  obtain ⟨z, h1, h2, h3, h4⟩ := hc i hi
  have hi2 : i < L.length := by rw [h.len_eq]; exact hi
  have e1 : L[i] = z.x := by rw [List.getElem?_eq_getElem hi2] at h1; exact Option.some.inj h1
  refine ⟨b, off, z.a, z.n, z.c, e, hlt, hB, ?_, ?_, ?_, ?_, h4⟩
  · rw [e1]; exact h2 0 (by omega)
  · rw [e1]; exact h2 1 (by omega)
  · exact h2 2 (by omega)
  · rw [e1]; exact h3
end Go.Proofs.YtipakjenggeflaaGreatDoor
namespace Go.Proofs.YtipakjenggeflaaGreatDoor
open Go.RowKit Go.MapKept

/-- an entry's key and value -/
def enE (z : It Pr) : Value × Value := (.string z.x.1, .slice z.a z.n z.c)
/-- a map's entries are these -/
structure EZ (es : Array MapEntry) (clock : Nat) (Z : List (It Pr)) : Prop where
  ez : es.toList.map (fun e => (e.key, e.val)) = Z.map enE
  st : Stamped es clock
set_option maxRecDepth 100000 in
theorem EZ.nil : EZ #[] 0 [] := ⟨rfl, stamped_empty 0⟩
set_option maxRecDepth 100000 in
theorem EZ.len {es : Array MapEntry} {clock : Nat} {Z : List (It Pr)} (h : EZ es clock Z) : es.toList.length = Z.length := by
  have := congrArg List.length h.ez
  simpa using this
set_option maxRecDepth 100000 in
theorem EZ.at {es : Array MapEntry} {clock : Nat} {Z : List (It Pr)} (h : EZ es clock Z) {j : Nat} {e : MapEntry} (he : es.toList[j]? = some e) : ∃ z, Z[j]? = some z ∧ e.key = .string z.x.1 ∧ e.val = .slice z.a z.n z.c := by
  have h1 : (es.toList.map (fun e => (e.key, e.val)))[j]? = some (e.key, e.val) := by rw [List.getElem?_map, he]; rfl
  rw [h.ez, List.getElem?_map] at h1
  cases hz : Z[j]? with
  | none => rw [hz] at h1; simp at h1
  | some z =>
    rw [hz] at h1
    simp only [Option.map_some, Option.some.injEq, enE, Prod.mk.injEq] at h1
    exact ⟨z, rfl, h1.1.symm, h1.2.symm⟩
set_option maxRecDepth 100000 in
theorem EZ.keys {es : Array MapEntry} {clock : Nat} {Z : List (It Pr)} (h : EZ es clock Z) : ∀ x ∈ es.toList, IsKey .string x.key := fun x hx => by
  obtain ⟨j, hj, e⟩ := List.getElem_of_mem hx
  obtain ⟨z, _, h1, _⟩ := h.at (j := j) (e := x) (by rw [List.getElem?_eq_getElem hj, e])
  rw [h1]; trivial
set_option maxRecDepth 100000 in
/-- where a key stands, or nowhere -/
theorem EZ.find {es : Array MapEntry} {clock : Nat} {Z : List (It Pr)} (h : EZ es clock Z) (k : ByteArray) :
    (Instr.findNow .string (.string k) es.toList 0 = some none ∧ ∀ z ∈ Z, z.x.1 ≠ k) ∨
    ∃ (j : Nat) (e : MapEntry) (z : It Pr), Instr.findNow .string (.string k) es.toList 0 = some (some (j, .slice z.a z.n z.c)) ∧ es.toList[j]? = some e ∧ e.key = .string k ∧ Z[j]? = some z ∧ z.x.1 = k := by
  rcases findNow_spec (d := .string) (k := .string k) trivial es.toList 0 h.keys with ⟨h1, h2⟩ | ⟨j, e, h1, h2, h3⟩
  · refine .inl ⟨h1, fun z hz hk => ?_⟩
    obtain ⟨j, hj, e⟩ := List.getElem_of_mem hz
    have hj2 : j < es.toList.length := by rw [h.len]; exact hj
    obtain ⟨z', hz', hk', _⟩ := h.at (j := j) (e := es.toList[j]) (by rw [List.getElem?_eq_getElem hj2])
    rw [List.getElem?_eq_getElem hj, e] at hz'
    cases hz'
    exact h2 _ (List.getElem_mem hj2) (by rw [hk', hk])
  · obtain ⟨z, hz, hk, hv⟩ := h.at h2
    refine .inr ⟨j, e, z, by rw [h1, hv, Nat.zero_add], h2, h3, hz, ?_⟩
    rw [hk] at h3
    cases h3; rfl
set_option maxRecDepth 100000 in
set_option maxHeartbeats 400000 in
/-- 'v, ok := m[k]' -/
theorem run_lookup {w : World} {gm : Nat} {es : Array MapEntry} {clock : Nat} {Z : List (It Pr)} (k : ByteArray) (hm : w.heap[gm]? = some (.map es clock)) (h : EZ es clock Z) :
    ((∀ z ∈ Z, z.x.1 ≠ k) ∧ (Instr.lookup 127 (.map (some gm)) (.string k) true).run Tryz.prog w = .ok (.tuple #[.slice none 0 0, .bool false]) w) ∨
    ∃ z ∈ Z, z.x.1 = k ∧ (Instr.lookup 127 (.map (some gm)) (.string k) true).run Tryz.prog w = .ok (.tuple #[.slice z.a z.n z.c, .bool true]) w := by
  have hz : (zeroValue 34).run Tryz.prog w = .ok (.slice none 0 0) w := by rfl
  have hck : ∀ b, (Instr.checkKey b 10000 9 (.string k)).run Tryz.prog w = .ok () w := fun b => MapKept.run_checkKey Tryz.underlying9 (d := .string) (k := .string k) trivial b 9999
  rcases h.find k with ⟨h1, h2⟩ | ⟨j, e, z, h1, h2, h3, h4, h5⟩
  · refine .inl ⟨h2, ?_⟩
    have hfk := MapKept.run_findKey (P := Tryz.prog) (w := w) Tryz.underlying9 h1
    simp [Instr.lookup, run_underlying Tryz.underlying127, MapKept.run_getObj_map hm, hck, hfk, hz, Result.andThen]
  · refine .inr ⟨z, List.mem_of_getElem? h4, h5, ?_⟩
    have hfk := MapKept.run_findKey (P := Tryz.prog) (w := w) Tryz.underlying9 h1
    simp [Instr.lookup, run_underlying Tryz.underlying127, MapKept.run_getObj_map hm, hck, hfk, Result.andThen]
/-- a map's block with other entries -/
def setM (w : World) (gm : Nat) (es : Array MapEntry) (clock : Nat) : World := { w with heap := w.heap.setIfInBounds gm (.map es clock) }
set_option maxRecDepth 100000 in
theorem setM_at {w : World} {gm : Nat} {o : Obj} (es : Array MapEntry) (clock : Nat) (h : w.heap[gm]? = some o) : (setM w gm es clock).heap[gm]? = some (.map es clock) := (heap_set h).1
set_option maxRecDepth 100000 in
theorem setM_other (w : World) {gm k : Nat} (es : Array MapEntry) (clock : Nat) (h : k ≠ gm) : (setM w gm es clock).heap[k]? = w.heap[k]? := by simp [setM, Ne.symm h]
set_option maxRecDepth 100000 in
theorem setM_size (w : World) (gm : Nat) (es : Array MapEntry) (clock : Nat) : (setM w gm es clock).heap.size = w.heap.size := by simp [setM]
set_option maxRecDepth 100000 in
theorem list_modify_map {α β : Type} (g : α → β) (l : List α) (j : Nat) (f : α → α) (y : β) (h : ∀ x, l[j]? = some x → g (f x) = y) : (l.modify j f).map g = (l.map g).set j y := by
  induction l generalizing j with
  | nil => simp
  | cons x t ih =>
    cases j with
    | zero => simp [h x rfl]
    | succ j => simp [ih j (fun z hz => h z (by simpa using hz))]
set_option maxRecDepth 100000 in
set_option maxHeartbeats 400000 in
/-- 'm[k] = v' -/
theorem run_update {w : World} {gm : Nat} {es : Array MapEntry} {clock : Nat} {Z : List (It Pr)} (k : ByteArray) (v : List Int) (a : Option Addr) (n c : Nat) (hm : w.heap[gm]? = some (.map es clock)) (h : EZ es clock Z) :
    ∃ es' clock' Z', (Instr.mapUpdate 127 (.map (some gm)) (.string k) (.slice a n c)).run Tryz.prog w = .ok () (setM w gm es' clock') ∧ EZ es' clock' Z' ∧
      (((∀ z ∈ Z, z.x.1 ≠ k) ∧ Z' = Z ++ [⟨(k, v), a, n, c⟩]) ∨ ∃ j z, Z[j]? = some z ∧ z.x.1 = k ∧ Z' = Z.set j ⟨(k, v), a, n, c⟩) := by
  have hck : ∀ b, (Instr.checkKey b 10000 9 (.string k)).run Tryz.prog w = .ok () w := fun b => MapKept.run_checkKey Tryz.underlying9 (d := .string) (k := .string k) trivial b 9999
  rcases h.find k with ⟨h1, h2⟩ | ⟨j, e, z, h1, h2, h3, h4, h5⟩
  · have hfk := MapKept.run_findKey (P := Tryz.prog) (w := w) Tryz.underlying9 h1
    refine ⟨es.push { key := .string k, val := .slice a n c, born := clock }, clock + 1, Z ++ [⟨(k, v), a, n, c⟩], ?_, ⟨?_, ?_⟩, .inl ⟨h2, rfl⟩⟩
    · simp [Instr.mapUpdate, run_underlying Tryz.underlying127, MapKept.run_getObj_map hm, hck, hfk, MapKept.run_setObj_map _ hm, Result.andThen, setM]
    · rw [Array.toList_push, List.map_append, List.map_append, h.ez]; rfl
    · refine stamped_push h.st fun x hx => ?_
      obtain ⟨i, hi, e⟩ := List.getElem_of_mem hx
      obtain ⟨z, hz, hk, _⟩ := h.at (j := i) (e := x) (by rw [List.getElem?_eq_getElem hi, e])
      rw [hk]
      intro e2
      exact h2 z (List.mem_of_getElem? hz) (by cases e2; rfl)
  · have hfk := MapKept.run_findKey (P := Tryz.prog) (w := w) Tryz.underlying9 h1
    have hj : es[j]? = some e := by simpa using h2
    have hst : (Instr.keyThatStays (.string k) (.string k)).run Tryz.prog w = .ok (.string k) w := MapKept.run_keyThatStays (d := .string) (k := .string k) trivial
    refine ⟨es.modify j fun e => { e with key := .string k, val := .slice a n c }, clock, Z.set j ⟨(k, v), a, n, c⟩, ?_, ⟨?_, ?_⟩, .inr ⟨j, z, h4, h5, rfl⟩⟩
    · simp [Instr.mapUpdate, run_underlying Tryz.underlying127, MapKept.run_getObj_map hm, hck, hfk, hj, h3, hst, MapKept.run_setObj_map _ hm, Result.andThen, setM]
    · rw [Array.toList_modify, list_modify_map (fun e : MapEntry => (e.key, e.val)) es.toList j _ (.string k, .slice a n c) (fun x _ => rfl), h.ez, List.map_set]; rfl
    · exact stamped_modify h.st _ _ (fun _ _ => rfl) (fun e' _ he' => by rw [hj] at he'; cases he'; exact h3.symm)
set_option maxRecDepth 100000 in
theorem erase_map {α β : Type} (g : α → β) (l : List α) (j : Nat) : (l.eraseIdx j).map g = (l.map g).eraseIdx j := by
  induction l generalizing j with
  | nil => simp
  | cons x t ih =>
    cases j with
    | zero => simp
    | succ j => simp [ih j]
set_option maxRecDepth 100000 in
set_option maxHeartbeats 400000 in
/-- 'delete(m, k)' -/
theorem run_delete {w : World} {gm : Nat} {es : Array MapEntry} {clock : Nat} {Z : List (It Pr)} (k : ByteArray) (ty : TypeId) (hm : w.heap[gm]? = some (.map es clock)) (h : EZ es clock Z) :
    ∃ es' clock' Z', (Builtin.delete_ #[127, 9] ty #[.map (some gm), .string k]).run Tryz.prog w = .ok (.tuple #[]) (setM w gm es' clock') ∧ EZ es' clock' Z' ∧
      (((∀ z ∈ Z, z.x.1 ≠ k) ∧ Z' = Z) ∨ ∃ j z, Z[j]? = some z ∧ z.x.1 = k ∧ Z' = Z.eraseIdx j) := by
  have hck : ∀ b, (Instr.checkKey b 10000 9 (.string k)).run Tryz.prog w = .ok () w := fun b => MapKept.run_checkKey Tryz.underlying9 (d := .string) (k := .string k) trivial b 9999
  rcases h.find k with ⟨h1, h2⟩ | ⟨j, e, z, h1, h2, h3, h4, h5⟩
  · have hfk := MapKept.run_findKey (P := Tryz.prog) (w := w) Tryz.underlying9 h1
    refine ⟨es, clock, Z, ?_, h, .inl ⟨h2, rfl⟩⟩
    simp [Builtin.delete_, run_underlying Tryz.underlying127, MapKept.run_getObj_map hm, hck, hfk, MapKept.run_setObj_map _ hm, Result.andThen, setM]
  · have hfk := MapKept.run_findKey (P := Tryz.prog) (w := w) Tryz.underlying9 h1
    refine ⟨es.eraseIdxIfInBounds j, clock, Z.eraseIdx j, ?_, ⟨?_, stamped_erase h.st j⟩, .inr ⟨j, z, h4, h5, rfl⟩⟩
    · simp [Builtin.delete_, run_underlying Tryz.underlying127, MapKept.run_getObj_map hm, hck, hfk, MapKept.run_setObj_map _ hm, Result.andThen, setM]
    · have hlt : j < es.size := by
        have := (List.getElem?_eq_some_iff.1 h2).1
        simpa using this
      have e1 : (es.eraseIdxIfInBounds j).toList = es.toList.eraseIdx j := by simp [Array.eraseIdxIfInBounds, hlt]
      rw [e1, erase_map, h.ez, erase_map]
set_option maxRecDepth 100000 in
/-- what these do to what is held -/
theorem set_upd {M : List Pr} (hn : Nod M) {j : Nat} {k : ByteArray} {v0 v : List Int} (h : M[j]? = some (k, v0)) : M.set j (k, v) = upd M ⟨k, false, v⟩ := by
  have ha : M.any (fun p => decide (p.1 = k)) = true := List.any_eq_true.2 ⟨_, List.mem_of_getElem? h, by simp⟩
  unfold upd
  rw [if_neg (by simp), if_pos ha]
  induction M generalizing j with
  | nil => simp at h
  | cons p t ih =>
    have hp := List.pairwise_cons.1 hn
    cases j with
    | zero =>
      have e : p = (k, v0) := by simpa using h
      have hne : ∀ q ∈ t, q.1 ≠ k := fun q hq e2 => hp.1 q hq (by rw [e, e2])
      rw [List.set_cons_zero, List.map_cons, if_pos (by rw [e]), map_all hne]
    | succ j =>
      have h1 : t[j]? = some (k, v0) := by simpa using h
      have hne : p.1 ≠ k := fun e => hp.1 _ (List.mem_of_getElem? h1) e
      rw [List.set_cons_succ, List.map_cons, if_neg hne, ih hp.2 h1 (List.any_eq_true.2 ⟨_, List.mem_of_getElem? h1, by simp⟩)]
set_option maxRecDepth 100000 in
theorem erase_upd {M : List Pr} (hn : Nod M) {j : Nat} {k : ByteArray} {v0 v : List Int} (h : M[j]? = some (k, v0)) : M.eraseIdx j = upd M ⟨k, true, v⟩ := by
  unfold upd
  rw [if_pos rfl]
  induction M generalizing j with
  | nil => simp at h
  | cons p t ih =>
    have hp := List.pairwise_cons.1 hn
    cases j with
    | zero =>
      have e : p = (k, v0) := by simpa using h
      have hne : ∀ q ∈ t, q.1 ≠ k := fun q hq e2 => hp.1 q hq (by rw [e, e2])
      rw [List.eraseIdx_cons_zero, List.filter_cons_of_neg (by simp [e]), filter_all hne]
    | succ j =>
      have h1 : t[j]? = some (k, v0) := by simpa using h
      have hne : p.1 ≠ k := fun e => hp.1 _ (List.mem_of_getElem? h1) e
      rw [List.eraseIdx_cons_succ, List.filter_cons_of_pos (by simpa using hne), ih hp.2 h1]
set_option maxRecDepth 100000 in
theorem none_put {M : List Pr} {k : ByteArray} {v : List Int} (h : ∀ p ∈ M, p.1 ≠ k) : M ++ [(k, v)] = upd M ⟨k, false, v⟩ := by
  unfold upd
  rw [if_neg (by simp), if_neg (by rw [Bool.not_eq_true]; exact List.any_eq_false.2 fun p hp => by simpa using h p hp)]
set_option maxRecDepth 100000 in
theorem none_del {M : List Pr} {k : ByteArray} {v : List Int} (h : ∀ p ∈ M, p.1 ≠ k) : M = upd M ⟨k, true, v⟩ := by
  unfold upd
  rw [if_pos rfl, filter_all h]
/-- a store in memory -/
structure StR (w : World) (gs gl gm : Nat) (q us : Int) (own : Nat → Prop) (M : List Pr) (es : Array MapEntry) (clock : Nat) (Z : List (It Pr)) : Prop where
  row : w.heap[gs]? = some (.cells #[.pointer (some ⟨gl, 0, none⟩), .int .i64 q, .map (some gm), .int .i64 us] 129 (0, 0))
  mp : w.heap[gm]? = some (.map es clock)
  ez : EZ es clock Z
  zx : Z.map (·.x) = M
  zb : ∀ z ∈ Z, Bts w z.a z.n z.c z.x.2 ∧ (0 < z.n → ∀ p, z.a = some p → own p.block ∧ p.block ≠ gs ∧ p.block ≠ gm)
  og : own gs
  om : own gm
  ne : gs ≠ gm
  lt : ∀ k, own k → k < w.heap.size
  mo : MOk M
def StS (w : World) (gs gl : Nat) (q us : Int) (own : Nat → Prop) (M : List Pr) : Prop := ∃ gm es clock Z, StR w gs gl gm q us own M es clock Z
section
variable {w w' : World} {gs gl gm : Nat} {q us : Int} {own : Nat → Prop} {M : List Pr} {es : Array MapEntry} {clock : Nat} {Z : List (It Pr)}
set_option maxRecDepth 100000 in
theorem StR.c0 (h : StR w gs gl gm q us own M es clock Z) : w.cell? ⟨gs, 0, none⟩ = some (.pointer (some ⟨gl, 0, none⟩)) := by rw [cell_of_row w gs 0 _ _ (0, 0) h.row]; rfl
set_option maxRecDepth 100000 in
theorem StR.c1 (h : StR w gs gl gm q us own M es clock Z) : w.cell? ⟨gs, 1, none⟩ = some (.int .i64 q) := by rw [cell_of_row w gs 1 _ _ (0, 0) h.row]; rfl
set_option maxRecDepth 100000 in
theorem StR.c2 (h : StR w gs gl gm q us own M es clock Z) : w.cell? ⟨gs, 2, none⟩ = some (.map (some gm)) := by rw [cell_of_row w gs 2 _ _ (0, 0) h.row]; rfl
set_option maxRecDepth 100000 in
theorem StR.c3 (h : StR w gs gl gm q us own M es clock Z) : w.cell? ⟨gs, 3, none⟩ = some (.int .i64 us) := by rw [cell_of_row w gs 3 _ _ (0, 0) h.row]; rfl
set_option maxRecDepth 100000 in
theorem StR.fr (h : StR w gs gl gm q us own M es clock Z) (j : Nat) : w.frozen? ⟨gs, j, none⟩ = false := frozen_of_row _ _ j _ _ h.row
set_option maxRecDepth 100000 in
theorem StR.keep (h : StR w gs gl gm q us own M es clock Z) (hb : ∀ k, own k → w'.heap[k]? = w.heap[k]?) (hs : w.heap.size ≤ w'.heap.size) : StR w' gs gl gm q us own M es clock Z :=
  ⟨(hb gs h.og).trans h.row, (hb gm h.om).trans h.mp, h.ez, h.zx, fun z hz => ⟨(h.zb z hz).1.keep (fun hp p e => hb _ ((h.zb z hz).2 hp p e).1) hs, (h.zb z hz).2⟩, h.og, h.om, h.ne, fun k hk => Nat.lt_of_lt_of_le (h.lt k hk) hs, h.mo⟩
set_option maxRecDepth 100000 in
theorem StS.keep (h : StS w gs gl q us own M) (hb : ∀ k, own k → w'.heap[k]? = w.heap[k]?) (hs : w.heap.size ≤ w'.heap.size) : StS w' gs gl q us own M := by
  obtain ⟨gm, es, clock, Z, h⟩ := h
  exact ⟨gm, es, clock, Z, h.keep hb hs⟩
set_option maxRecDepth 100000 in
theorem StS.below (h : StS w gs gl q us own M) (hb : Below w.heap.size w w') : StS w' gs gl q us own M := by
  obtain ⟨gm, es, clock, Z, h⟩ := h
  exact ⟨gm, es, clock, Z, h.keep (fun k hk => hb.block k (h.lt k hk)) hb.size⟩
set_option maxRecDepth 100000 in
theorem StS.lt (h : StS w gs gl q us own M) : ∀ k, own k → k < w.heap.size := by obtain ⟨gm, es, clock, Z, h⟩ := h; exact h.lt
set_option maxRecDepth 100000 in
theorem StS.mo (h : StS w gs gl q us own M) : MOk M := by obtain ⟨gm, es, clock, Z, h⟩ := h; exact h.mo
set_option maxRecDepth 100000 in
theorem StS.kept {own2 : Nat → Prop} (h : StS w gs gl q us own M) (hk : Kept own2 w w') (hd : ∀ k, own k → ¬ own2 k) : StS w' gs gl q us own M := h.keep (fun k ho => hk.block k (h.lt k ho) (hd k ho)) hk.size
set_option maxRecDepth 100000 in
/-- how much is used, written anew -/
theorem StR.setUsed (h : StR w gs gl gm q us own M es clock Z) (us2 : Int) : StR (w.setCell ⟨gs, 3, none⟩ (.int .i64 us2)) gs gl gm q us2 own M es clock Z := by
  have ho : ∀ k, k ≠ gs → (w.setCell ⟨gs, 3, none⟩ (.int .i64 us2)).heap[k]? = w.heap[k]? := fun k hk => heap_setCell_other w ⟨gs, 3, none⟩ k _ hk
  have h1 := heap_setCell_same w gs 3 _ _ (.int .i64 us2) h.row
  exact ⟨by rw [h1]; simp, (ho gm (fun e => h.ne e.symm)).trans h.mp, h.ez, h.zx, fun z hz => ⟨(h.zb z hz).1.keep (fun hp p e => ho _ ((h.zb z hz).2 hp p e).2.1) (by simp), (h.zb z hz).2⟩, h.og, h.om, h.ne, fun k hk => by have := h.lt k hk; simpa using this, h.mo⟩
set_option maxRecDepth 100000 in
/-- its entries, written anew -/
theorem StR.setMap (h : StR w gs gl gm q us own M es clock Z) {own2 : Nat → Prop} {es2 : Array MapEntry} {clock2 : Nat} {Z2 : List (It Pr)} {M2 : List Pr} (hez : EZ es2 clock2 Z2) (hzx : Z2.map (·.x) = M2) (hmk : MOk M2)
    (hzb : ∀ z ∈ Z2, z ∈ Z ∨ (Bts w z.a z.n z.c z.x.2 ∧ (0 < z.n → ∀ p, z.a = some p → own2 p.block ∧ p.block ≠ gs ∧ p.block ≠ gm))) (ho2 : ∀ k, own k → own2 k) (hlt : ∀ k, own2 k → k < w.heap.size) : StR (setM w gm es2 clock2) gs gl gm q us own2 M2 es2 clock2 Z2 :=
  ⟨(setM_other w es2 clock2 h.ne).trans h.row, setM_at es2 clock2 h.mp, hez, hzx, fun z hz => by
    have h1 : Bts w z.a z.n z.c z.x.2 ∧ (0 < z.n → ∀ p, z.a = some p → own2 p.block ∧ p.block ≠ gs ∧ p.block ≠ gm) := by
      rcases hzb z hz with h2 | h2
      · exact ⟨(h.zb z h2).1, fun hp p e => ⟨ho2 _ ((h.zb z h2).2 hp p e).1, ((h.zb z h2).2 hp p e).2⟩⟩
      · exact h2
    exact ⟨h1.1.keep (fun hp p e => setM_other w es2 clock2 (h1.2 hp p e).2.2) (by rw [setM_size]; exact Nat.le_refl _), h1.2⟩,
   ho2 _ h.og, ho2 _ h.om, h.ne, fun k hk => by rw [setM_size]; exact hlt k hk, hmk⟩
set_option maxRecDepth 100000 in
theorem StR.at (h : StR w gs gl gm q us own M es clock Z) {j : Nat} {z : It Pr} (hz : Z[j]? = some z) : M[j]? = some z.x := by rw [← h.zx, List.getElem?_map, hz]; rfl
set_option maxRecDepth 100000 in
theorem StR.no (h : StR w gs gl gm q us own M es clock Z) {k : ByteArray} (hz : ∀ z ∈ Z, z.x.1 ≠ k) : ∀ p ∈ M, p.1 ≠ k := fun p hp => by
  rw [← h.zx] at hp
  obtain ⟨z, hz2, rfl⟩ := List.mem_map.1 hp
  exact hz z hz2
set_option maxRecDepth 100000 in
/-- a key looked up -/
theorem StR.look (h : StR w gs gl gm q us own M es clock Z) (k : ByteArray) : ∃ a n c b, (Instr.lookup 127 (.map (some gm)) (.string k) true).run Tryz.prog w = .ok (.tuple #[.slice a n c, .bool b]) w ∧ Bts w a n c ((gtM M k).getD []) ∧ b = (gtM M k).isSome := by
  rcases run_lookup k h.mp h.ez with ⟨h1, h2⟩ | ⟨z, hz, hk, h2⟩
  · have hg : gtM M k = none := gtM_none.2 (h.no h1)
    refine ⟨none, 0, 0, false, h2, ?_, by rw [hg]; rfl⟩
    rw [hg]
    exact ⟨rfl, Byt.nil, Nat.le_refl _, Nat.zero_le _, fun _ => rfl, fun hp => absurd hp (Nat.lt_irrefl _)⟩
  · have hg : gtM M k = some z.x.2 := gtM_of_mem h.mo.nod (by rw [← hk, ← h.zx]; exact List.mem_map.2 ⟨z, hz, rfl⟩)
    exact ⟨z.a, z.n, z.c, true, h2, by rw [hg]; exact (h.zb z hz).1, by rw [hg]; rfl⟩
set_option maxRecDepth 100000 in
/-- a key with a value -/
theorem StR.put (h : StR w gs gl gm q us own M es clock Z) {own2 : Nat → Prop} {k : ByteArray} {v : List Int} {a : Option Addr} {n c : Nat} (hc : COk ⟨k, false, v⟩) (hb : Bts w a n c v) (hn : 0 < n → ∀ p, a = some p → own2 p.block ∧ p.block ≠ gs ∧ p.block ≠ gm) (ho2 : ∀ k, own k → own2 k) (hlt : ∀ k, own2 k → k < w.heap.size) :
    ∃ es2 clock2 Z2, (Instr.mapUpdate 127 (.map (some gm)) (.string k) (.slice a n c)).run Tryz.prog w = .ok () (setM w gm es2 clock2) ∧ StR (setM w gm es2 clock2) gs gl gm q us own2 (upd M ⟨k, false, v⟩) es2 clock2 Z2 := by
  obtain ⟨es2, clock2, Z2, hr, hez, hcase⟩ := run_update k v a n c h.mp h.ez
  refine ⟨es2, clock2, Z2, hr, h.setMap hez ?_ (h.mo.upd hc) ?_ ho2 hlt⟩
  · rcases hcase with ⟨h1, rfl⟩ | ⟨j, z, hz, hk, rfl⟩
    · rw [List.map_append, h.zx, ← none_put (h.no h1)]; rfl
    · rw [List.map_set, h.zx]
      exact set_upd h.mo.nod (v0 := z.x.2) (by rw [h.at hz, ← hk])
  · rcases hcase with ⟨h1, rfl⟩ | ⟨j, z, hz, hk, rfl⟩
    · intro y hy
      rcases List.mem_append.1 hy with hy | hy
      · exact .inl hy
      · obtain rfl : y = ⟨(k, v), a, n, c⟩ := by simpa using hy
        exact .inr ⟨hb, hn⟩
    · intro y hy
      rcases List.mem_or_eq_of_mem_set hy with hy | rfl
      · exact .inl hy
      · exact .inr ⟨hb, hn⟩
set_option maxRecDepth 100000 in
/-- a key without -/
theorem StR.del (h : StR w gs gl gm q us own M es clock Z) {k : ByteArray} (v : List Int) (ty : TypeId) (hc : COk ⟨k, true, v⟩) :
    ∃ es2 clock2 Z2, (Builtin.delete_ #[127, 9] ty #[.map (some gm), .string k]).run Tryz.prog w = .ok (.tuple #[]) (setM w gm es2 clock2) ∧ StR (setM w gm es2 clock2) gs gl gm q us own (upd M ⟨k, true, v⟩) es2 clock2 Z2 := by
  obtain ⟨es2, clock2, Z2, hr, hez, hcase⟩ := run_delete k ty h.mp h.ez
  refine ⟨es2, clock2, Z2, hr, h.setMap hez ?_ (h.mo.upd hc) ?_ (fun _ h => h) h.lt⟩
  · rcases hcase with ⟨h1, rfl⟩ | ⟨j, z, hz, hk, rfl⟩
    · rw [h.zx]; exact none_del (h.no h1)
    · rw [erase_map, h.zx]
      exact erase_upd h.mo.nod (v0 := z.x.2) (by rw [h.at hz, ← hk])
  · rcases hcase with ⟨h1, rfl⟩ | ⟨j, z, hz, hk, rfl⟩
    · exact fun y hy => .inl hy
    · exact fun y hy => .inl (List.mem_of_mem_eraseIdx hy)
end
end Go.Proofs.YtipakjenggeflaaGreatDoor
namespace Go.Proofs.YtipakjenggeflaaGreatDoor
open Go.RowKit
set_option linter.unusedVariables false

set_option maxRecDepth 100000 in
theorem str_eq {a b : ByteArray} (h : a = b) : (a.toList == b.toList) = true := (Lib.bytes_beq_iff a b).2 h
set_option maxRecDepth 100000 in
theorem str_ne {a b : ByteArray} (h : a ≠ b) : (a.toList == b.toList) = false := (Lib.bytes_beq_false_iff a b).2 h
set_option maxHeartbeats 400000 in
theorem same_key (k key : ByteArray) (d : Bool) (a : Option Addr) (n c bc : Nat) (w : World) (hb : bc < w.heap.size) (hc : w.cell? ⟨bc, 0, none⟩ = some (.string key)) :
    Calls Tryz.prog 285 #[.agg #[.string k, .bool d, .slice a n c], .pointer (some ⟨bc, 0, none⟩)] w fun e w' => e = .returned (.bool (decide (k = key))) ∧ Below w.heap.size w w' := by
  have hne : bc ≠ w.heap.size := by omega
  have hbw : Bx (∀ o, Below w.heap.size w (w.alloc o)) := ⟨fun o => (Below.refl _ _).alloc (Nat.le_refl _) o⟩
  by_cases e : k = key
  · have h1 := str_eq e
    have HE : Bx (decide (k = key) = true) := ⟨by simp [e]⟩
    clear e
    go_enter Tryz.func285, Tryz.ntmps285
    go_wp2_with fail
    go_ret
    exact ⟨ret_bool HE.out.symm, hbw.out _⟩
  · have h1 := str_ne e
    have HE : Bx (decide (k = key) = false) := ⟨by simp [e]⟩
    clear e
    go_enter Tryz.func285, Tryz.ntmps285
    go_wp2_with fail
    go_ret
    exact ⟨ret_bool HE.out.symm, hbw.out _⟩
/-- where it stands -/
def fdK (L : List Chg) (key : ByteArray) : Option Nat := L.findIdx? (fun c => decide (c.key = key))
def fdI (L : List Chg) (key : ByteArray) : Int := match fdK L key with | some i => i | none => -1
set_option maxRecDepth 100000 in
theorem fdI_none {L : List Chg} {key : ByteArray} (h : ∀ j (hj : j < L.length), L[j].key ≠ key) : fdI L key = -1 := by
  have : fdK L key = none := List.findIdx?_eq_none_iff.2 fun c hc => by
    obtain ⟨i, hi, e⟩ := List.getElem_of_mem hc
    rw [← e]; simpa using h i hi
  rw [fdI, this]
set_option maxRecDepth 100000 in
theorem fdI_some {L : List Chg} {key : ByteArray} {k : Nat} (hk : k < L.length) (h : ∀ j (hj : j < L.length), j < k → L[j].key ≠ key) (he : L[k].key = key) : fdI L key = k := by
  have : fdK L key = some k := by
    unfold fdK
    rw [List.findIdx?_eq_some_iff_getElem]
    exact ⟨hk, by simpa using he, fun j hj => by simpa using h j (by omega) hj⟩
  rw [fdI, this]
set_option maxRecDepth 100000 in
theorem fdI_any (L : List Chg) (key : ByteArray) : L.any (fun a => decide (a.key = key)) = decide (0 ≤ fdI L key) := by
  unfold fdI fdK
  cases e : L.findIdx? (fun c => decide (c.key = key)) with
  | none =>
    have := List.findIdx?_eq_none_iff.1 e
    simp only [show decide ((0 : Int) ≤ -1) = false from rfl]
    exact List.any_eq_false.2 fun c hc => by simpa using this c hc
  | some i =>
    obtain ⟨h1, h2, _⟩ := List.findIdx?_eq_some_iff_getElem.1 e
    rw [show decide ((0 : Int) ≤ (i : Int)) = true from by simp]
    exact List.any_eq_true.2 ⟨_, List.getElem_mem h1, h2⟩
set_option maxRecDepth 100000 in
set_option maxHeartbeats 1000000 in
theorem index_key (key : ByteArray) (bc : Nat) (B : Nat → Prop) (ao : Option Addr) (len cap : Nat) (L : List Chg) (w : World) (hb : bc < w.heap.size) (hc : w.cell? ⟨bc, 0, none⟩ = some (.string key)) (h : CT B w ao len cap L) :
    Calls Tryz.prog 320 #[.slice ao len cap, .func (.func 285) #[] #[.pointer (some ⟨bc, 0, none⟩)]] w fun e w' => e = .returned (.int .i64 (fdI L key)) ∧ Below w.heap.size w w' := by
  have HL : Bx (CT B w ao len cap L) := ⟨h⟩
  have HC : Bx (bc < w.heap.size ∧ w.cell? ⟨bc, 0, none⟩ = some (.string key)) := ⟨hb, hc⟩
  have hlen : L.length = len := h.len_eq
  have HLEN : Bx (L.length = len) := ⟨hlen⟩
  have hcl := h.le_cap
  have hcm := h.cap_le
  unfold maxLen at hcm
  clear hlen h hb hc
  go_enter Tryz.func320, Tryz.ntmps320
  go_wp2_with fail
  go_loopw [8] (fun i wr => ∃ k : Nat, k ≤ len ∧ i = .int .i64 k ∧ Below w.heap.size w wr ∧ Bx (∀ j (hj : j < L.length), j < k → L[j].key ≠ key)) (fun i _ => len - (intOf i).toNat)
  case atStart => exact ⟨0, Nat.zero_le _, rfl, Below.refl _ _, ⟨fun j _ hj => by omega⟩⟩
  case round =>
    obtain ⟨k, hk, rfl, hbw, HN⟩ := hrel
    by_cases hlt : k < len
    · have hkI : (k : Int) < (len : Int) := by omega
      obtain ⟨b, off, ai, ni, ci, rfl, hbl, _, h1, h2, h3, _, _⟩ := (HL.out.below hbw).chg k hlt
      have hcr : wr.cell? ⟨bc, 0, none⟩ = some (.string key) := (hbw.cell HC.out.1).trans HC.out.2
      have hbr : bc < wr.heap.size := Nat.lt_of_lt_of_le HC.out.1 hbw.size
      have HK : Bx (∀ h : k < L.length, L[k].key = (L[k]'(by rw [HLEN.out]; exact hlt)).key) := ⟨fun _ => rfl⟩
      generalize hkk : (L[k]'(by rw [HLEN.out]; exact hlt)).key = kk at h1 HK
      generalize (L[k]'(by rw [HLEN.out]; exact hlt)).del = dd at h2
      clear hkk
      go_wp2_with fail
      refine (same_key kk key dd ai ni ci bc _ hbr hcr).mono ?_
      rintro e w2 ⟨rfl, hb2⟩
      have hbw2 := bstep hbw hb2
      clear hb2 hbr hcr h1 h2 h3 hbl
      by_cases e : kk = key
      · have HF : Bx (fdI L key = k) := ⟨fdI_some (by rw [HLEN.out]; exact hlt) (fun j hj hjk => HN.out j hj hjk) ((HK.out _).trans e)⟩
        have g : decide (kk = key) = true := by simp [e]
        rw [g]
        clear e g
        go_wp2_with fail
        go_ret
        exact ⟨ret_int HF.out.symm, hbw2⟩
      · have HF : Bx (∀ j (hj : j < L.length), j < k + 1 → L[j].key ≠ key) := ⟨fun j hj hjk => by
          by_cases ej : j = k
          · subst ej; rw [HK.out hj]; exact e
          · exact HN.out j hj (by omega)⟩
        have g : decide (kk = key) = false := by simp [e]
        rw [g]
        clear e g
        go_wp2_with fail
        go_roundw
        case rel => exact ⟨k + 1, by omega, by go_num, hbw2, HF⟩
        case measure => simp [intOf]; omega
    · have hkI : ¬ (k : Int) < (len : Int) := by omega
      have HF : Bx (fdI L key = -1) := ⟨fdI_none fun j hj => HN.out j hj (by rw [HLEN.out] at hj; omega)⟩
      go_wp2_with fail
      go_ret
      exact ⟨ret_int HF.out.symm, hbw⟩
set_option maxHeartbeats 400000 in
theorem contains_key (key : ByteArray) (bc : Nat) (B : Nat → Prop) (ao : Option Addr) (len cap : Nat) (L : List Chg) (w : World) (hb : bc < w.heap.size) (hc : w.cell? ⟨bc, 0, none⟩ = some (.string key)) (h : CT B w ao len cap L) :
    Calls Tryz.prog 284 #[.slice ao len cap, .func (.func 285) #[] #[.pointer (some ⟨bc, 0, none⟩)]] w fun e w' => e = .returned (.bool (L.any (fun a => decide (a.key = key)))) ∧ Below w.heap.size w w' := by
  have HL : Bx (CT B w ao len cap L) := ⟨h⟩
  have HC : Bx (bc < w.heap.size ∧ w.cell? ⟨bc, 0, none⟩ = some (.string key)) := ⟨hb, hc⟩
  have HE := fdI_any L key
  generalize hx : L.any (fun a => decide (a.key = key)) = X at HE ⊢
  clear h hb hc hx
  go_enter Tryz.func284, Tryz.ntmps284
  go_wp2_with fail
  refine (index_key key bc B ao len cap L _ HC.out.1 HC.out.2 HL.out).mono ?_
  rintro e w2 ⟨rfl, hb2⟩
  generalize fdI L key = y at HE
  have HE2 : Bx (X = decide (0 ≤ y)) := ⟨HE⟩
  clear HE
  by_cases g : y ≥ 0
  · have HX : Bx (X = true) := ⟨by rw [HE2.out]; simpa using g⟩
    go_wp2_with fail
    go_ret
    exact ⟨ret_bool HX.out.symm, hb2⟩
  · skip
    go_wp2_with fail
    go_ret
    exact ⟨ret_bool HE2.out.symm, hb2⟩
set_option maxRecDepth 100000 in
set_option maxHeartbeats 1000000 in
theorem checkchange_any (key : ByteArray) (del : Bool) (val : List Int) (ai : Option Addr) (ni ci : Nat) (B : Nat → Prop) (ao : Option Addr) (len cap : Nat) (L : List Chg) (w : World) (hs : key.size ≤ 9223372036854775807) (hv : Bts w ai ni ci val) (h : CT B w ao len cap L) :
    Calls Tryz.prog 231 #[.agg #[.string key, .bool del, .slice ai ni ci], .slice ao len cap] w fun e w' => e = .returned (.int .i64 (chk1 ⟨key, del, val⟩ L)) ∧ Below w.heap.size w w' := by
  have hn : val.length = ni := hv.len_eq
  have hbw : Bx (∀ o, Below w.heap.size w (w.alloc o)) := ⟨fun o => (Below.refl _ _).alloc (Nat.le_refl _) o⟩
  have HL : Bx (CT B w ao len cap L) := ⟨h⟩
  have HCH : Bx (chk1 ⟨key, del, val⟩ L = if kOk key = false then 2 else if 4096 < ni then 5 else if del = true ∧ 0 < ni then 2 else if L.any (fun a => decide (a.key = key)) = true then 10 else 0) := ⟨by rw [← hn]; rfl⟩
  have hmx := Nat.le_trans hv.le_cap hv.cap_le
  unfold maxLen at hmx
  generalize chk1 ⟨key, del, val⟩ L = X at HCH ⊢
  clear h hv hn
  go_enter Tryz.func231, Tryz.ntmps231
  go_wp2_with fail
  refine (iskey_any key _ hs).mono ?_
  rintro e w2 ⟨rfl, rfl⟩
  cases hk : kOk key with
  | false =>
    have HX : Bx (X = 2) := ⟨by rw [HCH.out, if_pos hk]⟩
    clear hk HCH HL
    go_wp2_with fail
    go_ret
    exact ⟨ret_int HX.out.symm, hbw.out _⟩
  | true =>
    have HCH2 : Bx (X = if 4096 < ni then 5 else if del = true ∧ 0 < ni then 2 else if L.any (fun a => decide (a.key = key)) = true then 10 else 0) := ⟨by rw [HCH.out, if_neg (by rw [hk]; decide)]⟩
    clear HCH hk
    by_cases h1 : 4096 < ni
    · have HX : Bx (X = 5) := ⟨by rw [HCH2.out, if_pos h1]⟩
      have g1 : (4096 : Int) < (ni : Int) := by omega
      clear HCH2 HL
      go_wp2_with fail
      go_ret
      exact ⟨ret_int HX.out.symm, hbw.out _⟩
    · have HCH3 : Bx (X = if del = true ∧ 0 < ni then 2 else if L.any (fun a => decide (a.key = key)) = true then 10 else 0) := ⟨by rw [HCH2.out, if_neg h1]⟩
      have g1 : ¬ (4096 : Int) < (ni : Int) := by omega
      clear HCH2
      by_cases h2 : del = true ∧ 0 < ni
      · have HX : Bx (X = 2) := ⟨by rw [HCH3.out, if_pos h2]⟩
        obtain ⟨rfl, h2⟩ := h2
        have g2 : decide ((ni : Int) > 0) = true := by simp; omega
        clear HCH3 HL
        go_wp2_with fail
        go_ret
        exact ⟨ret_int HX.out.symm, hbw.out _⟩
      · have HCH4 : Bx (X = if L.any (fun a => decide (a.key = key)) = true then 10 else 0) := ⟨by rw [HCH3.out, if_neg h2]⟩
        clear HCH3
        have HW : Bx (∀ o, Below (w.alloc o).heap.size (w.alloc o) (w.alloc o)) := ⟨fun o => Below.refl _ _⟩
        have hrow : Bx (∀ T, (w.alloc (.cells #[.string key, .bool del, .slice ai ni ci] T)).cell? ⟨w.heap.size, 0, none⟩ = some (.string key)) := ⟨fun T => by simp⟩
        have hrowl : Bx (∀ T, w.heap.size < (w.alloc (.cells #[.string key, .bool del, .slice ai ni ci] T)).heap.size) := ⟨fun T => by simp⟩
        cases hd : del with
        | false =>
          subst hd
          clear h2
          go_wp2_with fail
          refine (contains_key key w.heap.size B ao len cap L _ (hrowl.out _) (hrow.out _) (HL.out.below (hbw.out _))).mono ?_
          rintro e w2 ⟨rfl, hb2⟩
          have hb3 := bstep (hbw.out _) hb2
          clear hb2
          generalize L.any (fun a => decide (a.key = key)) = Y at HCH4
          cases Y with
          | true =>
            have HX : Bx (X = 10) := ⟨by rw [HCH4.out, if_pos rfl]⟩
            go_wp2_with fail
            go_ret
            exact ⟨ret_int HX.out.symm, hb3⟩
          | false =>
            have HX : Bx (X = 0) := ⟨by rw [HCH4.out, if_neg (by decide)]⟩
            go_wp2_with fail
            go_ret
            exact ⟨ret_int HX.out.symm, hb3⟩
        | true =>
          subst hd
          have hz : ¬ 0 < ni := fun h => h2 ⟨rfl, h⟩
          have g2 : decide ((ni : Int) > 0) = false := by simp; omega
          have g3 : decide (0 < ni) = false := by simp; omega
          clear h2
          go_wp2_with fail
          refine (contains_key key w.heap.size B ao len cap L _ (hrowl.out _) (hrow.out _) (HL.out.below (hbw.out _))).mono ?_
          rintro e w2 ⟨rfl, hb2⟩
          have hb3 := bstep (hbw.out _) hb2
          clear hb2
          generalize L.any (fun a => decide (a.key = key)) = Y at HCH4
          cases Y with
          | true =>
            have HX : Bx (X = 10) := ⟨by rw [HCH4.out, if_pos rfl]⟩
            go_wp2_with fail
            go_ret
            exact ⟨ret_int HX.out.symm, hb3⟩
          | false =>
            have HX : Bx (X = 0) := ⟨by rw [HCH4.out, if_neg (by decide)]⟩
            go_wp2_with fail
            go_ret
            exact ⟨ret_int HX.out.symm, hb3⟩
end Go.Proofs.YtipakjenggeflaaGreatDoor
namespace Go.Proofs.YtipakjenggeflaaGreatDoor
open Go.RowKit
set_option linter.unusedVariables false

set_option maxHeartbeats 400000 in
theorem lmade_yes (gl gd : Nat) (w : World) (c0 : w.cell? ⟨gl, 0, none⟩ = some (.pointer (some ⟨gd, 0, none⟩))) :
    Calls Tryz.prog 129 #[.pointer (some ⟨gl, 0, none⟩)] w fun e w' => e = .returned (.bool true) ∧ w = w' := by
  go_enter Tryz.func129, Tryz.ntmps129
  go_wp2
  go_ret
  exact ⟨rfl, rfl⟩
set_option maxHeartbeats 400000 in
theorem number_anyW (a : Option Addr) (n c : Nat) (w : World) (hn : n ≤ 4096) :
    Calls Tryz.prog 226 #[.slice a n c] w fun e w' => e = .returned (.int .u64 ((n : Int) + 1)) ∧ w = w' := by
  have h1 : (n : Int) % 18446744073709551616 = (n : Int) := by omega
  go_enter Tryz.func226, Tryz.ntmps226
  go_wp2
  go_ret
  exact ⟨rfl, rfl⟩
set_option maxHeartbeats 400000 in
theorem wsec_any (n : Nat) (w : World) (hn : n ≤ 1000000) :
    Calls Tryz.prog 227 #[.int .i64 (n : Int)] w fun e w' => e = .returned (.int .i64 (ns n : Int)) ∧ w = w' := by
  have HE : Hid (((n : Int) + 64 - 1) / 64 = ((ns n : Nat) : Int)) := by
    show _ = _
    unfold ns; omega
  go_enter Tryz.func227, Tryz.ntmps227
  go_wp2
  go_ret
  exact ⟨ret_int HE.out, rfl⟩
set_option maxRecDepth 100000 in
theorem eq_anyW (e : TypeId) (k : IntKind) (he : Tryz.prog.underlying e = some (.int k)) (hp : Tryz.prog.plainKey e = true) (d : Nat) (xs ys : Array Value) (f g : Nat → Int) (w : World) : ∀ is : List Nat, (∀ i ∈ is, xs[i]? = some (.int k (f i))) → (∀ i ∈ is, ys[i]? = some (.int k (g i))) →
    (Op.eqItems (d + 1) e 1 xs ys is).run Tryz.prog w = .ok (is.all fun i => decide (f i = g i)) w := by
  intro is
  induction is with
  | nil => intro _ _; simp [Op.eqItems]
  | cons i r ih =>
    intro h1 h2
    have hpt1 := run_part_plain (P := Tryz.prog) (w := w) hp (xs := xs) (off := i * 1) (by rw [Nat.mul_one]; exact h1 i (by simp))
    have hpt2 := run_part_plain (P := Tryz.prog) (w := w) hp (xs := ys) (off := i * 1) (by rw [Nat.mul_one]; exact h2 i (by simp))
    have heq := run_equalIn_int (P := Tryz.prog) w d e k k (f i) (g i) he
    have hih := ih (fun j hj => h1 j (by simp [hj])) (fun j hj => h2 j (by simp [hj]))
    simp only [Op.eqItems, Sem.run_bind, hpt1, hpt2, heq, Result.andThen_ok]
    by_cases hfg : f i = g i
    · simp [hfg, hih]
    · simp [hfg]
set_option maxRecDepth 100000 in
theorem sec_cmp (l m : List Int) (hl : l.length = 64) (hm : m.length = 64) (w : World) : (Op.equalIn 10000 380 (.agg (bv l).toArray) (.agg (bv m).toArray)).run Tryz.prog w = .ok (decide (l = m)) w := by
  obtain ⟨i0, hi, hz0, hz1, hz2⟩ := info_parts Tryz.info5
  have hcell : ∀ (x : List Int), x.length = 64 → ∀ i ∈ List.range 64, (bv x).toArray[i]? = some (.int .u8 (x.getD i 0)) := by
    intro x hx i hi
    have : i < 64 := by simpa using hi
    rw [List.getElem?_toArray]
    unfold bv; rw [List.getElem?_map, List.getElem?_eq_getElem (by omega), List.getD_eq_getElem?_getD, List.getElem?_eq_getElem (by omega)]; rfl
  rw [show (10000 : Nat) = 9998 + 1 + 1 from rfl, run_equalIn_array w (9998 + 1) _ _ Tryz.underlying380 hi, show Tryz.prog.cellsOf 5 = 1 by kernel_rfl]
  rw [eq_anyW 5 .u8 Tryz.underlying5 (by kernel_rfl) 9998 _ _ (fun i => l.getD i 0) (fun i => m.getD i 0) w (List.range 64) (hcell l hl) (hcell m hm)]
  congr 1
  by_cases he : l = m
  · subst he; simp
  · rw [decide_eq_false he]
    rw [List.all_eq_false]
    obtain ⟨i, hne⟩ : ∃ i, l[i]? ≠ m[i]? := Classical.byContradiction fun h => he (List.ext_getElem? fun i => Classical.byContradiction fun hi => h ⟨i, hi⟩)
    have hi64 : i < 64 := by
      refine Classical.byContradiction fun h => hne ?_
      rw [List.getElem?_eq_none (by omega), List.getElem?_eq_none (by omega)]
    refine ⟨i, by simpa using hi64, ?_⟩
    rw [List.getElem?_eq_getElem (by omega), List.getElem?_eq_getElem (by omega)] at hne
    simp only [List.getD_eq_getElem?_getD, List.getElem?_eq_getElem (by omega : i < l.length), List.getElem?_eq_getElem (by omega : i < m.length), Option.getD_some, decide_eq_true_eq]
    exact fun h => hne (by rw [h])
set_option maxRecDepth 100000 in
theorem arr_at (b o : Nat) (len cap : Nat) (h : 64 ≤ len) (w : World) : (Instr.arrayAt 380 (.slice (some ⟨b, o, none⟩) len cap)).run Tryz.prog w = .ok (.pointer (some ⟨b, o, none⟩)) w := by
  have hu : (underlying 380).run Tryz.prog w = .ok (.array 64 5) w := by kernel_rfl
  unfold Instr.arrayAt
  simp only [Sem.run_bind, hu, Result.andThen_ok]
  rw [if_neg (by omega)]; rfl
set_option maxRecDepth 100000 in
theorem zero_sec (w : World) : (Instr.build 380 #[]).run Tryz.prog w = .ok (.agg (bv s0).toArray) w := by kernel_rfl
set_option maxRecDepth 100000 in
theorem sec_info10 : (Tryz.prog.info? 380).map (·.size) = some 64 := by kernel_rfl
set_option maxRecDepth 100000 in
theorem wpList_zero_sec {ops : Array Oper} {rest : List Oper} {o : Oper} {a : Act} {w : World} {Q : Exit → Act → World → Prop} (hgd : o.guard = none) (ho : o.op = .build 380 #[])
    (h : wpList Tryz.prog ops Q rest (a.put o.dst (.agg (bv s0).toArray)) w) : wpList Tryz.prog ops Q (o :: rest) a w := by
  refine wpList_run hgd (.agg (bv s0).toArray) w ?_ h
  unfold execOp
  simp [ho, zero_sec]
set_option maxRecDepth 100000 in
set_option maxHeartbeats 400000 in
theorem noughts_any (a : Option Addr) (len cap k : Nat) (l : List Int) (w : World) (h : Bts w a len cap l) (hk : 64 * (k + 1) ≤ len) (hk2 : k ≤ 1000000) :
    Calls Tryz.prog 224 #[.slice a len cap, .int .i64 (k : Int)] w fun e w' => e = .returned (.bool (decide ((l.drop (64 * k)).take 64 = s0))) ∧ w = w' := by
  have hlc := h.le_cap
  have hcm := h.cap_le
  have hl := h.len_eq
  obtain ⟨b, off, rfl, _, hcell⟩ := h.spot (by omega)
  have hX : ((l.drop (64 * k)).take 64).length = 64 := by rw [List.length_take, List.length_drop]; omega
  have hrg : w.rangeAt b (off + k * 64) (bv ((l.drop (64 * k)).take 64)) := by
    intro j v hj
    have hj64 : j < 64 := by have := (List.getElem?_eq_some_iff.1 hj).1; rw [bv_length, hX] at this; exact this
    have h1 := hcell (64 * k + j) (by omega)
    rw [show off + k * 64 + j = off + (64 * k + j) from by omega, h1]
    rw [← hj]
    unfold bv
    rw [List.getElem?_map, List.getElem?_take, if_pos hj64, List.getElem?_drop, List.getElem?_eq_getElem (by omega), List.getD_eq_getElem?_getD, List.getElem?_eq_getElem (by omega)]; rfl
  generalize (l.drop (64 * k)).take 64 = X at hX hrg
  have hsec := sec_cmp X s0 hX (by rfl) 
  have hi : (Tryz.prog.info? 380).map (·.size) = some (bv X).length := by rw [bv_length, hX]; exact sec_info10
  have k1 : (k : Int) * 64 ≤ ((k : Int) + 1) * 64 := by omega
  have k2 : ((k : Int) + 1) * 64 ≤ (cap : Int) := by omega
  have k3 : (((k : Int) + 1) * 64).toNat - ((k : Int) * 64).toNat = 64 := by omega
  unfold maxLen at hcm
  clear hcell hl h
  go_enter Tryz.func224, Tryz.ntmps224
  have hat := arr_at b (off + k * 64) 64 (cap - k * 64) (Nat.le_refl _)
  go_wp2_with (first
    | (refine wpList_load_mid rfl 380 (.tmp 12) rfl b (off + k * 64) rfl (bv X) _ hrg Tryz.underlying380 rfl hi ?_; clear hrg)
    | (refine wpList_zero_sec rfl rfl ?_))
  go_ret
  exact ⟨rfl, rfl⟩
end Go.Proofs.YtipakjenggeflaaGreatDoor
namespace Go.Proofs.YtipakjenggeflaaGreatDoor
open Go.RowKit
set_option linter.unusedVariables false

set_option maxRecDepth 100000 in
theorem Tryz.info22W : (Tryz.prog.info? 34).map (fun i => (i.zero, i.size, i.bytes)) = some (some (.slice none 0 0), 1, 24) := by kernel_rfl
set_option maxRecDepth 100000 in
theorem cell_one_new (w : World) (v : Value) (T : TypeId) : ∀ j u, [v][j]? = some u → (w.alloc (.cells #[v] T)).cell? ((⟨w.heap.size, 0, none⟩ : Addr).add j) = some u := World.news_of_block (heap_alloc_new w (.cells #[v] T))
set_option maxRecDepth 100000 in
theorem own_ge {w : World} {base n c : Nat} {a : Option Addr} {xs : List Value} (h : w.ownsRow base 5 1 (.slice a n c) n xs) : ∀ p, a = some p → base ≤ p.block ∧ p.block < w.heap.size := fun p hp => h.lt p.block (by rw [hp]; rfl)
set_option maxRecDepth 100000 in
theorem take_one (T : List (List Int)) (k : Nat) (h : k < T.length) : T.take (k + 1) = T.take k ++ [T.getD k []] := by
  rw [List.take_succ_eq_append_getElem h, List.getD_eq_getElem?_getD, List.getElem?_eq_getElem h]; rfl
set_option maxRecDepth 100000 in
theorem TL.lst {w : World} {own : Nat → Prop} {v : Value} {L M : List (List Int)} (h : TL w own v L) (e : L = M) : TL w own v M := by rw [← e]; exact h
/-- an append to an own list of texts: what it asks, what it gives -/
structure TAW (w : World) (own : Nat → Prop) (v : Value) (L : List (List Int)) (xs : List Value) : Prop where
  tl : TL w own v L
  hx : ∀ i, i < L.length → ∃ ai li ci, xs[i]? = some (.slice ai li ci) ∧ Bts w ai li ci (L.getD i []) ∧ (0 < li → ∀ p, ai = some p → own p.block ∧ v.ownBlock ≠ some p.block)
  hxl : xs.length = L.length
set_option maxRecDepth 100000 in
theorem TL.open {w : World} {own : Nat → Prop} {v : Value} {L : List (List Int)} (h : TL w own v L) : ∃ xs, w.ownsRow 0 34 1 v L.length xs ∧ Bx (TAW w own v L xs) := by
  obtain ⟨xs, h1, h2⟩ := h.row
  exact ⟨xs, h1, ⟨h, h2, by have := h1.1; omega⟩⟩
set_option maxRecDepth 100000 in
theorem TAW.done {w w' : World} {own own2 : Nat → Prop} {v : Value} {L : List (List Int)} {xs : List Value} {a : Option Addr} {n c g cap m : Nat} {l : List Int} (h : TAW w own v L xs) (hm : m = L.length) (hbt : Bts w a n c l) (hne : 0 < n → ∀ p, a = some p → own2 p.block ∧ v.ownBlock ≠ some p.block)
    (ho : w'.ownsRow 0 34 1 (.slice (some ⟨g, 0, none⟩) (m + 1) cap) (m + 1) (xs ++ [.slice a n c])) (hg : (w.alloc (.cells #[.slice a n c] 34)).grownBy w' v.ownBlock) (hl : v.ownBlock = some g ∨ g = (w.alloc (.cells #[.slice a n c] 34)).heap.size)
    (ho2 : ∀ k, own k → own2 k) (hg2 : own2 g) : TL w' own2 (.slice (some ⟨g, 0, none⟩) (m + 1) cap) (L ++ [l]) := by
  subst hm
  exact TL.app h.tl h.hx h.hxl hbt hne rfl ho hg hl ho2 hg2
set_option maxRecDepth 100000 in
set_option maxHeartbeats 1000000 in
theorem texts_any (gl gd : Nat) (own : Nat → Prop) (L : LS) (w : World) (h : LgW w gl own gd L) :
    Calls Tryz.prog 84 #[.pointer (some ⟨gl, 0, none⟩)] w fun e w' => ∃ v, e = .returned v ∧ TL w' (fun k => w.heap.size ≤ k ∧ k < w'.heap.size) v L.T ∧ Below w.heap.size w w' := by
  obtain ⟨vt, hR⟩ := h
  have c1 := hR.c1
  have H0 : Bx _ := ⟨hR.c0⟩
  have HTO : Bx (TOkW L.T) := ⟨hR.ok⟩
  have hTn : L.T.length ≤ 4096 := Nat.le_trans hR.tn hR.n2
  obtain ⟨a, c, rfl, hTx⟩ := hR.tl.txs
  have HTX : Bx (TxsW w a L.T.length c L.T) := ⟨hTx⟩
  have hcm := hTx.cap_le
  have hcl := hTx.le_cap
  unfold maxLen at hcm
  clear hR hTx
  obtain ⟨N, hN⟩ : ∃ N, N = w.heap.size := ⟨_, rfl⟩
  have HN : Hid (N = w.heap.size) := hN
  have hst : TL w (fun k => N ≤ k) (.slice none 0 0) (L.T.take 0) ∧ Below N w w := ⟨TL.nil _ _, Below.refl _ _⟩
  clear hN
  obtain ⟨n, HNL⟩ : ∃ n, Bx (n = L.T.length) := ⟨_, ⟨rfl⟩⟩
  rw [← HNL.out] at c1 HTX hTn hcl
  go_enter Tryz.func84, Tryz.ntmps84
  go_wp2_with fail
  refine (lmade_yes gl gd _ H0.out).mono ?_
  rintro e w' ⟨rfl, rfl⟩
  go_wp2
  go_loopw [3, 14] (fun v i wr => ∃ k : Nat, k ≤ n ∧ i = .int .i64 k ∧ TL wr (fun k => N ≤ k) v (L.T.take k) ∧ Below N w wr) (fun _ i _ => n - (intOf i).toNat)
  case atStart => exact ⟨0, Nat.zero_le _, rfl, hst⟩
  case round =>
    clear hst
    obtain ⟨k, hk, rfl, hT, hlow⟩ := hrel
    obtain ⟨vAll, hvAll⟩ : ∃ vAll, vAll = u3 := ⟨_, rfl⟩
    subst hvAll
    have hbw : Below w.heap.size w wr := by rw [← HN.out]; exact hlow
    by_cases hlt : k < n
    · have hkI : (k : Int) < (n : Int) := by omega
      obtain ⟨b, off, rfl, _, hc⟩ := (HTX.out.below hbw).spot (by omega)
      obtain ⟨ai, li, ci, hcell, hbt⟩ := hc k hlt
      have hli : li ≤ 16384 := by
        rw [← hbt.len_eq, List.getD_eq_getElem?_getD, List.getElem?_eq_getElem (by rw [← HNL.out]; exact hlt)]
        exact (HTO.out _ (List.getElem_mem _)).1
      have HMO : Bx (L.T.take (k + 1) = L.T.take k ++ [L.T.getD k []]) := ⟨take_one _ _ (by rw [← HNL.out]; exact hlt)⟩
      have HLL : Bx (k = (L.T.take k).length) := ⟨by rw [List.length_take, ← HNL.out]; omega⟩
      generalize L.T.getD k [] = y at hbt HMO
      clear hc
      go_wp2_with fail
      refine (clone_any ai li ci y _ hbt (by omega)).mono ?_
      rintro e w3 ⟨v3, rfl, hown3, hb3⟩
      obtain ⟨a3, c3, rfl, hm3⟩ := Bts.of_owns hown3 hbt.byt
      have HFAR : Bx (0 < li → ∀ p, a3 = some p → N ≤ p.block ∧ vAll.ownBlock ≠ some p.block) := ⟨fun hp p e => by
        have h1 := own_ge hown3 p e
        refine ⟨by have := hbw.size; rw [HN.out]; omega, fun e2 => ?_⟩
        obtain ⟨xs, ho, _⟩ := hT.row
        have := (ho.lt p.block e2).2
        omega⟩
      have hlow3 : Below N w w3 := hlow.trans (hb3.mono (by rw [HN.out]; exact hbw.size))
      have hs3 : N ≤ w3.heap.size := by have := hb3.size; have := hbw.size; rw [HN.out]; omega
      have hvb : ∀ j, vAll.ownBlock = some j → N ≤ j := fun j hj => hT.ob j hj
      obtain ⟨xs, hown, HTA⟩ := (hT.below hb3).open
      rw [← HLL.out] at hown
      have HM3 : Bx _ := ⟨hm3⟩
      have HLOW : Bx _ := ⟨hlow3⟩
      have HVB : Bx _ := ⟨hvb⟩
      obtain ⟨i0, hi, hz0, hz1, hz2⟩ := info_parts Tryz.info22W
      clear hT hown3 hb3 hbt hcell hm3 hbw hlow hlow3 hvb
      go_wp2_with (at_builtin; refine wpList_append_lies _ rfl (.tmp 18) (.tmp 21) 60 rfl 0 34 i0 (.slice none 0 0) 1 24 Tryz.underlying60 hi hz0 hz1 hz2 rfl (by decide) _ k xs rfl (hown.alloc _) ⟨w3.heap.size, 0, none⟩ 1 1 [.slice a3 li c3] rfl rfl (cell_one_new _ _ _) (by simp [Value.oneCell']) (by decide) (by unfold maxLen; omega) (by omega) (Nat.zero_le _) _ rfl ?_; intro g4 cap4 w4 hown4 hgr4 hl4 _)
      have hbig : (w3.alloc (.cells #[.slice a3 li c3] 34)).heap.size = w3.heap.size + 1 := by simp
      have hg4 : N ≤ g4 := by
        rcases hl4 with h1 | h1
        · exact HVB.out g4 h1
        · rw [h1, hbig]; omega
      have hT4 := HTA.out.done HLL.out HM3.out HFAR.out hown4 hgr4 hl4 (fun _ h => h) hg4
      have hK4 : Below N w w4 := (HLOW.out.alloc hs3 _).grown hgr4 (by rw [hbig]; omega) HVB.out
      rw [← HMO.out] at hT4
      clear hown4 hgr4 hl4 hown hi hz0 hz1 hz2 hbig hg4
      go_roundw
      case rel => exact ⟨k + 1, by omega, by go_num, hT4, hK4⟩
      case measure => simp [intOf]; omega
    · have hkn : k = n := by omega
      have hT9 := hT.lst (M := L.T) (by rw [hkn, HNL.out]; exact List.take_length)
      clear hT
      have hT8 : TL wr (fun k => w.heap.size ≤ k ∧ k < wr.heap.size) vAll L.T := hT9.keep (fun _ _ _ => rfl) (Nat.le_refl _) (fun k hk ho => ⟨by rw [← HN.out]; exact ho, hk⟩)
      clear hT9 hkn
      go_wp2
      go_ret
      exact ⟨_, rfl, hT8, hbw⟩
end Go.Proofs.YtipakjenggeflaaGreatDoor
namespace Go.Proofs.YtipakjenggeflaaGreatDoor
open Go.RowKit
set_option linter.unusedVariables false

set_option maxRecDepth 100000 in
theorem rd_at {s : DS} (h : s.off = false) (k : Nat) (hk : k < s.F.length) : s.rdE k = 0 ∧ s.rdL k = s.now.getD k [] := by
  have e : (decide (0 ≤ (k : Int)) && decide ((k : Int) < (s.F.length : Int))) = true := by simp; omega
  unfold DS.rdE DS.rdL
  rw [h, e]; exact ⟨rfl, rfl⟩
set_option maxRecDepth 100000 in
theorem now_len (s : DS) : s.now.length = s.F.length := app_len _ _
set_option maxRecDepth 100000 in
theorem now_sx {s : DS} (h : s.Ok) : Sxl s.now := app_sx h.f h.o
set_option maxRecDepth 100000 in
set_option maxHeartbeats 1000000 in
theorem rdisk_on (g : Nat) (own : Nat → Prop) (s : DS) (w : World) (h : Dsk w g own s) (hoff : s.off = false) :
    Calls Tryz.prog 156 #[.pointer (some ⟨g, 0, none⟩)] w fun e w' => ∃ v, e = .returned (.tuple #[v, .int .i64 0]) ∧ w'.ownsRow w.heap.size 5 1 v (64 * s.F.length) (bv (flat s.now)) ∧ Below w.heap.size w w' := by
  have hn2 := h.ok.n2
  have HNOW : Bx (s.now.length = s.F.length) := ⟨now_len s⟩
  have HSX : Bx (∀ k : Nat, k < s.F.length → (s.rdL k).length = 64 ∧ s.rdL k = s.now.getD k [] ∧ s.rdE k = 0 ∧ Byt (s.now.getD k [])) := ⟨fun k hk => by
    obtain ⟨e1, e2⟩ := rd_at hoff k hk
    have h1 := (now_sx h.ok).getD k (by rw [now_len]; exact hk)
    exact ⟨by rw [e2]; exact h1.1, e2, e1, h1.2⟩⟩
  have HD : Bx (Dsk w g own s) := ⟨h⟩
  clear h hoff
  obtain ⟨N, hN⟩ : ∃ N, N = w.heap.size := ⟨_, rfl⟩
  have HN : Hid (N = w.heap.size) := hN
  clear hN
  have hst : w.ownsRow N 5 1 (.slice none 0 0) (64 * 0) (bv (flat (s.now.take 0))) ∧ Below N w w := ⟨World.ownsRow_nil _ _ _ _, Below.refl _ _⟩
  obtain ⟨n, HNL⟩ : ∃ n, Bx (n = s.F.length) := ⟨_, ⟨rfl⟩⟩
  rw [← HNL.out] at hn2 HNOW HSX ⊢
  go_enter Tryz.func156, Tryz.ntmps156
  go_wp2_with fail
  refine (sectors_any g own s _ HD.out).mono ?_
  rintro e w' ⟨rfl, rfl⟩
  rw [← HNL.out]
  go_wp2
  go_loopw [4, 10] (fun v i wr => ∃ k : Nat, k ≤ n ∧ i = .int .i64 k ∧ wr.ownsRow N 5 1 v (64 * k) (bv (flat (s.now.take k))) ∧ Below N w wr) (fun _ i _ => n - (intOf i).toNat)
  case atStart => exact ⟨0, Nat.zero_le _, rfl, hst⟩
  case round =>
    clear hst
    obtain ⟨k, hk, rfl, hO, hlow⟩ := hrel
    have hbw : Below w.heap.size w wr := by rw [← HN.out]; exact hlow
    by_cases hlt : k < n
    · have hkI : (k : Int) < (n : Int) := by omega
      obtain ⟨e1, e2, e3, e4⟩ := HSX.out k hlt
      have hD := HD.out.below hbw
      have HMO : Bx (flat (s.now.take (k + 1)) = flat (s.now.take k) ++ s.now.getD k []) := ⟨by
        rw [take_one _ _ (by rw [HNOW.out]; exact hlt), flat_append]
        show _ ++ (_ ++ []) = _
        rw [List.append_nil]⟩
      go_wp2_with fail
      refine (read_any g own s k _ hD).mono ?_
      rintro e w3 ⟨v3, rfl, hown3, hb3⟩
      rw [e1, e2] at hown3
      rw [e3]
      obtain ⟨a3, c3, rfl, hm3⟩ := Bts.of_owns hown3 e4
      have hO3 := owns_below hO hb3
      have hlow3 : Below N w w3 := hlow.trans (hb3.mono (by rw [HN.out]; exact hbw.size))
      have hs3 : N ≤ w3.heap.size := by have := hb3.size; have := hbw.size; rw [HN.out]; omega
      have HLOW : Bx _ := ⟨hlow3⟩
      generalize s.now.getD k [] = y at hm3 HMO
      generalize flat (s.now.take k) = z at hO3 HMO
      clear hO hown3 hb3 hbw hlow hlow3 hD e1 e2 e3 e4
      go_wp2_with (at_builtin; refine wpList_append_bts rfl (.tmp 22) (.tmp 23) rfl N (64 * k) _ z rfl hO3 a3 64 c3 y rfl hm3 (by omega) hs3 ?_; intro v4 w4 hown4 hb4 _)
      rw [← HMO.out] at hown4
      have hlow4 := HLOW.out.trans hb4
      clear hb4 hO3 hm3 hs3 HLOW
      go_roundw
      case rel => exact ⟨k + 1, by omega, by go_num, hown4, hlow4⟩
      case measure => simp [intOf]; omega
    · have hkn : k = n := by omega
      have hO9 : wr.ownsRow w.heap.size 5 1 u4 (64 * n) (bv (flat s.now)) := by
        rw [hkn, List.take_of_length_le (by rw [HNOW.out]; exact Nat.le_refl _), HN.out] at hO
        exact hO
      clear hO hkn
      go_wp2
      go_ret2
      exact ⟨_, rfl, hO9, hbw⟩
end Go.Proofs.YtipakjenggeflaaGreatDoor
namespace Go.Proofs.YtipakjenggeflaaGreatDoor
open Go.RowKit
set_option linter.unusedVariables false

/-- what is read of a disk's bytes -/
def RFP (F : List (List Int)) (w : World) (e : Ending) (w' : World) : Prop := Below w.heap.size w w' ∧ (rdFW F = none → e = .returned (.tuple #[.slice none 0 0, .int .i64 0, .int .i64 13])) ∧
  ∀ T p, rdFW F = some (T, p) → TOkW T ∧ T.length ≤ p ∧ p ≤ F.length ∧ ∃ v, e = .returned (.tuple #[v, .int .i64 (p : Int), .int .i64 0]) ∧ TL w' (fun k => w.heap.size ≤ k ∧ k < w'.heap.size) v T
set_option maxRecDepth 100000 in
theorem RFP.no {F : List (List Int)} {w w' : World} (hb : Below w.heap.size w w') (h : none = rdFW F) : RFP F w (.returned (.tuple #[.slice none 0 0, .int .i64 0, .int .i64 13])) w' :=
  ⟨hb, fun _ => rfl, fun T p h2 => by rw [← h] at h2; cases h2⟩
set_option maxRecDepth 100000 in
theorem RFP.yes {F : List (List Int)} {w w' : World} {v : Value} {T : List (List Int)} {p : Nat} (hb : Below w.heap.size w w') (h : some (T, p) = rdFW F) (h1 : TOkW T) (h2 : T.length ≤ p) (h3 : p ≤ F.length) (ht : TL w' (fun k => w.heap.size ≤ k ∧ k < w'.heap.size) v T) : RFP F w (.returned (.tuple #[v, .int .i64 (p : Int), .int .i64 0])) w' :=
  ⟨hb, (fun h4 => by rw [← h] at h4; cases h4), fun T' p' h4 => by rw [← h] at h4; cases h4; exact ⟨h1, h2, h3, v, rfl, ht⟩⟩
set_option maxRecDepth 100000 in
theorem rfr_end {F : List (List Int)} {u p : Nat} {T : List (List Int)} (hu : F.length < u + p) (hp : p ≤ F.length) (h : ¬ (p < F.length ∧ F.getD p [] ≠ s0)) : rfr F u p T = some (T, p) := by
  obtain ⟨u, rfl⟩ : ∃ v, u = v + 1 := ⟨u - 1, by omega⟩
  rw [rfr, if_neg h]
set_option maxRecDepth 100000 in
theorem rfr_bad {F : List (List Int)} {u p : Nat} {T : List (List Int)} (hu : F.length < u + p) (hp : p < F.length) (h : F.getD p [] ≠ s0) (hb : ¬ (rdE (flat (F.drop p)) = 0 ∧ rdS (flat (F.drop p)) = (T.length : Int) + 1)) : rfr F u p T = none := by
  obtain ⟨u, rfl⟩ : ∃ v, u = v + 1 := ⟨u - 1, by omega⟩
  rw [rfr, if_pos ⟨hp, h⟩, if_neg hb]
set_option maxRecDepth 100000 in
theorem rfr_go {F : List (List Int)} {u p : Nat} {T : List (List Int)} (hu : F.length < u + p) (hp : p < F.length) (h : F.getD p [] ≠ s0) (hb : rdE (flat (F.drop p)) = 0) (hc : rdS (flat (F.drop p)) = (T.length : Int) + 1) : ∃ v, u = v + 1 ∧ rfr F u p T = rfr F v (p + ns (rdNF (flat (F.drop p)))) (T ++ [rdT (flat (F.drop p))]) := by
  obtain ⟨u, rfl⟩ : ∃ v, u = v + 1 := ⟨u - 1, by omega⟩
  exact ⟨u, rfl, by rw [rfr, if_pos ⟨hp, h⟩, if_pos ⟨hb, hc⟩]⟩
set_option maxRecDepth 100000 in
set_option maxHeartbeats 1000000 in
theorem frames_any (F : List (List Int)) (a : Option Addr) (len cap : Nat) (w : World) (hsx : Sxl F) (hn : F.length ≤ 4096) (h : Bts w a len cap (flat F)) :
    Calls Tryz.prog 157 #[.slice a len cap] w (RFP F w) := by
  have hl := h.len_eq
  rw [flat_lenW hsx] at hl
  have hlc := h.le_cap
  have hcm := h.cap_le
  unfold maxLen at hcm
  have HB : Bx (Bts w a len cap (flat F)) := ⟨h⟩
  have HSX : Bx (Sxl F) := ⟨hsx⟩
  clear h hsx
  obtain ⟨N, hN⟩ : ∃ N, N = w.heap.size := ⟨_, rfl⟩
  have HN : Hid (N = w.heap.size) := hN
  clear hN
  obtain ⟨n, HNL⟩ : ∃ n, Bx (n = F.length) := ⟨_, ⟨rfl⟩⟩
  rw [← HNL.out] at hn hl
  have hst : ∃ u, n < u + 0 ∧ Bx (rfr F u 0 [] = rdFW F) ∧ TL w (fun k => N ≤ k) (.slice none 0 0) [] ∧ Below N w w := ⟨n + 1, by omega, ⟨by rw [HNL.out]; rfl⟩, TL.nil _ _, Below.refl _ _⟩
  go_enter Tryz.func157, Tryz.ntmps157
  go_wp2
  go_loopw [5, 6] (fun v i wr => ∃ (p : Nat) (T : List (List Int)) (u : Nat), p ≤ n ∧ i = .int .i64 p ∧ T.length ≤ p ∧ Bx (TOkW T) ∧ n < u + p ∧ Bx (rfr F u p T = rdFW F) ∧ TL wr (fun k => N ≤ k) v T ∧ Below N w wr) (fun _ i _ => n - (intOf i).toNat)
  case atStart =>
    obtain ⟨u, h1, h2, h3, h4⟩ := hst
    exact ⟨0, [], u, Nat.zero_le _, rfl, Nat.le_refl _, ⟨TOkW.nil⟩, h1, h2, h3, h4⟩
  case round =>
    clear hst
    obtain ⟨p, T, u, hp, rfl, hTp, HTO, hu, HR, hT, hlow⟩ := hrel
    obtain ⟨vT, hvT⟩ : ∃ vT, vT = u5 := ⟨_, rfl⟩
    subst hvT
    have hbw : Below w.heap.size w wr := by rw [← HN.out]; exact hlow
    have hT8 : TL wr (fun k => w.heap.size ≤ k ∧ k < wr.heap.size) vT T := hT.keep (fun _ _ _ => rfl) (Nat.le_refl _) (fun k hk ho => ⟨by rw [← HN.out]; exact ho, hk⟩)
    by_cases hlt : p < n
    · have hlt' : p < F.length := by rw [← HNL.out]; exact hlt
      have g1 : (p : Int) * 64 < (len : Int) := by omega
      have hbt := HB.out.below hbw
      have HSE : Bx (((flat F).drop (64 * p)).take 64 = F.getD p []) := ⟨flat_sec HSX.out p hlt'⟩
      by_cases hz : F.getD p [] = s0
      · have HY : Bx (some (T, p) = rdFW F) := ⟨by rw [← HR.out]; exact (rfr_end (by rw [← HNL.out]; exact hu) (by rw [← HNL.out]; exact hp) (fun hh => hh.2 hz)).symm⟩
        have HZ : Bx (F.getD p [] = s0) := ⟨hz⟩
        have HPF : Bx (p ≤ F.length) := ⟨by rw [← HNL.out]; exact hp⟩
        clear hz hT hlow hlt'
        go_wp2_with fail
        refine (noughts_any a len cap p (flat F) _ hbt (by omega) (by omega)).mono ?_
        rintro e w' ⟨rfl, rfl⟩
        rw [HSE.out, decide_eq_true HZ.out]
        clear hbt
        go_wp2
        exact bodyPost_ret (v := .tuple #[vT, .int .i64 (p : Int), .int .i64 0]) (by simp [results, Tryz.results157, go_sem]) rfl (RFP.yes hbw HY.out HTO.out hTp HPF.out hT8)
      · have HZ : Bx (F.getD p [] ≠ s0) := ⟨hz⟩
        have HFD : Bx ((flat F).drop (64 * p) = flat (F.drop p)) := ⟨flat_drop HSX.out p⟩
        have HXB : Bx (Byt (flat (F.drop p))) := ⟨flat_byt (HSX.out.drop p)⟩
        have HXL : Bx ((flat (F.drop p)).length = len - p * 64) := ⟨by rw [flat_lenW (HSX.out.drop p), List.length_drop, ← HNL.out]; omega⟩
        obtain ⟨b, off, rfl, _, _⟩ := hbt.spot (by omega)
        have hpt := hbt.part (p * 64) (len - p * 64) (cap - p * 64) (by omega) (by omega) (by unfold maxLen; omega)
        rw [List.take_of_length_le (by rw [List.length_drop, hbt.len_eq]; exact Nat.le_refl _), show p * 64 = 64 * p from Nat.mul_comm _ _, HFD.out, show 64 * p = p * 64 from Nat.mul_comm _ _] at hpt
        have HBAD : Bx (¬ (rdE (flat (F.drop p)) = 0 ∧ rdS (flat (F.drop p)) = (T.length : Int) + 1) → none = rdFW F) := ⟨fun hb => by rw [← HR.out]; exact (rfr_bad (by rw [← HNL.out]; exact hu) hlt' HZ.out hb).symm⟩
        have HGO : Bx (rdE (flat (F.drop p)) = 0 → rdS (flat (F.drop p)) = (T.length : Int) + 1 → ∃ v, u = v + 1 ∧ rfr F v (p + ns (rdNF (flat (F.drop p)))) (T ++ [rdT (flat (F.drop p))]) = rdFW F) := ⟨fun h1 h2 => by
          obtain ⟨v, e1, e2⟩ := rfr_go (by rw [← HNL.out]; exact hu) hlt' HZ.out h1 h2
          exact ⟨v, e1, by rw [← e2]; exact HR.out⟩⟩
        have HBT : Bx _ := ⟨hbt⟩
        obtain ⟨av, cv, hvf, hcv⟩ := hT.form
        subst hvf
        clear hz hT8 hbt hlt'
        go_wp2_with fail
        refine (noughts_any _ len cap p (flat F) _ HBT.out (by omega) (by omega)).mono ?_
        rintro e w' ⟨rfl, rfl⟩
        rw [HSE.out, decide_eq_false HZ.out]
        have g2 : (p : Int) * 64 ≤ (len : Int) := by omega
        have g3 : ¬ cap = p * 64 := by omega
        clear HBT
        generalize flat (F.drop p) = X at HXB HXL HBAD HGO hpt
        go_wp2_with fail
        refine (read8_any _ _ _ _ _ hpt).mono ?_
        rintro e w3 ⟨v3, rfl, hown3, hb3⟩
        have hlow3 : Below N w w3 := hlow.trans (hb3.mono (by rw [HN.out]; exact hbw.size))
        have hbw3 : Below w.heap.size w w3 := by rw [← HN.out]; exact hlow3
        by_cases he0 : rdE X = 0
        · obtain ⟨r1, r2, r3, r4, r5⟩ := rdN_le HXB.out he0
          rw [HXL.out] at r1
          obtain ⟨a3, c3, rfl, hm3⟩ := Bts.of_owns hown3 (rdT_byt HXB.out)
          rw [he0]
          by_cases hs1 : rdS X = (T.length : Int) + 1
          · obtain ⟨u', hu', HR'⟩ := HGO.out he0 hs1
            have HFAR : Bx (0 < (rdT X).length → ∀ q, a3 = some q → N ≤ q.block ∧ (Value.slice av T.length cv).ownBlock ≠ some q.block) := ⟨fun _ q e => by
              have h1 := own_ge hown3 q e
              refine ⟨by have := hbw.size; rw [HN.out]; omega, fun e2 => ?_⟩
              obtain ⟨xs, ho, _⟩ := hT.row
              have := (ho.lt q.block e2).2
              omega⟩
            have HTO' : Bx (TOkW (T ++ [rdT X])) := ⟨HTO.out.snoc r3 hm3.byt⟩
            have hs3 : N ≤ w3.heap.size := by rw [HN.out]; exact hbw3.size
            have HVB : Bx (∀ j, (Value.slice av T.length cv).ownBlock = some j → N ≤ j) := ⟨fun j hj => hT.ob j hj⟩
            obtain ⟨xs, hown, HTA⟩ := (hT.below hb3).open
            have HRR : Bx _ := ⟨HR'⟩
            have hns : ns (rdNF X) ≤ n - p := by unfold ns; omega
            have hns1 : 1 ≤ ns (rdNF X) := by unfold ns; omega
            have hrn : rdNF X ≤ 1000000 := by omega
            have hu2 : n < u' + (p + ns (rdNF X)) := by omega
            have hsb : (rdS X != (T.length : Int) + 1) = false := by rw [hs1]; simp
            have HM3 : Bx _ := ⟨hm3⟩
            have HLOW : Bx _ := ⟨hlow3⟩
            obtain ⟨i0, hi, hz0, hz1, hz2⟩ := info_parts Tryz.info22W
            have hTl : T.length ≤ 4096 := by omega
            clear HGO HBAD hT hown3 hb3 hm3 hbw hlow hlow3 hbw3 hpt he0 HR' r1 r2 r3 r4 r5 hu' hs1
            generalize rdS X = S at hsb ⊢
            generalize hrt : rdT X = t at HFAR HTO' HM3 HRR ⊢
            clear hrt
            generalize hrn2 : rdNF X = m at hns hns1 hrn hu2 HRR ⊢
            clear hrn2
            generalize ht1 : t.length = tl at HFAR HM3 ⊢
            clear ht1
            go_wp2_with fail
            refine (number_anyW _ _ _ _ hTl).mono ?_
            rintro e w' ⟨rfl, rfl⟩
            have HKT : ∃ k, Bx (k = T.length) := ⟨_, ⟨rfl⟩⟩
            obtain ⟨k, HKT⟩ := HKT
            rw [← HKT.out] at hTp hown HFAR HVB hTl hsb HTA ⊢
            go_wp2_with (at_builtin; refine wpList_append_lies _ rfl (.tmp 40) (.tmp 42) 60 rfl 0 34 i0 (.slice none 0 0) 1 24 Tryz.underlying60 hi hz0 hz1 hz2 rfl (by decide) _ k xs rfl (hown.alloc _) ⟨w3.heap.size, 0, none⟩ 1 1 [.slice a3 tl c3] rfl rfl (cell_one_new _ _ _) (by simp [Value.oneCell']) (by decide) (by unfold maxLen; omega) (by omega) (Nat.zero_le _) _ rfl ?_; intro g4 cap4 w4 hown4 hgr4 hl4 _)
            have hbig : (w3.alloc (.cells #[.slice a3 tl c3] 34)).heap.size = w3.heap.size + 1 := by simp
            have hg4 : N ≤ g4 := by
              rcases hl4 with h1 | h1
              · exact HVB.out g4 h1
              · rw [h1, hbig]; omega
            have hT4 := HTA.out.done HKT.out HM3.out HFAR.out hown4 hgr4 hl4 (fun _ h => h) hg4
            have hK4 : Below N w w4 := (HLOW.out.alloc hs3 _).grown hgr4 (by rw [hbig]; omega) HVB.out
            have HLN : Bx ((T ++ [t]).length ≤ p + ns m) := ⟨by rw [List.length_append, ← HKT.out]; show k + 1 ≤ _; omega⟩
            clear hown4 hgr4 hl4 hown hi hz0 hz1 hz2 hbig hg4
            go_wp2_with fail
            refine (wsec_any m _ hrn).mono ?_
            rintro e w' ⟨rfl, rfl⟩
            generalize ns m = q at hns hns1 hu2 HRR HLN ⊢
            go_wp2
            go_roundw
            case rel => exact ⟨p + q, T ++ [t], u', by omega, by go_num, HLN.out, HTO', hu2, HRR, hT4, hK4⟩
            case measure => simp [intOf]; omega
          · have HNO := HBAD.out (fun hh => hs1 hh.2)
            have hsb : (rdS X != (T.length : Int) + 1) = true := by simpa using hs1
            have hTl : T.length ≤ 4096 := by omega
            have HNO' : Bx _ := ⟨HNO⟩
            clear HGO HBAD hT hown3 hb3 hm3 hbw hlow hlow3 hpt he0 r1 r2 r3 r4 r5 hs1 HNO
            generalize rdS X = S at hsb ⊢
            generalize (rdT X).length = tl
            generalize rdNF X = m
            go_wp2_with fail
            refine (number_anyW _ _ _ _ hTl).mono ?_
            rintro e w' ⟨rfl, rfl⟩
            go_wp2
            exact bodyPost_ret (v := .tuple #[.slice none 0 0, .int .i64 0, .int .i64 13]) (by simp [results, Tryz.results157, go_sem]) rfl (RFP.no hbw3 HNO'.out)
        · have HNO := HBAD.out (fun hh => he0 hh.1)
          have heb : (rdE X != 0) = true := by simpa using he0
          have HNO' : Bx _ := ⟨HNO⟩
          clear HGO HBAD hT hown3 hb3 hbw hlow hlow3 hpt he0 HNO
          generalize rdS X = S
          generalize rdNF X = m
          generalize rdE X = E at heb ⊢
          go_wp2
          exact bodyPost_ret (v := .tuple #[.slice none 0 0, .int .i64 0, .int .i64 13]) (by simp [results, Tryz.results157, go_sem]) rfl (RFP.no hbw3 HNO'.out)
    · have hpn : p = n := by omega
      have HY : Bx (some (T, p) = rdFW F) := ⟨by rw [← HR.out]; exact (rfr_end (by rw [← HNL.out]; exact hu) (by rw [← HNL.out]; exact hp) (fun hh => hlt (by rw [HNL.out]; exact hh.1))).symm⟩
      have g1 : ¬ (p : Int) * 64 < (len : Int) := by omega
      have HPF : Bx (p ≤ F.length) := ⟨by rw [← HNL.out]; exact hp⟩
      clear hT hlow hpn
      go_wp2
      exact bodyPost_ret (v := .tuple #[vT, .int .i64 (p : Int), .int .i64 0]) (by simp [results, Tryz.results157, go_sem]) rfl (RFP.yes hbw HY.out HTO.out hTp HPF.out hT8)
end Go.Proofs.YtipakjenggeflaaGreatDoor
namespace Go.Proofs.YtipakjenggeflaaGreatDoor
open Go.RowKit
set_option linter.unusedVariables false

set_option maxRecDepth 100000 in
theorem bts_nilW (w : World) : Bts w none 0 0 [] := ⟨rfl, Byt.nil, Nat.le_refl _, Nat.zero_le _, fun _ => rfl, fun hp => absurd hp (Nat.lt_irrefl _)⟩
set_option maxRecDepth 100000 in
theorem wr_O {s : DS} (x : Int) (b : List Int) : (s.wr x b).O.length ≤ s.O.length + 1 := by
  unfold DS.wr
  split
  · omega
  · split
    · split
      · show s.O.length ≤ _; omega
      · show (s.O ++ _).length ≤ _; simp
    · omega
set_option maxRecDepth 100000 in
theorem wipL_z {N : List (List Int)} {p j : Nat} {s : DS} {b : Bool} (h : N.getD (p + j) [] = s0) : wipL N p (j + 1) s b = wipL N p j s b := by rw [wipL, if_pos h]
set_option maxRecDepth 100000 in
theorem wipL_w {N : List (List Int)} {p j : Nat} {s : DS} {b : Bool} (h : N.getD (p + j) [] ≠ s0) (he : s.wrE ((p + j : Nat) : Int) [] = 0) : wipL N p (j + 1) s b = wipL N p j (s.wr ((p + j : Nat) : Int) []) true := by rw [wipL, if_neg h, if_pos he]
set_option maxRecDepth 100000 in
theorem wipL_e {N : List (List Int)} {p j : Nat} {s : DS} {b : Bool} (h : N.getD (p + j) [] ≠ s0) (he : s.wrE ((p + j : Nat) : Int) [] ≠ 0) : wipL N p (j + 1) s b = (s.wr ((p + j : Nat) : Int) [], b, s.wrE ((p + j : Nat) : Int) []) := by rw [wipL, if_neg h, if_neg he]
set_option maxRecDepth 100000 in
set_option maxHeartbeats 1000000 in
theorem wipe_any (g : Nat) (own : Nat → Prop) (s : DS) (p : Nat) (a : Option Addr) (len cap : Nat) (w : World) (hD : Dsk w g own s) (hbt : Bts w a len cap (flat s.now)) (hfar : 0 < len → ∀ q, a = some q → ¬ own q.block) (hp : p ≤ s.F.length) (hO : s.O.length ≤ 900000) :
    Calls Tryz.prog 158 #[.pointer (some ⟨g, 0, none⟩), .slice a len cap, .int .i64 (p : Int)] w fun e w' => e = .returned (.int .i64 (s.wipE p)) ∧ ∃ own', Dsk w' g own' (s.wipS p) ∧ Did own w w' own' := by
  have hn2 := hD.ok.n2
  have hsx := now_sx hD.ok
  have hl := hbt.len_eq
  rw [flat_lenW hsx, now_len] at hl
  have HSE : Bx (∀ k, k < s.F.length → ((flat s.now).drop (64 * k)).take 64 = s.now.getD k []) := ⟨fun k hk => flat_sec hsx k (by rw [now_len]; exact hk)⟩
  have HBT : Bx (∀ W, Kept own w W → Bts W a len cap (flat s.now)) := ⟨fun W hW => hbt.keep (fun hp q e => hW.block _ (hbt.lt hp e) (hfar hp q e)) hW.size⟩
  have HD : Bx (Dsk w g own s) := ⟨hD⟩
  have HR0 : Bx (wipL s.now p (s.F.length - p) s false = s.wipR p) := ⟨rfl⟩
  have HOs : Bx (s.O.length ≤ 900000) := ⟨hO⟩
  clear hD hsx hbt hfar hO
  obtain ⟨n, HNL⟩ : ∃ n, Bx (n = s.F.length) := ⟨_, ⟨rfl⟩⟩
  rw [← HNL.out] at hp hn2 hl HSE HR0
  obtain ⟨N, hN⟩ : ∃ N, N = s.now := ⟨_, rfl⟩
  rw [← hN] at HSE HBT HR0
  clear hN
  go_enter Tryz.func158, Tryz.ntmps158
  go_wp2_with fail
  refine (sectors_any g own s _ HD.out).mono ?_
  rintro e w' ⟨rfl, rfl⟩
  rw [← HNL.out]
  go_wp2
  go_loopw [7, 8] (fun v i wr => ∃ (j : Nat) (b : Bool) (s1 : DS) (own1 : Nat → Prop), j ≤ n - p ∧ v = .bool b ∧ i = .int .i64 ((p : Int) + (j : Int) - 1) ∧ Bx (wipL N p j s1 b = s.wipR p) ∧ Bx (s1.F.length = n) ∧ Bx (s1.O.length + j ≤ 900000 + n) ∧ Dsk wr g own1 s1 ∧ Did own w wr own1) (fun _ i _ => (intOf i + 1).toNat)
  case atStart => exact ⟨n - p, false, s, own, Nat.le_refl _, rfl, by congr 1; omega, HR0, ⟨HNL.out.symm⟩, ⟨by have := HOs.out; omega⟩, HD.out, Did.same (Kept.refl _ _)⟩
  case round =>
    obtain ⟨j, b, s1, own1, hj, rfl, rfl, HR, HF1, HO1, hD1, hdid⟩ := hrel
    clear HR0 HD
    have HD1 : Bx (Dsk wr g own1 s1) := ⟨hD1⟩
    have HDI : Bx (Did own w wr own1) := ⟨hdid⟩
    by_cases hj0 : j = 0
    · subst hj0
      have hge : decide ((p : Int) + ((0 : Nat) : Int) - 1 ≥ (p : Int)) = false := decide_eq_false (by omega)
      have HRR : Bx (s.wipR p = (s1, b, 0)) := ⟨HR.out.symm⟩
      clear HR hD1 hdid
      cases b with
      | false =>
        have HE := wip_no HRR.out rfl rfl
        have HE' : Bx _ := ⟨HE⟩
        clear HE HRR
        go_wp2
        go_ret
        exact ⟨ret_int HE'.out.1.symm, own1, by rw [HE'.out.2]; exact HD1.out, HDI.out⟩
      | true =>
        have HE := wip_sy HRR.out rfl rfl
        have HE' : Bx _ := ⟨HE⟩
        clear HE HRR
        go_wp2_with fail
        refine (sync_any g own1 s1 _ HD1.out (by have := HO1.out; omega)).mono ?_
        rintro e w3 ⟨rfl, hD3, hk3⟩
        rw [show s1.syE = s.wipE p from HE'.out.1.symm]
        have HD3 : Bx (Dsk w3 g own1 (s.wipS p)) := ⟨by rw [HE'.out.2]; exact hD3⟩
        have HDI3 : Bx _ := ⟨HDI.out.trans (Did.same hk3)⟩
        clear hD3 hk3
        go_wp2
        go_ret
        exact ⟨rfl, own1, HD3.out, HDI3.out⟩
    · obtain ⟨j, rfl⟩ : ∃ i, j = i + 1 := ⟨j - 1, by omega⟩
      have hat : (p : Int) + ((j + 1 : Nat) : Int) - 1 = ((p + j : Nat) : Int) := by omega
      rw [hat]
      clear hat hj0
      have hge : decide (p ≤ p + j) = true := decide_eq_true (by omega)
      have hbt := HBT.out wr hdid.kept
      have hse := HSE.out (p + j) (by omega)
      clear hD1 hdid
      obtain ⟨x, hx⟩ : ∃ x, x = p + j := ⟨_, rfl⟩
      rw [← hx] at hge hse ⊢
      have hxn : x < n := by omega
      have hdec : IntKind.i64.wrap ((x : Int) - 1) = (x : Int) - 1 := IntWalk.i64_in _ (by omega)
      have HX : Bx (x = p + j) := ⟨hx⟩
      clear hx
      go_wp2_with fail
      refine (noughts_any a len cap x (flat N) _ hbt (by omega) (by omega)).mono ?_
      rintro e w' ⟨rfl, rfl⟩
      rw [hse]
      clear hbt hse
      by_cases hz : N.getD x [] = s0
      · rw [decide_eq_true hz]
        have HR' : Bx (wipL N p j s1 b = s.wipR p) := ⟨by rw [← HR.out]; exact (wipL_z (by rw [← HX.out]; exact hz)).symm⟩
        clear hz HR
        go_wp2
        go_roundw
        case rel => exact ⟨j, b, s1, own1, by omega, rfl, by have := HX.out; congr 1; omega, HR', HF1, ⟨by have := HO1.out; omega⟩, HD1.out, HDI.out⟩
        case measure => simp [intOf]
      · rw [decide_eq_false hz]
        go_wp2_with fail
        refine (write_any g own1 s1 x none 0 0 [] _ HD1.out (bts_nilW _) (fun hp => absurd hp (Nat.lt_irrefl _)) (by have := HO1.out; omega)).mono ?_
        rintro e w3 ⟨rfl, own3, hD3, hdid3⟩
        have HD3 : Bx _ := ⟨hD3⟩
        have HDI3 : Bx _ := ⟨HDI.out.trans hdid3⟩
        clear hD3 hdid3
        by_cases he : s1.wrE (x : Int) [] = 0
        · have HR' : Bx (wipL N p j (s1.wr (x : Int) []) true = s.wipR p) := ⟨by rw [← HR.out, HX.out]; exact (wipL_w (by rw [← HX.out]; exact hz) (by rw [← HX.out]; exact he)).symm⟩
          have HF' : Bx ((s1.wr (x : Int) []).F.length = n) := ⟨by rw [wr_same]; exact HF1.out⟩
          have HO' : Bx ((s1.wr (x : Int) []).O.length + j ≤ 900000 + n) := ⟨by have := HO1.out; have := wr_O (s := s1) (x : Int) []; omega⟩
          rw [he]
          clear hz HR he
          generalize s1.wr (x : Int) [] = s2 at HD3 HR' HF' HO'
          go_wp2
          go_roundw
          case rel => exact ⟨j, true, s2, own3, by omega, rfl, by have := HX.out; congr 1; omega, HR', HF', HO', HD3.out, HDI3.out⟩
          case measure => simp [intOf]
        · have HRR : s.wipR p = (s1.wr (x : Int) [], b, s1.wrE (x : Int) []) := by rw [← HR.out, HX.out]; exact wipL_e (by rw [← HX.out]; exact hz) (by rw [← HX.out]; exact he)
          have HE := wip_err HRR he
          have HE' : Bx _ := ⟨HE⟩
          have heb : (s1.wrE (x : Int) [] != 0) = true := by simpa using he
          clear hz HR he HE HRR
          generalize s1.wrE (x : Int) [] = E at heb HE' ⊢
          go_wp2
          go_ret
          exact ⟨ret_int HE'.out.1.symm, own3, by rw [HE'.out.2]; exact HD3.out, HDI3.out⟩
end Go.Proofs.YtipakjenggeflaaGreatDoor
namespace Go.Proofs.YtipakjenggeflaaGreatDoor
open Go.RowKit
set_option linter.unusedVariables false

set_option maxHeartbeats 400000 in
theorem wopen_no (p : Option Addr) (w : World) (h : NoD w p) :
    Calls Tryz.prog 83 #[.pointer p] w fun e w' => e = .returned (.tuple #[.pointer none, .int .i64 1]) ∧ w = w' := by
  have H : Bx (NoD w p) := ⟨h⟩
  clear h
  go_enter Tryz.func83, Tryz.ntmps83
  go_wp2_with fail
  refine (sectors_no p _ H.out).mono ?_
  rintro e w' ⟨rfl, rfl⟩
  go_wp2
  go_ret2
  exact ⟨rfl, rfl⟩
set_option maxRecDepth 100000 in
theorem wopen_lg {w2 w3 : World} {g p N : Nat} {a2 : Option Addr} {c2 : Nat} {own own3 : Nat → Prop} {T : List (List Int)} (t1 : TOkW T) (t2 : T.length ≤ p) (t3 : p ≤ 4096) (hT : TL w2 (fun k => N ≤ k ∧ k < w2.heap.size) (.slice a2 T.length c2) T) (hlt : ∀ k, own k → k < N) (hdid : Did own w2 w3 own3) (hs : N ≤ w2.heap.size) :
    LgW (w3.alloc (.cells #[.pointer (some ⟨g, 0, none⟩), .slice a2 T.length c2, .int .i64 (p : Int), .bool false] 207)) w3.heap.size (fun k => (N ≤ k ∧ k < w2.heap.size) ∨ k = w3.heap.size) g ⟨T, p, false⟩ := by
  have hk := hdid.kept
  have hT3 := hT.kept hk (fun k hk ho => by have := hlt k ho; omega)
  have hb : Below w3.heap.size w3 (w3.alloc (.cells #[.pointer (some ⟨g, 0, none⟩), .slice a2 T.length c2, .int .i64 (p : Int), .bool false] 207)) := (Below.refl _ _).alloc (Nat.le_refl _) _
  refine ⟨_, ⟨heap_alloc_new _ _, (hT3.below hb).keep (fun _ _ _ => rfl) (Nat.le_refl _) (fun k _ ho => ⟨.inl ho, by have := hk.size; omega⟩), .inr rfl, fun k hk2 => ?_, t1, t2, t3⟩⟩
  have hz : (w3.alloc (.cells #[.pointer (some ⟨g, 0, none⟩), .slice a2 T.length c2, .int .i64 (p : Int), .bool false] 207)).heap.size = w3.heap.size + 1 := by simp
  rw [hz]
  have := hk.size
  rcases hk2 with h | h <;> omega
set_option maxRecDepth 100000 in
set_option maxHeartbeats 1000000 in
theorem wopen_ok (g : Nat) (own : Nat → Prop) (s : DS) (w : World) (T : List (List Int)) (p : Nat) (hD : Dsk w g own s) (hoff : s.off = false) (hr : rdFW s.now = some (T, p)) (hO : s.O.length ≤ 900000) (hE : s.wipE p = 0) :
    Calls Tryz.prog 83 #[.pointer (some ⟨g, 0, none⟩)] w fun e w' => ∃ gl, e = .returned (.tuple #[.pointer (some ⟨gl, 0, none⟩), .int .i64 0]) ∧ ∃ own' ownL, Dsk w' g own' (s.wipS p) ∧ Did own w w' own' ∧ LgW w' gl ownL g ⟨T, p, false⟩ ∧ (∀ k, ownL k → w.heap.size ≤ k) ∧ (∀ k, ownL k → ¬ own' k) := by
  have hn1 := hD.ok.n1
  have hn2 := hD.ok.n2
  have hsx := now_sx hD.ok
  have hnl := now_len s
  have HD : Bx (Dsk w g own s) := ⟨hD⟩
  have HLT : Bx (∀ k, own k → k < w.heap.size) := ⟨hD.lt⟩
  have hq : ((s.F.length : Int) == 0) = false := beq_eq_false_iff_ne.2 (by omega)
  clear hD
  go_enter Tryz.func83, Tryz.ntmps83
  go_wp2_with fail
  refine (sectors_any g own s _ HD.out).mono ?_
  rintro e w' ⟨rfl, rfl⟩
  go_wp2_with fail
  refine (rdisk_on g own s _ HD.out hoff).mono ?_
  rintro e w1 ⟨v1, rfl, hown1, hb1⟩
  have hby := flat_byt hsx
  obtain ⟨a1, c1, rfl, hm1⟩ := Bts.of_owns hown1 hby
  have HBT : Bx _ := ⟨hm1⟩
  have HFAR : Bx (0 < 64 * s.F.length → ∀ q, a1 = some q → ¬ own q.block) := ⟨fun _ q e ho => by have h1 := (own_ge hown1 q e).1; have := HLT.out _ ho; omega⟩
  clear hown1 hm1 hby
  go_wp2_with fail
  refine (frames_any s.now a1 _ c1 _ hsx (by rw [hnl]; exact hn2) HBT.out).mono ?_
  rintro e w2 ⟨hb2, r1, r2⟩
  obtain ⟨t1, t2, t3, v2, rfl, hT⟩ := r2 T p hr
  rw [hnl] at t3
  have hb := bstep hb1 hb2
  have HB : Bx _ := ⟨hb⟩
  have hD2 := HD.out.below hb
  have hbt2 := HBT.out.below hb2
  obtain ⟨a2, c2, rfl, _⟩ := hT.form
  have hT' : TL w2 (fun k => w.heap.size ≤ k ∧ k < w2.heap.size) (.slice a2 T.length c2) T := hT.keep (fun _ _ _ => rfl) (Nat.le_refl _) (fun k _ ho => ⟨by have := hb1.size; omega, ho.2⟩)
  have HTT : Bx _ := ⟨hT'⟩
  have HTO : Bx _ := ⟨t1⟩
  clear r1 r2 hb1 hb2 hb HBT hT hT' t1
  go_wp2_with fail
  refine (wipe_any g own s p a1 _ c1 _ hD2 hbt2 HFAR.out t3 hO).mono ?_
  rintro e w3 ⟨rfl, own3, hD3, hdid⟩
  have HD3 : Bx (Dsk w3 g own3 (s.wipS p)) := ⟨hD3⟩
  have HDI : Bx _ := ⟨hdid⟩
  rw [hE]
  have HLG : Bx _ := ⟨wopen_lg (g := g) HTO.out t2 (Nat.le_trans t3 hn2) HTT.out HLT.out hdid HB.out.size⟩
  clear hD2 hbt2 hD3 hdid hE hr
  generalize hTl : T.length = m at HLG t2 ⊢
  clear hTl
  go_wp2
  go_ret2
  have hba : Below w3.heap.size w3 (w3.alloc (.cells #[.pointer (some ⟨g, 0, none⟩), .slice a2 m c2, .int .i64 (p : Int), .bool false] 207)) := (Below.refl _ _).alloc (Nat.le_refl _) _
  have hsz := HDI.out.kept.size
  have hsb := HB.out.size
  refine ⟨_, rfl, own3, _, HD3.out.below hba, ((Did.same (Kept.of_below HB.out)).trans HDI.out).below hba, HLG.out, fun k hk => ?_, fun k hk ho => ?_⟩
  · rcases hk with h | h
    · exact h.1
    · omega
  · rcases hk with h | h
    · rcases HDI.out.new k ho with h2 | h2
      · have := HLT.out k h2; omega
      · omega
    · have := HD3.out.lt k ho
      omega
end Go.Proofs.YtipakjenggeflaaGreatDoor
namespace Go.Proofs.YtipakjenggeflaaGreatDoor
open Go.RowKit
set_option linter.unusedVariables false

set_option maxRecDepth 100000 in
set_option maxHeartbeats 1000000 in
theorem cutf_any (b off len cap : Nat) (f : List Int) (w : World) (h : Bts w (some ⟨b, off, none⟩) len cap f) (hlen : len ≤ 20000) (hp : 0 < len) :
    Calls Tryz.prog 289 #[.slice (some ⟨b, off, none⟩) len cap] w fun e w' => ∃ v, e = .returned v ∧ TL w' (fun k => k = b ∨ (w.heap.size ≤ k ∧ k < w'.heap.size)) v (prt f) ∧ Below w.heap.size w w' := by
  have hl := h.len_eq
  have hlc := h.le_cap
  have hblt := h.lt hp rfl
  have HB : Bx (Bts w (some ⟨b, off, none⟩) len cap f) := ⟨h⟩
  have HPL : Bx ((prt f).length = ns len) := ⟨by rw [prt_len, hl]⟩
  have HPG : Bx (∀ k, k < ns len → (prt f).getD k [] = (f.drop (64 * k)).take 64) := ⟨fun k hk => prt_getD f k (by rw [hl]; exact hk)⟩
  have HFL : Bx (f.length = len) := ⟨hl⟩
  have hcm := h.cap_le
  clear h hl
  obtain ⟨N, hN⟩ : ∃ N, N = w.heap.size := ⟨_, rfl⟩
  have HN : Hid (N = w.heap.size) := hN
  rw [← hN] at hblt
  have hst : TL w (fun k => k = b ∨ N ≤ k) (.slice none 0 0) ((prt f).take 0) ∧ Below N w w ∧ ∀ j, (Value.slice none 0 0).ownBlock = some j → N ≤ j := ⟨TL.nil _ _, Below.refl _ _, fun j hj => by simp [Value.ownBlock] at hj⟩
  clear hN
  go_enter Tryz.func289, Tryz.ntmps289
  go_wp2
  go_loopw [3, 4] (fun v i wr => ∃ k : Nat, k ≤ ns len ∧ i = .int .i64 (64 * (k : Int)) ∧ TL wr (fun k => k = b ∨ N ≤ k) v ((prt f).take k) ∧ Below N w wr ∧ ∀ j, v.ownBlock = some j → N ≤ j) (fun _ i _ => len + 64 - (intOf i).toNat)
  case atStart => exact ⟨0, Nat.zero_le _, rfl, hst⟩
  case round =>
    clear hst
    obtain ⟨k, hk, rfl, hT, hlow, hvb⟩ := hrel
    obtain ⟨vAll, hvAll⟩ : ∃ vAll, vAll = u3 := ⟨_, rfl⟩
    subst hvAll
    have hbw : Below w.heap.size w wr := by rw [← HN.out]; exact hlow
    have hs3 : N ≤ wr.heap.size := by rw [HN.out]; exact hbw.size
    have hns : 64 * ns len < len + 64 ∧ len ≤ 64 * ns len := by unfold ns; omega
    by_cases hlt : 64 * k < len
    · have hkI : 64 * (k : Int) < (len : Int) := by omega
      have hkn : k < ns len := by omega
      have HMO : Bx ((prt f).take (k + 1) = (prt f).take k ++ [(f.drop (64 * k)).take 64]) := ⟨by rw [take_one _ _ (by rw [HPL.out]; exact hkn), HPG.out k hkn]⟩
      have HLL : Bx (k = ((prt f).take k).length) := ⟨by rw [List.length_take, HPL.out]; omega⟩
      obtain ⟨xs, hown, HTA⟩ := hT.open
      rw [← HLL.out] at hown
      have HVB : Bx _ := ⟨hvb⟩
      have HLOW : Bx _ := ⟨hlow⟩
      have HBW := HB.out.below hbw
      obtain ⟨i0, hi, hz0, hz1, hz2⟩ := info_parts Tryz.info22W
      have HFAR0 : Bx (∀ n, 0 < n → ∀ q : Addr, some (⟨b, off + 64 * k, none⟩ : Addr) = some q → (q.block = b ∨ N ≤ q.block) ∧ vAll.ownBlock ≠ some q.block) := ⟨fun _ _ q e => by cases e; exact ⟨.inl rfl, fun e2 => by have := hvb b e2; omega⟩⟩
      by_cases hend : len < 64 * k + 64
      · have HPT : Bx (Bts wr (some ⟨b, off + 64 * k, none⟩) (len - 64 * k) (len - 64 * k) ((f.drop (64 * k)).take 64)) := ⟨by
          have h1 := HBW.part (64 * k) (len - 64 * k) (len - 64 * k) (by omega) (Nat.le_refl _) (by omega)
          refine h1.list ?_
          rw [List.take_of_length_le (by rw [List.length_drop, HFL.out]; exact Nat.le_refl _), List.take_of_length_le (by rw [List.length_drop, HFL.out]; omega)]⟩
        have HFAR : Bx _ := ⟨HFAR0.out (len - 64 * k)⟩
        have hend' : (len : Int) < 64 * (k : Int) + 64 := by omega
        clear HBW hT hlow hvb
        go_wp2_with (at_builtin; refine wpList_append_lies _ rfl (.tmp 17) (.tmp 23) 60 rfl 0 34 i0 (.slice none 0 0) 1 24 Tryz.underlying60 hi hz0 hz1 hz2 rfl (by decide) _ k xs rfl (hown.alloc _) ⟨wr.heap.size, 0, none⟩ 1 1 [.slice (some ⟨b, off + 64 * k, none⟩) (len - 64 * k) (len - 64 * k)] rfl rfl (cell_one_new _ _ _) (by simp [Value.oneCell']) (by decide) (by unfold maxLen; omega) (by omega) (Nat.zero_le _) _ rfl ?_; intro g4 cap4 w4 hown4 hgr4 hl4 _)
        have hbig : (wr.alloc (.cells #[.slice (some ⟨b, off + 64 * k, none⟩) (len - 64 * k) (len - 64 * k)] 34)).heap.size = wr.heap.size + 1 := by simp
        have hg4 : N ≤ g4 := by
          rcases hl4 with h1 | h1
          · exact HVB.out g4 h1
          · rw [h1, hbig]; omega
        have hT4 := HTA.out.done HLL.out HPT.out HFAR.out hown4 hgr4 hl4 (fun _ h => h) (.inr hg4)
        have hK4 : Below N w w4 := (HLOW.out.alloc hs3 _).grown hgr4 (by rw [hbig]; omega) HVB.out
        rw [← HMO.out] at hT4
        have HG4 : Bx (∀ j, (Value.slice (some ⟨g4, 0, none⟩) (k + 1) cap4).ownBlock = some j → N ≤ j) := ⟨fun j hj => by
          have e : g4 = j := by simpa [Value.ownBlock] using hj
          omega⟩
        clear hown4 hgr4 hl4 hown hi hz0 hz1 hz2 hbig hg4
        go_roundw
        case rel => exact ⟨k + 1, by omega, by go_num, hT4, hK4, HG4.out⟩
        case measure => simp [intOf]; omega
      · have HPT : Bx (Bts wr (some ⟨b, off + 64 * k, none⟩) 64 64 ((f.drop (64 * k)).take 64)) := ⟨HBW.part (64 * k) 64 64 (by omega) (Nat.le_refl _) (by unfold maxLen; omega)⟩
        have HFAR : Bx _ := ⟨HFAR0.out 64⟩
        have hend' : ¬ (len : Int) < 64 * (k : Int) + 64 := by omega
        have k3 : (64 * (k : Int) + 64).toNat - (64 * (k : Int)).toNat = 64 := by omega
        have k4 : 64 * (k : Int) + 64 ≤ (cap : Int) := by omega
        have k5 : 64 * (k : Int) ≤ 64 * (k : Int) + 64 := by omega
        clear HBW hT hlow hvb
        go_wp2_with (at_builtin; refine wpList_append_lies _ rfl (.tmp 17) (.tmp 23) 60 rfl 0 34 i0 (.slice none 0 0) 1 24 Tryz.underlying60 hi hz0 hz1 hz2 rfl (by decide) _ k xs rfl (hown.alloc _) ⟨wr.heap.size, 0, none⟩ 1 1 [.slice (some ⟨b, off + 64 * k, none⟩) 64 64] rfl rfl (cell_one_new _ _ _) (by simp [Value.oneCell']) (by decide) (by unfold maxLen; omega) (by omega) (Nat.zero_le _) _ rfl ?_; intro g4 cap4 w4 hown4 hgr4 hl4 _)
        have hbig : (wr.alloc (.cells #[.slice (some ⟨b, off + 64 * k, none⟩) 64 64] 34)).heap.size = wr.heap.size + 1 := by simp
        have hg4 : N ≤ g4 := by
          rcases hl4 with h1 | h1
          · exact HVB.out g4 h1
          · rw [h1, hbig]; omega
        have hT4 := HTA.out.done HLL.out HPT.out HFAR.out hown4 hgr4 hl4 (fun _ h => h) (.inr hg4)
        have hK4 : Below N w w4 := (HLOW.out.alloc hs3 _).grown hgr4 (by rw [hbig]; omega) HVB.out
        rw [← HMO.out] at hT4
        have HG4 : Bx (∀ j, (Value.slice (some ⟨g4, 0, none⟩) (k + 1) cap4).ownBlock = some j → N ≤ j) := ⟨fun j hj => by
          have e : g4 = j := by simpa [Value.ownBlock] using hj
          omega⟩
        clear hown4 hgr4 hl4 hown hi hz0 hz1 hz2 hbig hg4
        go_roundw
        case rel => exact ⟨k + 1, by omega, by go_num, hT4, hK4, HG4.out⟩
        case measure => simp [intOf]; omega
    · have hkn : k = ns len := by omega
      have hkI : ¬ 64 * (k : Int) < (len : Int) := by omega
      have hT9 := hT.lst (M := prt f) (by rw [hkn, ← HPL.out]; exact List.take_length)
      have hT8 : TL wr (fun k => k = b ∨ (w.heap.size ≤ k ∧ k < wr.heap.size)) vAll (prt f) := hT9.keep (fun _ _ _ => rfl) (Nat.le_refl _) (fun k hk ho => by
        rcases ho with h1 | h1
        · exact .inl h1
        · exact .inr ⟨by rw [← HN.out]; exact h1, hk⟩)
      clear hT hT9 hkn hlow hvb
      go_wp2
      go_ret
      exact ⟨_, rfl, hT8, hbw⟩
end Go.Proofs.YtipakjenggeflaaGreatDoor
