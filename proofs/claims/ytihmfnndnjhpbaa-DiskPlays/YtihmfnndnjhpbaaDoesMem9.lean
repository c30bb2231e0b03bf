/- Both disks side by side, while one call is done at both. No walk. -/
import Derived.Test.YtihmfnndnjhpbaaRefCr9
import Derived.Test.YtihmfnndnjhpbaaMade9
import Derived.Test.YtihmfnndnjhpbaaSame
import Derived.Deep.CutBlock
namespace Go.Proofs.Ytihmfnndnjhpbaa
open Go.RowKit
set_option linter.unusedVariables false

/-- the program's disk and the document's own -/
structure PL (w0 wr : World) (g gx : Nat) (own ownx : Nat → Prop) (sd sx : DS) (m : Nat) : Prop where
  low : Below w0.heap.size w0 wr
  d : Dsk wr g own sd
  x : RS wr gx ownx sx m
  dw : ∀ k, own k → w0.heap.size ≤ k
  xw : ∀ k, ownx k → w0.heap.size ≤ k
  dj : ∀ k, own k → ¬ ownx k
set_option maxRecDepth 100000 in
theorem PL.callD {w0 wr w1 : World} {g gx : Nat} {own ownx own1 : Nat → Prop} {sd sx sd1 : DS} {m : Nat} (h : PL w0 wr g gx own ownx sd sx m) (hd : Dsk w1 g own1 sd1) (hdid : Did own wr w1 own1) : PL w0 w1 g gx own1 ownx sd1 sx m :=
  ⟨h.low.trans (hdid.kept.low h.dw h.low.size), hd, h.x.kept hdid.kept (fun k hx hk => h.dj k hk hx), hdid.up h.dw h.low.size, h.xw, fun k hk hx => by
    rcases hdid.new k hk with h1 | h1
    · exact h.dj k h1 hx
    · have := h.x.lt k hx; omega⟩
set_option maxRecDepth 100000 in
theorem PL.callX {w0 wr w1 : World} {g gx : Nat} {own ownx own1 : Nat → Prop} {sd sx sx1 : DS} {m m1 : Nat} (h : PL w0 wr g gx own ownx sd sx m) (hx : RS w1 gx own1 sx1 m1) (hdid : Did ownx wr w1 own1) : PL w0 w1 g gx own own1 sd sx1 m1 :=
  ⟨h.low.trans (hdid.kept.low h.xw h.low.size), h.d.kept hdid.kept (fun k hd hk => h.dj k hd hk), hx, h.dw, hdid.up h.xw h.low.size, fun k hd hk => by
    rcases hdid.new k hk with h1 | h1
    · exact h.dj k hd h1
    · have := h.d.lt k hd; omega⟩
set_option maxRecDepth 100000 in
theorem PL.step {w0 wr w1 : World} {g gx : Nat} {own ownx : Nat → Prop} {sd sx : DS} {m : Nat} (h : PL w0 wr g gx own ownx sd sx m) (hb : Below wr.heap.size wr w1) : PL w0 w1 g gx own ownx sd sx m :=
  ⟨bstep h.low hb, h.d.below hb, h.x.below hb, h.dw, h.xw, h.dj⟩
set_option maxRecDepth 100000 in
theorem PL.drewN {w0 wr : World} {g gx : Nat} {own ownx : Nat → Prop} {sd sx : DS} {m : Nat} (h : PL w0 wr g gx own ownx sd sx m) (q : Nat) : PL w0 (wr.drewN q) g gx own ownx sd sx m :=
  ⟨below_drewN h.low q, h.d.drewN q, h.x.drewN q, h.dw, h.xw, h.dj⟩
set_option maxRecDepth 100000 in
theorem PL.other {w0 wr w1 : World} {g gx G : Nat} {own ownx : Nat → Prop} {sd sx : DS} {m : Nat} (h : PL w0 wr g gx own ownx sd sx m) (hk : Kept (fun k => k = G) wr w1) (hG : ¬ own G ∧ ¬ ownx G) (hw : w0.heap.size ≤ G) : PL w0 w1 g gx own ownx sd sx m :=
  ⟨h.low.trans (hk.low (fun k e => by have e : k = G := e; omega) h.low.size), h.d.kept hk (fun k hk e => by have e : k = G := e; rw [e] at hk; exact hG.1 hk), h.x.kept hk (fun k hk e => by have e : k = G := e; rw [e] at hk; exact hG.2 hk), h.dw, h.xw, h.dj⟩
set_option maxRecDepth 100000 in
theorem PL.le {w0 wr : World} {g gx : Nat} {own ownx : Nat → Prop} {sd sx : DS} {m m' : Nat} (h : PL w0 wr g gx own ownx sd sx m) (hm : m ≤ m') : PL w0 wr g gx own ownx sd sx m' := ⟨h.low, h.d, h.x.le hm, h.dw, h.xw, h.dj⟩
set_option maxRecDepth 100000 in
theorem RS.open_le {w : World} {g : Nat} {own : Nat → Prop} {s : DS} {m : Nat} (h : RS w g own s m) : s.O.length ≤ m := by
  obtain ⟨X, left, power, vl, h1, h2, h3⟩ := h
  have h4 : cntX X ≤ X.length := List.length_filter_le _ _
  have := h2.count
  omega
set_option maxRecDepth 100000 in
theorem RS.cells {w : World} {g : Nat} {own : Nat → Prop} {s : DS} {m : Nat} (h : RS w g own s m) : w.cell? ⟨g, 3, none⟩ = some (.bool (!s.off)) ∧ w.cell? ⟨g, 0, none⟩ = some (.int .i64 s.F.length) := by
  obtain ⟨X, left, power, vl, h1, h2, h3⟩ := h
  exact ⟨by rw [← h2.power]; exact h1.c3, h1.c0⟩
/-- blocks from B to E are the call's own, and stand aside -/
structure Sd (w4 wr : World) (B E : Nat) (own ownx : Nat → Prop) : Prop where
  same : ∀ k, B ≤ k → k < E → wr.heap[k]? = w4.heap[k]?
  no : ∀ k, B ≤ k → k < E → ¬ own k ∧ ¬ ownx k
  sz : E ≤ wr.heap.size
set_option maxRecDepth 100000 in
theorem Sd.callD {w4 wr w1 : World} {B E : Nat} {own ownx own1 : Nat → Prop} (h : Sd w4 wr B E own ownx) (hdid : Did own wr w1 own1) : Sd w4 w1 B E own1 ownx :=
  ⟨fun k h1 h2 => (hdid.kept.block k (Nat.lt_of_lt_of_le h2 h.sz) (h.no k h1 h2).1).trans (h.same k h1 h2), fun k h1 h2 => ⟨fun ho => by
    rcases hdid.new k ho with h3 | h3
    · exact (h.no k h1 h2).1 h3
    · have := h.sz; omega, (h.no k h1 h2).2⟩, Nat.le_trans h.sz hdid.kept.size⟩
set_option maxRecDepth 100000 in
theorem Sd.callX {w4 wr w1 : World} {B E : Nat} {own ownx own1 : Nat → Prop} (h : Sd w4 wr B E own ownx) (hdid : Did ownx wr w1 own1) : Sd w4 w1 B E own own1 :=
  ⟨fun k h1 h2 => (hdid.kept.block k (Nat.lt_of_lt_of_le h2 h.sz) (h.no k h1 h2).2).trans (h.same k h1 h2), fun k h1 h2 => ⟨(h.no k h1 h2).1, fun ho => by
    rcases hdid.new k ho with h3 | h3
    · exact (h.no k h1 h2).2 h3
    · have := h.sz; omega⟩, Nat.le_trans h.sz hdid.kept.size⟩
set_option maxRecDepth 100000 in
theorem Sd.start {w4 : World} {B : Nat} {own ownx : Nat → Prop} (hd : ∀ k, own k → k < B) (hx : ∀ k, ownx k → k < B) : Sd w4 w4 B w4.heap.size own ownx :=
  ⟨fun _ _ _ => rfl, fun k h1 _ => ⟨fun ho => by have := hd k ho; omega, fun ho => by have := hx k ho; omega⟩, Nat.le_refl _⟩
set_option maxRecDepth 100000 in
theorem Sd.drewN {w4 wr : World} {B E : Nat} {own ownx : Nat → Prop} (h : Sd w4 wr B E own ownx) (q : Nat) : Sd w4 (wr.drewN q) B E own ownx := ⟨h.same, h.no, h.sz⟩
set_option maxRecDepth 100000 in
theorem bls_owns {w : World} {base n : Nat} {v : Value} {K : List Bool} (h : w.ownsRow base 4 1 v n (K.map Value.bool)) : ∃ a c, v = .slice a n c ∧ Bls w a n c K ∧ n ≤ c ∧ c ≤ 9223372036854775807 := by
  have hlen : K.length = n := by have := h.1; rw [List.length_map] at this; omega
  rcases h.2 with ⟨rfl, hn⟩ | ⟨g, cap, cur, rfl, hb, hg, hnc, hcm, hcs, ht⟩
  · subst hn
    exact ⟨none, 0, rfl, ⟨hlen, Nat.le_refl _, Nat.zero_le _, fun hp => absurd hp (Nat.lt_irrefl _)⟩, Nat.le_refl _, Nat.zero_le _⟩
  · refine ⟨some ⟨g, 0, none⟩, cap, rfl, ⟨hlen, hnc, hcm, fun _ => ⟨g, 0, rfl, (Array.getElem?_eq_some_iff.1 hg).1, fun i hi => ?_⟩⟩, hnc, by unfold maxLen at hcm; omega⟩
    have hc := h.cellAt i (by omega)
    rw [Nat.zero_add, hc, List.getElem?_map, List.getElem?_eq_getElem (by omega), List.getD_eq_getElem?_getD, List.getElem?_eq_getElem (by omega)]; rfl
set_option maxRecDepth 100000 in
/-- bytes that stand aside -/
theorem Sd.bts {w4 wr : World} {B E : Nat} {own ownx : Nat → Prop} (h : Sd w4 wr B E own ownx) {a : Option Addr} {len cap : Nat} {l : List Int} (hb : Bts w4 a len cap l) (hB : ∀ p, a = some p → B ≤ p.block ∧ p.block < E) : Bts wr a len cap l :=
  ⟨hb.len_eq, hb.byt, hb.le_cap, hb.cap_le, hb.nil, fun hp => by
    obtain ⟨b, off, e, hlt, hc⟩ := hb.spot hp
    obtain ⟨h1, h2⟩ := hB _ e
    exact ⟨b, off, e, Nat.lt_of_lt_of_le h2 h.sz, fun i hi => (World.cell?_of_block (w := w4) (h.same b h1 h2)).trans (hc i hi)⟩⟩
set_option maxRecDepth 100000 in
theorem Sd.bls {w4 wr : World} {B E : Nat} {own ownx : Nat → Prop} (h : Sd w4 wr B E own ownx) {a : Option Addr} {len cap : Nat} {K : List Bool} (hb : Bls w4 a len cap K) (hB : ∀ p, a = some p → B ≤ p.block ∧ p.block < E) : Bls wr a len cap K :=
  ⟨hb.len_eq, hb.le_cap, hb.cap_le, fun hp => by
    obtain ⟨b, off, e, hlt, hc⟩ := hb.spot hp
    obtain ⟨h1, h2⟩ := hB _ e
    exact ⟨b, off, e, Nat.lt_of_lt_of_le h2 h.sz, fun i hi => (World.cell?_of_block (w := w4) (h.same b h1 h2)).trans (hc i hi)⟩⟩
set_option maxRecDepth 100000 in
theorem owns_in {w : World} {base n c : Nat} {e : TypeId} {size : Nat} {a : Option Addr} {xs : List Value} (h : w.ownsRow base e size (.slice a n c) n xs) : ∀ p, a = some p → base ≤ p.block ∧ p.block < w.heap.size := fun p hp => h.lt p.block (by rw [hp]; rfl)
/-- a row of bytes that is written over -/
structure RowB (wr : World) (G n : Nat) : Prop where
  row : ∃ cs : Array Value, wr.heap[G]? = some (.cells cs 5 (0, 0)) ∧ ∀ i, i < n → ∃ c, cs[i]? = some (.int .u8 c) ∧ 0 ≤ c ∧ c ≤ 255
set_option maxRecDepth 100000 in
theorem RowB.cell {wr : World} {G n : Nat} (h : RowB wr G n) (i : Nat) (hi : i < n) : ∃ c, wr.cell? ⟨G, i, none⟩ = some (.int .u8 c) ∧ 0 ≤ c ∧ c ≤ 255 ∧ wr.frozen? ⟨G, i, none⟩ = false := by
  obtain ⟨cs, h1, h2⟩ := h.row
  obtain ⟨c, e1, e2, e3⟩ := h2 i hi
  exact ⟨c, by rw [cell_of_row _ _ i _ _ (0, 0) h1]; exact e1, e2, e3, frozen_of_row _ _ i _ _ h1⟩
set_option maxRecDepth 100000 in
theorem RowB.set {wr : World} {G n : Nat} (h : RowB wr G n) (i : Nat) (c : Int) (hc : 0 ≤ c ∧ c ≤ 255) : RowB (wr.setCell ⟨G, i, none⟩ (.int .u8 c)) G n := by
  obtain ⟨cs, h1, h2⟩ := h.row
  refine ⟨cs.setIfInBounds i (.int .u8 c), heap_setCell_same wr G i _ _ _ h1, fun k hk => ?_⟩
  obtain ⟨d, e1, e2, e3⟩ := h2 k hk
  rw [Array.getElem?_setIfInBounds]
  by_cases hik : i = k
  · subst hik
    have hlt : i < cs.size := (Array.getElem?_eq_some_iff.1 e1).1
    rw [if_pos rfl, if_pos hlt]; exact ⟨c, rfl, hc⟩
  · rw [if_neg hik]; exact ⟨d, e1, e2, e3⟩
set_option maxRecDepth 100000 in
theorem rowB_owns {w : World} {base n : Nat} {G c : Nat} {l : List Int} (h : w.ownsRow base 5 1 (.slice (some ⟨G, 0, none⟩) n c) n (bv l)) (hl : Byt l) : RowB w G n := by
  have hlen : l.length = n := by have := h.1; rw [bv_length] at this; omega
  rcases h.2 with ⟨h2, _⟩ | ⟨g, cap, cur, hv, hb, hg, hnc, hcm, hcs, ht⟩
  · cases h2
  · cases hv
    refine ⟨cur, hg, fun i hi => ⟨l.getD i 0, ?_, hl.getD i⟩⟩
    have h1 : (bv l)[i]? = some (.int .u8 (l.getD i 0)) := by rw [bv_get, List.getElem?_eq_getElem (by omega), List.getD_eq_getElem?_getD, List.getElem?_eq_getElem (by omega)]; rfl
    rw [← ht, List.getElem?_take, if_pos (by omega)] at h1
    simpa using h1
end Go.Proofs.Ytihmfnndnjhpbaa
