/- What the law DiskTears keeps: a disk, what it had, what was sent to each sector. No walk. -/
import Derived.Test.YtihmfnndnjhpbaaOff9
namespace Go.Proofs.Ytihmfnndnjhpbaa
open Go.RowKit
set_option linter.unusedVariables false

/-- what was written to a sector -/
def sel (O : List (Nat × List Int)) (i : Nat) : List (List Int) := (O.filter fun o => decide (o.1 = i)).map (·.2)
set_option maxRecDepth 100000 in
theorem sel_append (O P : List (Nat × List Int)) (i : Nat) : sel (O ++ P) i = sel O i ++ sel P i := by simp [sel]
set_option maxRecDepth 100000 in
theorem sel_one (p : Nat) (Z : List Int) (i : Nat) : sel [(p, Z)] i = if p = i then [Z] else [] := by
  unfold sel
  by_cases h : p = i
  · simp [h]
  · simp [h]
set_option maxRecDepth 100000 in
theorem sel_mem (O : List (Nat × List Int)) (i : Nat) (y : List Int) (h : y ∈ sel O i) : (i, y) ∈ O := by
  unfold sel at h
  obtain ⟨p, hp, rfl⟩ := List.mem_map.1 h
  have h2 := List.mem_filter.1 hp
  have h3 : p.1 = i := by simpa using h2.2
  rw [← h3]; exact h2.1
set_option maxRecDepth 100000 in
theorem mem_sel (O : List (Nat × List Int)) (i : Nat) (y : List Int) (h : (i, y) ∈ O) : y ∈ sel O i :=
  List.mem_map.2 ⟨(i, y), List.mem_filter.2 ⟨h, by simp⟩, rfl⟩
set_option maxRecDepth 100000 in
/-- the last of them, or what was there -/
theorem lastO_sel (O : List (Nat × List Int)) (i : Nat) (z : List Int) : (sel O i = [] → lastO O i z = z) ∧ ∀ n, (sel O i).length = n + 1 → lastO O i z = (sel O i).getD n [] := by
  induction O generalizing z with
  | nil => exact ⟨fun _ => rfl, fun n h => by simp [sel] at h⟩
  | cons o r ih =>
    have hc : sel (o :: r) i = (if o.1 = i then [o.2] else []) ++ sel r i := by
      rw [show o :: r = [(o.1, o.2)] ++ r from rfl, sel_append, sel_one]
    by_cases h : o.1 = i
    · rw [if_pos h] at hc
      obtain ⟨h1, h2⟩ := ih o.2
      have hl : lastO (o :: r) i z = lastO r i o.2 := by rw [lastO, if_pos h]
      rw [hc, hl]
      refine ⟨fun e => by simp at e, fun n hn => ?_⟩
      by_cases he : sel r i = []
      · rw [h1 he, he]
        rw [he] at hn
        simp at hn
        subst hn; rfl
      · obtain ⟨q, hq⟩ : ∃ q, (sel r i).length = q + 1 := ⟨(sel r i).length - 1, by have := List.length_pos_iff.2 he; omega⟩
        rw [h2 q hq]
        have : n = q + 1 := by simp at hn; omega
        subst this; rfl
    · rw [if_neg h, List.nil_append] at hc
      have hl : lastO (o :: r) i z = lastO r i z := by rw [lastO, if_neg h]
      rw [hc, hl]; exact ih z
set_option maxRecDepth 100000 in
/-- some may be lost: what a sector has then -/
theorem tears_some (O : List (Nat × List Int)) (K : List Bool) (i : Nat) (z : List Int) : lastO (kpt O K) i z = z ∨ ∃ t, t < (sel O i).length ∧ lastO (kpt O K) i z = (sel O i).getD t [] := by
  obtain ⟨h1, h2⟩ := lastO_sel (kpt O K) i z
  by_cases he : sel (kpt O K) i = []
  · exact .inl (h1 he)
  · right
    obtain ⟨q, hq⟩ : ∃ q, (sel (kpt O K) i).length = q + 1 := ⟨(sel (kpt O K) i).length - 1, by have := List.length_pos_iff.2 he; omega⟩
    rw [h2 q hq]
    have hm : (sel (kpt O K) i).getD q [] ∈ sel (kpt O K) i := by
      rw [List.getD_eq_getElem?_getD, List.getElem?_eq_getElem (by omega)]; exact List.getElem_mem _
    have hm2 := mem_sel O i _ (kpt_mem O K _ (sel_mem _ _ _ hm))
    obtain ⟨t, ht, e⟩ := List.mem_iff_getElem.1 hm2
    refine ⟨t, ht, ?_⟩
    rw [List.getD_eq_getElem?_getD (l := sel O i), List.getElem?_eq_getElem ht, e]; rfl
set_option maxRecDepth 100000 in
theorem kpt_full (O : List (Nat × List Int)) : ∀ K : List Bool, (∀ i, i < O.length → K.getD i false = true) → kpt O K = O := by
  induction O with
  | nil => intro K _; cases K <;> rfl
  | cons o r ih =>
    intro K h
    cases K with
    | nil => have := h 0 (by simp); cases this
    | cons b k =>
      have hb : b = true := h 0 (by simp)
      unfold kpt
      rw [if_pos hb, ih k (fun i hi => h (i + 1) (by simp; omega))]
/-- what the law looks for -/
def okT (nw ws : List Int) (S : List (List Int)) (full : Bool) (t : Nat) : Prop := (nw = ws ∧ (full = true → S = [])) ∨ ∃ i, i < t ∧ nw = S.getD i [] ∧ (full = true → i + 1 = S.length)
set_option maxRecDepth 100000 in
theorem okT_all (O : List (Nat × List Int)) (K : List Bool) (i : Nat) (z : List Int) (full : Bool) (hf : full = true → ∀ i, i < O.length → K.getD i false = true) : okT (lastO (kpt O K) i z) z (sel O i) full (sel O i).length := by
  by_cases h : full = true
  · rw [kpt_full O K (hf h)]
    obtain ⟨h1, h2⟩ := lastO_sel O i z
    by_cases he : sel O i = []
    · exact .inl ⟨h1 he, fun _ => he⟩
    · obtain ⟨q, hq⟩ : ∃ q, (sel O i).length = q + 1 := ⟨(sel O i).length - 1, by have := List.length_pos_iff.2 he; omega⟩
      exact .inr ⟨q, by omega, h2 q hq, fun _ => hq.symm⟩
  · rcases tears_some O K i z with h1 | ⟨t, ht, h1⟩
    · exact .inl ⟨h1, fun hh => absurd hh h⟩
    · exact .inr ⟨t, ht, h1, fun hh => absurd hh h⟩
set_option maxRecDepth 100000 in
theorem okT_next {nw ws : List Int} {S : List (List Int)} {full : Bool} {t : Nat} : okT nw ws S full (t + 1) ↔ okT nw ws S full t ∨ (nw = S.getD t [] ∧ (full = true → t + 1 = S.length)) := by
  constructor
  · rintro (h | ⟨i, hi, h1, h2⟩)
    · exact .inl (.inl h)
    · by_cases he : i = t
      · subst he; exact .inr ⟨h1, h2⟩
      · exact .inl (.inr ⟨i, by omega, h1, h2⟩)
  · rintro ((h | ⟨i, hi, h1, h2⟩) | ⟨h1, h2⟩)
    · exact .inl h
    · exact .inr ⟨i, by omega, h1, h2⟩
    · exact .inr ⟨t, by omega, h1, h2⟩
set_option maxRecDepth 100000 in
theorem okT_zero {nw ws : List Int} {S : List (List Int)} {full : Bool} : okT nw ws S full 0 ↔ nw = ws ∧ (full = true → S = []) := by
  constructor
  · rintro (h | ⟨i, hi, _⟩)
    · exact h
    · omega
  · exact .inl

/-- an own list of texts, each in memory of its own -/
structure OTX (w : World) (own : Nat → Prop) (v : Value) (L : List (List Int)) : Prop where
  row : ∃ xs, w.ownsRow 0 33 1 v L.length xs ∧ ∀ i, i < L.length → ∃ ai li ci, xs[i]? = some (.slice ai li ci) ∧ Bts w ai li ci (L.getD i []) ∧ (0 < li → ∀ p, ai = some p → own p.block ∧ v.ownBlock ≠ some p.block)
  ob : ∀ k, v.ownBlock = some k → own k
set_option maxRecDepth 100000 in
theorem OTX.keep {w w' : World} {own own2 : Nat → Prop} {v : Value} {L : List (List Int)} (h : OTX w own v L) (hb : ∀ k, own k → w'.heap[k]? = w.heap[k]?) (hs : w.heap.size ≤ w'.heap.size) (ho : ∀ k, own k → own2 k) : OTX w' own2 v L := by
  obtain ⟨xs, h1, h2⟩ := h.row
  refine ⟨⟨xs, ⟨h1.1, ?_⟩, fun i hi => ?_⟩, fun k hk => ho k (h.ob k hk)⟩
  · rcases h1.2 with h3 | ⟨g', cap', cur, hv, hg, hh, r⟩
    · exact .inl h3
    · exact .inr ⟨g', cap', cur, hv, hg, (hb g' (h.ob g' (by rw [hv]; rfl))).trans hh, r⟩
  · obtain ⟨ai, li, ci, e1, e2, e3⟩ := h2 i hi
    refine ⟨ai, li, ci, e1, ?_, fun hp p e => ⟨ho _ (e3 hp p e).1, (e3 hp p e).2⟩⟩
    exact ⟨e2.len_eq, e2.byt, e2.le_cap, e2.cap_le, e2.nil, fun hp => by
      obtain ⟨b, off, e, hlt, hc⟩ := e2.spot hp
      exact ⟨b, off, e, Nat.lt_of_lt_of_le hlt hs, fun i hi => (World.cell?_of_block (w := w) (hb b (e3 hp _ e).1)).trans (hc i hi)⟩⟩
set_option maxRecDepth 100000 in
theorem OTX.txs {w : World} {own : Nat → Prop} {v : Value} {L : List (List Int)} (h : OTX w own v L) : ∃ a c, v = .slice a L.length c ∧ Txs w a L.length c L := by
  obtain ⟨xs, ho, hx⟩ := h.row
  rcases ho.2 with ⟨rfl, h0⟩ | ⟨g, cap, cur, rfl, hb, hg, hnc, hcm, hcs, ht⟩
  · exact ⟨none, 0, by rw [h0], rfl, by omega, Nat.zero_le _, fun hp => by omega⟩
  · refine ⟨some ⟨g, 0, none⟩, cap, rfl, rfl, hnc, hcm, fun hp => ⟨g, 0, rfl, (Array.getElem?_eq_some_iff.1 hg).1, fun i hi => ?_⟩⟩
    obtain ⟨ai, li, ci, e1, e2, e3⟩ := hx i hi
    refine ⟨ai, li, ci, ?_, e2⟩
    rw [Nat.zero_add, ho.cellAt i (by omega)]; exact e1
set_option maxRecDepth 100000 in
/-- one text more -/
theorem OTX.more {w w4 w5 : World} {own own2 : Nat → Prop} {v : Value} {L : List (List Int)} {xs : List Value} {rb cap g4 c4 : Nat} {P : List Int}
    (h : OTX w own v L) (hx : ∀ i, i < L.length → ∃ ai li ci, xs[i]? = some (.slice ai li ci) ∧ Bts w ai li ci (L.getD i []) ∧ (0 < li → ∀ p, ai = some p → own p.block ∧ v.ownBlock ≠ some p.block)) (hxl : xs.length = L.length)
    (hP : Bts w (some ⟨rb, 0, none⟩) 64 cap P) (hrb : ¬ own rb) (hgr : w.grownBy w4 v.ownBlock) (h45 : ∀ k, own k ∨ k = rb ∨ k = g4 → w5.heap[k]? = w4.heap[k]?) (hs5 : w4.heap.size ≤ w5.heap.size)
    (hown : w4.ownsRow 0 33 1 (.slice (some ⟨g4, 0, none⟩) (L.length + 1) c4) (L.length + 1) (xs ++ [.slice (some ⟨rb, 0, none⟩) 64 cap])) (hl : v.ownBlock = some g4 ∨ g4 = w.heap.size)
    (ho2 : ∀ k, own k → own2 k) (hr2 : own2 rb) (hg2 : own2 g4) : OTX w5 own2 (.slice (some ⟨g4, 0, none⟩) (L.length + 1) c4) (L ++ [P]) := by
  have hvr : v.ownBlock ≠ some rb := fun e => hrb (h.ob rb e)
  have hcar : ∀ {ai : Option Addr} {li ci : Nat} {y : List Int}, Bts w ai li ci y → (0 < li → ∀ p, ai = some p → (own p.block ∨ p.block = rb) ∧ v.ownBlock ≠ some p.block) → Bts w5 ai li ci y ∧ (0 < li → ∀ p, ai = some p → own2 p.block ∧ (Value.slice (some ⟨g4, 0, none⟩) (L.length + 1) c4).ownBlock ≠ some p.block) := by
    intro ai li ci y hy hn
    refine ⟨⟨hy.len_eq, hy.byt, hy.le_cap, hy.cap_le, hy.nil, fun hp => ?_⟩, fun hp p e => ?_⟩
    · obtain ⟨b, off, e, hlt, hc⟩ := hy.spot hp
      obtain ⟨n1, n2⟩ := hn hp _ e
      refine ⟨b, off, e, Nat.lt_of_lt_of_le hlt (Nat.le_trans hgr.size hs5), fun i hi => ?_⟩
      have e5 : w5.heap[b]? = w.heap[b]? := (h45 b (by rcases n1 with n1 | n1; exact .inl n1; exact .inr (.inl n1))).trans (hgr.block b hlt (fun hh => n2 hh.symm))
      exact (World.cell?_of_block (w := w) e5).trans (hc i hi)
    · obtain ⟨n1, n2⟩ := hn hp p e
      refine ⟨by rcases n1 with n1 | n1; exact ho2 _ n1; rw [n1]; exact hr2, ?_⟩
      show some g4 ≠ some p.block
      rcases hl with h1 | h1
      · rw [← h1]; exact n2
      · intro e2
        obtain ⟨b, off, e3, hlt, _⟩ := hy.spot hp
        rw [e3] at e; cases e
        have e4 : g4 = b := Option.some.inj e2
        omega
  refine ⟨⟨xs ++ [.slice (some ⟨rb, 0, none⟩) 64 cap], ?_, fun i hi => ?_⟩, fun k hk => ?_⟩
  · rw [List.length_append]
    refine ⟨hown.1, ?_⟩
    rcases hown.2 with h3 | ⟨g', cap', cur, hv, hg, hh, r⟩
    · exact .inl h3
    · refine .inr ⟨g', cap', cur, hv, hg, ?_, r⟩
      have e : g' = g4 := by injection hv with e1; injection e1 with e1; injection e1 with e1; exact e1.symm
      rw [e] at hh ⊢
      exact (h45 g4 (.inr (.inr rfl))).trans hh
  · rw [List.length_append] at hi
    by_cases hiL : i < L.length
    · obtain ⟨ai, li, ci, e1, e2, e3⟩ := hx i hiL
      obtain ⟨f1, f2⟩ := hcar e2 (fun hp p e => ⟨.inl (e3 hp p e).1, (e3 hp p e).2⟩)
      refine ⟨ai, li, ci, by rw [List.getElem?_append_left (by omega)]; exact e1, ?_, f2⟩
      rw [List.getD_eq_getElem?_getD, List.getElem?_append_left hiL, ← List.getD_eq_getElem?_getD]; exact f1
    · obtain rfl : i = L.length := by simp at hi; omega
      obtain ⟨f1, f2⟩ := hcar hP (fun hp p e => by cases e; exact ⟨.inr rfl, hvr⟩)
      refine ⟨some ⟨rb, 0, none⟩, 64, cap, by rw [List.getElem?_append_right (by omega), hxl, Nat.sub_self]; rfl, ?_, f2⟩
      rw [List.getD_eq_getElem?_getD, List.getElem?_append_right (Nat.le_refl _), Nat.sub_self]; exact f1
  · have e : g4 = k := by simpa [Value.ownBlock] using hk
    rw [← e]; exact hg2
/-- texts in memory that is somebody's -/
structure TxO (own : Nat → Prop) (w : World) (ao : Option Addr) (len cap : Nat) (T : List (List Int)) : Prop where
  len_eq : T.length = len
  le_cap : len ≤ cap
  cap_le : cap ≤ maxLen
  spot : 0 < len → ∃ b off, ao = some ⟨b, off, none⟩ ∧ b < w.heap.size ∧ own b ∧ ∀ i, i < len → ∃ ai li ci, w.cell? ⟨b, off + i, none⟩ = some (.slice ai li ci) ∧ Bts w ai li ci (T.getD i []) ∧ (0 < li → ∀ p, ai = some p → own p.block)
set_option maxRecDepth 100000 in
theorem TxO.keep {w w' : World} {own own2 : Nat → Prop} {ao : Option Addr} {len cap : Nat} {T : List (List Int)} (h : TxO own w ao len cap T) (hb : ∀ k, own k → w'.heap[k]? = w.heap[k]?) (hs : w.heap.size ≤ w'.heap.size) (ho : ∀ k, own k → own2 k) : TxO own2 w' ao len cap T :=
  ⟨h.len_eq, h.le_cap, h.cap_le, fun hp => by
    obtain ⟨b, off, e, hlt, hB, hc⟩ := h.spot hp
    refine ⟨b, off, e, Nat.lt_of_lt_of_le hlt hs, ho b hB, fun i hi => ?_⟩
    obtain ⟨ai, li, ci, h1, h2, h3⟩ := hc i hi
    refine ⟨ai, li, ci, (World.cell?_of_block (w := w) (hb b hB)).trans h1, ?_, fun hp p e => ho _ (h3 hp p e)⟩
    exact ⟨h2.len_eq, h2.byt, h2.le_cap, h2.cap_le, h2.nil, fun hp => by
      obtain ⟨b, off, e, hlt, hc⟩ := h2.spot hp
      exact ⟨b, off, e, Nat.lt_of_lt_of_le hlt hs, fun i hi => (World.cell?_of_block (w := w) (hb b (h3 hp _ e))).trans (hc i hi)⟩⟩⟩
set_option maxRecDepth 100000 in
theorem TxO.txs {own : Nat → Prop} {w : World} {ao : Option Addr} {len cap : Nat} {T : List (List Int)} (h : TxO own w ao len cap T) : Txs w ao len cap T :=
  ⟨h.len_eq, h.le_cap, h.cap_le, fun hp => by
    obtain ⟨b, off, e, hlt, _, hc⟩ := h.spot hp
    refine ⟨b, off, e, hlt, fun i hi => ?_⟩
    obtain ⟨ai, li, ci, h1, h2, _⟩ := hc i hi
    exact ⟨ai, li, ci, h1, h2⟩⟩
set_option maxRecDepth 100000 in
theorem TxB.own {B : Nat} {w : World} {ao : Option Addr} {len cap : Nat} {T : List (List Int)} (h : TxB B w ao len cap T) : TxO (fun k => B ≤ k ∧ k < w.heap.size) w ao len cap T :=
  ⟨h.len_eq, h.le_cap, h.cap_le, fun hp => by
    obtain ⟨b, off, e, hlt, hB, hc⟩ := h.spot hp
    refine ⟨b, off, e, hlt, ⟨hB, hlt⟩, fun i hi => ?_⟩
    obtain ⟨ai, li, ci, h1, h2, h3⟩ := hc i hi
    refine ⟨ai, li, ci, h1, h2, fun hp p e => ⟨h3 hp p e, ?_⟩⟩
    obtain ⟨b', off', e', hlt', _⟩ := h2.spot hp
    rw [e'] at e; cases e; exact hlt'⟩
set_option maxRecDepth 100000 in
theorem Dsk.mono {w : World} {g : Nat} {own own2 : Nat → Prop} {s : DS} (h : Dsk w g own s) (ho : ∀ k, own k → own2 k) (hl : ∀ k, own2 k → k < w.heap.size) : Dsk w g own2 s := by
  obtain ⟨gf, gn, vo, h⟩ := h
  exact ⟨gf, gn, vo, h.row, h.fast, h.now, h.opn, h.ne, ho _ h.og, ho _ h.of_, ho _ h.on_, fun k hk => ho k (h.oo k hk), hl, h.fl, h.nl, h.n1, h.n2, h.fs, h.ns, h.ok, h.lb⟩
set_option maxRecDepth 100000 in
theorem Dsk.keep {w w' : World} {g : Nat} {own : Nat → Prop} {s : DS} (h : Dsk w g own s) (hb : ∀ k, own k → w'.heap[k]? = w.heap[k]?) (hs : w.heap.size ≤ w'.heap.size) : Dsk w' g own s := by
  obtain ⟨gf, gn, vo, h⟩ := h
  exact ⟨gf, gn, vo, h.keep hb hs⟩

/-- all that the law keeps: col tells whose a block is (1 the disk's, 2 the variable's, 3 what was there, 4 and on what was sent) -/
structure TS (w wr : World) (g gs : Nat) (col : Nat → Nat) (s : DS) (aW : Option Addr) (cW : Nat) (W : List (List Int)) (V : List Value) (T : List (List (List Int))) : Prop where
  low : Below w.heap.size w wr
  d : Dsk wr g (fun k => col k = 1) s
  row : wr.heap[gs]? = some (.cells V.toArray 47 (0, 0))
  cg : col gs = 2
  vl : V.length = 8
  tl : T.length = 8
  was : TxO (fun k => col k = 3) wr aW 8 cW W
  sent : ∀ i, i < 8 → OTX wr (fun k => col k = 4 + i) (V.getD i undef) (T.getD i [])
  ge : ∀ k, col k ≠ 0 → w.heap.size ≤ k
  lt : ∀ k, col k ≠ 0 → k < wr.heap.size
section
variable {w wr w1 : World} {g gs : Nat} {col : Nat → Nat} {s : DS} {aW : Option Addr} {cW : Nat} {W : List (List Int)} {V : List Value} {T : List (List (List Int))}
set_option maxRecDepth 100000 in
theorem TS.keep (h : TS w wr g gs col s aW cW W V T) (hlow : Below w.heap.size w w1) (hb : ∀ k, col k ≠ 0 → w1.heap[k]? = wr.heap[k]?) (hs : wr.heap.size ≤ w1.heap.size) : TS w w1 g gs col s aW cW W V T :=
  ⟨hlow, h.d.keep (fun k (hk : col k = 1) => hb k (by omega)) hs, (hb gs (by rw [h.cg]; decide)).trans h.row, h.cg, h.vl, h.tl, h.was.keep (fun k (hk : col k = 3) => hb k (by omega)) hs (fun _ h => h), fun i hi => (h.sent i hi).keep (fun k (hk : col k = 4 + i) => hb k (by omega)) hs (fun _ h => h), h.ge, fun k hk => Nat.lt_of_lt_of_le (h.lt k hk) hs⟩
set_option maxRecDepth 100000 in
theorem TS.step (h : TS w wr g gs col s aW cW W V T) (hb : Below wr.heap.size wr w1) : TS w w1 g gs col s aW cW W V T := h.keep (bstep h.low hb) (fun k hk => hb.block k (h.lt k hk)) hb.size
set_option maxRecDepth 100000 in
theorem TS.drewN (h : TS w wr g gs col s aW cW W V T) (q : Nat) : TS w (wr.drewN q) g gs col s aW cW W V T := h.keep (below_drewN h.low q) (fun _ _ => rfl) (Nat.le_refl _)
open Classical in
set_option maxRecDepth 100000 in
theorem TS.callD {own1 : Nat → Prop} {s1 : DS} (h : TS w wr g gs col s aW cW W V T) (hd : Dsk w1 g own1 s1) (hdid : Did (fun k => col k = 1) wr w1 own1) : ∃ col1, TS w w1 g gs col1 s1 aW cW W V T ∧ ∀ k, k < wr.heap.size → col k = 0 → col1 k = 0 := by
  have hsz := hdid.kept.size
  have hsame : ∀ k, col k ≠ 0 → col k ≠ 1 → ¬ own1 k := fun k h0 h1 ho => by
    rcases hdid.new k ho with h2 | h2
    · exact h1 h2
    · have := h.lt k h0; omega
  have hc : ∀ k c, c ≠ 0 → c ≠ 1 → ((if own1 k then 1 else col k) = c ↔ col k = c) := by
    intro k c h0 h1
    by_cases ho : own1 k
    · rw [if_pos ho]
      constructor
      · intro e; exact absurd e.symm h1
      · intro e; exact absurd ho (hsame k (by omega) (by omega))
    · rw [if_neg ho]
  have hkeep : ∀ k, col k ≠ 0 → col k ≠ 1 → w1.heap[k]? = wr.heap[k]? := fun k h0 h1 => hdid.kept.block k (h.lt k h0) h1
  have hlow : Below w.heap.size w w1 := h.low.trans (hdid.kept.low (fun k (hk : col k = 1) => h.ge k (by omega)) h.low.size)
  refine ⟨fun k => if own1 k then 1 else col k, ⟨hlow, hd.mono (fun k hk => by show (if own1 k then 1 else col k) = 1; rw [if_pos hk]) (fun k hk => ?_), (hkeep gs (by rw [h.cg]; decide) (by rw [h.cg]; decide)).trans h.row, (hc gs 2 (by decide) (by decide)).2 h.cg, h.vl, h.tl, h.was.keep (fun k (hk : col k = 3) => hkeep k (by omega) (by omega)) hsz (fun k hk => (hc k 3 (by decide) (by decide)).2 hk), fun i hi => (h.sent i hi).keep (fun k (hk : col k = 4 + i) => hkeep k (by omega) (by omega)) hsz (fun k hk => (hc k (4 + i) (by omega) (by omega)).2 hk), fun k hk => ?_, fun k hk => ?_⟩, fun k hk h0 => ?_⟩
  · have hk : (if own1 k then 1 else col k) = 1 := hk
    by_cases ho : own1 k
    · exact hd.lt k ho
    · rw [if_neg ho] at hk
      exact Nat.lt_of_lt_of_le (h.lt k (by omega)) hsz
  · have hk : (if own1 k then 1 else col k) ≠ 0 := hk
    by_cases ho : own1 k
    · rcases hdid.new k ho with h2 | h2
      · have h2 : col k = 1 := h2
        exact h.ge k (by omega)
      · exact Nat.le_trans h.low.size h2.1
    · rw [if_neg ho] at hk; exact h.ge k hk
  · have hk : (if own1 k then 1 else col k) ≠ 0 := hk
    by_cases ho : own1 k
    · exact hd.lt k ho
    · rw [if_neg ho] at hk; exact Nat.lt_of_lt_of_le (h.lt k hk) hsz
  · show (if own1 k then 1 else col k) = 0
    rw [if_neg (fun ho => ?_)]
    · exact h0
    · rcases hdid.new k ho with h2 | h2
      · have h2 : col k = 1 := h2
        omega
      · omega
end
end Go.Proofs.Ytihmfnndnjhpbaa
