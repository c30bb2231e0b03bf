/- The document's own disk, as the mathematics has it, and that both say the same. No walk. The document's own disk in memory: no walk. -/
import Derived.Test.YtjnjokbdoendkaaGreatDiskMem
namespace Go.Proofs.YtjnjokbdoendkaaGreat
open Go.RowKit
set_option linter.unusedVariables false

/-- a write of the document's disk: where, the slice, its bytes, whether it is sure -/
structure Ent where
  pos : Int
  v : Value
  l : List Int
  sure : Bool
def Ent.cells (x : Ent) : List Value := [.int .i64 x.pos, x.v, .bool x.sure]
def ecl (X : List Ent) : List Value := (X.map Ent.cells).flatten
set_option maxRecDepth 100000 in
theorem ecl_append (X Y : List Ent) : ecl (X ++ Y) = ecl X ++ ecl Y := by simp [ecl]
set_option maxRecDepth 100000 in
theorem ecl_one (x : Ent) : ecl [x] = [.int .i64 x.pos, x.v, .bool x.sure] := by simp [ecl, Ent.cells]
set_option maxRecDepth 100000 in
theorem ecl_get (X : List Ent) (k : Nat) (x : Ent) (hx : X[k]? = some x) (j : Nat) (hj : j < 3) : (ecl X)[k * 3 + j]? = x.cells[j]? := by
  induction X generalizing k with
  | nil => simp at hx
  | cons y r ih =>
    have hc : ecl (y :: r) = y.cells ++ ecl r := by simp [ecl]
    have hl : y.cells.length = 3 := rfl
    rw [hc]
    cases k with
    | zero =>
      have : y = x := by simpa using hx
      subst this
      rw [Nat.zero_mul, Nat.zero_add, List.getElem?_append_left (by omega)]
    | succ k =>
      rw [List.getElem?_append_right (by omega), hl, show (k + 1) * 3 + j - 3 = k * 3 + j from by omega]
      exact ih k (by simpa using hx)
/-- the last write of a sector counts -/
def lstX : List Ent → Int → List Int → List Int
  | [], _, z => z
  | x :: r, i, z => lstX r i (if x.pos = i then x.l else z)
set_option maxRecDepth 100000 in
theorem lstX_append (X Y : List Ent) (i : Int) (z : List Int) : lstX (X ++ Y) i z = lstX Y i (lstX X i z) := by
  induction X generalizing z with
  | nil => rfl
  | cons x r ih => exact ih _
/-- is there one of that sector -/
def anyX (r : List Ent) (p : Int) : Bool := r.any fun y => decide (y.pos = p)
set_option maxRecDepth 100000 in
theorem lstX_any (r : List Ent) (p : Int) (z z' : List Int) (h : anyX r p = true) : lstX r p z = lstX r p z' := by
  induction r generalizing z z' with
  | nil => simp [anyX] at h
  | cons y r ih =>
    unfold lstX
    by_cases hy : y.pos = p
    · rw [if_pos hy, if_pos hy]
    · rw [if_neg hy, if_neg hy]
      refine ih z z' ?_
      unfold anyX at h ⊢
      simpa [hy] using h
/-- sure, and told once -/
def setl : List Ent → List Ent
  | [] => []
  | x :: r => if anyX r x.pos then setl r else { x with sure := true } :: setl r
set_option maxRecDepth 100000 in
theorem lstX_setl (X : List Ent) (i : Int) (z : List Int) : lstX (setl X) i z = lstX X i z := by
  induction X generalizing z with
  | nil => rfl
  | cons x r ih =>
    unfold setl
    by_cases h : anyX r x.pos = true
    · rw [if_pos h, ih]
      show lstX r i z = lstX r i (if x.pos = i then x.l else z)
      by_cases hi : x.pos = i
      · rw [if_pos hi]; rw [hi] at h; exact lstX_any r i _ _ h
      · rw [if_neg hi]
    · rw [if_neg h]
      show lstX (setl r) i (if x.pos = i then x.l else z) = _
      rw [ih]; rfl
set_option maxRecDepth 100000 in
theorem setl_sure (X : List Ent) : ∀ x ∈ setl X, x.sure = true := by
  induction X with
  | nil => intro x hx; cases hx
  | cons y r ih =>
    intro x hx
    unfold setl at hx
    by_cases h : anyX r y.pos = true
    · rw [if_pos h] at hx; exact ih x hx
    · rw [if_neg h] at hx
      rcases List.mem_cons.1 hx with h1 | h1
      · rw [h1]
      · exact ih x h1
set_option maxRecDepth 100000 in
theorem setl_mem (X : List Ent) : ∀ x ∈ setl X, ∃ y ∈ X, x.v = y.v ∧ x.l = y.l ∧ x.pos = y.pos := by
  induction X with
  | nil => intro x hx; cases hx
  | cons y r ih =>
    intro x hx
    unfold setl at hx
    by_cases h : anyX r y.pos = true
    · rw [if_pos h] at hx
      obtain ⟨z, hz, e⟩ := ih x hx
      exact ⟨z, by simp [hz], e⟩
    · rw [if_neg h] at hx
      rcases List.mem_cons.1 hx with h1 | h1
      · exact ⟨y, by simp, by rw [h1]; exact ⟨rfl, rfl, rfl⟩⟩
      · obtain ⟨z, hz, e⟩ := ih x h1
        exact ⟨z, by simp [hz], e⟩
set_option maxRecDepth 100000 in
theorem setl_len (X : List Ent) : (setl X).length ≤ X.length := by
  induction X with
  | nil => exact Nat.le_refl _
  | cons y r ih =>
    unfold setl
    by_cases h : anyX r y.pos = true
    · rw [if_pos h, List.length_cons]; omega
    · rw [if_neg h, List.length_cons, List.length_cons]; omega
set_option maxRecDepth 100000 in
theorem setl_round (X : List Ent) (k : Nat) (x : Ent) (hx : X[k]? = some x) : setl (X.drop k) = if anyX (X.drop (k + 1)) x.pos then setl (X.drop (k + 1)) else { x with sure := true } :: setl (X.drop (k + 1)) := by
  have hk : k < X.length := (List.getElem?_eq_some_iff.1 hx).1
  have hx2 : X[k] = x := (List.getElem?_eq_some_iff.1 hx).2
  rw [List.drop_eq_getElem_cons hk, hx2]; rfl
set_option maxRecDepth 100000 in
theorem anyX_round (X : List Ent) (k : Nat) (y : Ent) (p : Int) (hy : X[k]? = some y) : anyX (X.drop k) p = (decide (y.pos = p) || anyX (X.drop (k + 1)) p) := by
  have hk : k < X.length := (List.getElem?_eq_some_iff.1 hy).1
  have hy2 : X[k] = y := (List.getElem?_eq_some_iff.1 hy).2
  rw [List.drop_eq_getElem_cons hk, hy2]
  unfold anyX
  rw [List.any_cons]
/-- both say the same: the sure ones are what is fast, the others the open ones, in their order -/
structure Sim (s : DS) (X : List Ent) (left : Int) (power : Bool) : Prop where
  split : ∃ S T, X = S ++ T ∧ (∀ x ∈ S, x.sure = true) ∧ (∀ x ∈ T, x.sure = false) ∧ T.map (fun x => (x.pos, x.l)) = s.O.map (fun o => ((o.1 : Int), o.2)) ∧ ∀ i : Nat, i < s.F.length → lstX S i s0 = s.F.getD i []
  power : power = !s.off
  left : left = if s.armed then s.left else -1
set_option maxRecDepth 100000 in
theorem lst_last (T : List Ent) (O : List (Nat × List Int)) (h : T.map (fun x => (x.pos, x.l)) = O.map (fun o => ((o.1 : Int), o.2))) (i : Nat) (z : List Int) : lstX T i z = lastO O i z := by
  induction T generalizing O z with
  | nil =>
    have : O = [] := by simpa using h.symm
    subst this; rfl
  | cons x r ih =>
    cases O with
    | nil => simp at h
    | cons o q =>
      rw [List.map_cons, List.map_cons] at h
      injection h with h1 h2
      injection h1 with h3 h4
      show lstX r i (if x.pos = i then x.l else z) = lastO q i (if o.1 = i then o.2 else z)
      rw [ih q h2]
      congr 1
      by_cases he : o.1 = i
      · rw [if_pos he, if_pos (by rw [h3, he]), h4]
      · rw [if_neg he, if_neg (by rw [h3]; omega)]
set_option maxRecDepth 100000 in
theorem Sim.read {s : DS} {X : List Ent} {left : Int} {power : Bool} (h : Sim s X left power) (i : Nat) (hi : i < s.F.length) : lstX X i s0 = s.now.getD i [] := by
  obtain ⟨S, T, rfl, h1, h2, h3, h4⟩ := h.split
  rw [lstX_append, h4 i hi, lst_last T s.O h3]
  exact (app_getD s.F s.O i hi).symm
set_option maxRecDepth 100000 in
theorem sim_new (n : Nat) : Sim (dnew n) [] (-1) true :=
  ⟨⟨[], [], rfl, (by intro x hx; cases hx), (by intro x hx; cases hx), rfl, fun i hi => by
    have hi : i < n := by simpa [dnew] using hi
    show s0 = (List.replicate n s0).getD i []
    rw [List.getD_eq_getElem?_getD, List.getElem?_replicate, if_pos hi]; rfl⟩, rfl, rfl⟩
set_option maxRecDepth 100000 in
theorem Sim.last {s : DS} {X : List Ent} {left : Int} {power : Bool} (h : Sim s X left power) : s.last = decide (left = 0) := by
  rw [h.left]
  unfold DS.last
  cases s.armed
  · simp
  · simp
/-- how a step counts -/
def tickL (left : Int) : Int := if 0 < left then left - 1 else left
set_option maxRecDepth 100000 in
theorem Sim.tick {s : DS} {X : List Ent} {left : Int} {power : Bool} (h : Sim s X left power) (hok : s.Ok) (hl : s.last = false) : s.tick.armed = s.armed ∧ s.tick.off = s.off ∧ tickL left = if s.tick.armed then s.tick.left else -1 := by
  refine ⟨rfl, rfl, ?_⟩
  rw [h.left]
  show tickL (if s.armed then s.left else -1) = if s.armed then (if s.armed then s.left - 1 else s.left) else -1
  cases ha : s.armed
  · rfl
  · have hp := DS.last_pos hok hl ha
    unfold tickL
    simp only [if_true]
    rw [if_pos (by omega)]
set_option maxRecDepth 100000 in
theorem Sim.wr {s : DS} {X : List Ent} {left : Int} {power : Bool} (h : Sim s X left power) (hok : s.Ok) (x : Int) (b : List Int) (v : Value) (ho : s.off = false) (hf : s.fits x b = true) (hl : s.last = false) : Sim (s.wr x b) (X ++ [⟨x, v, pad64 b, false⟩]) (tickL left) power := by
  have e : s.wr x b = { s.tick with O := s.O ++ [(x.toNat, pad64 b)] } := by unfold DS.wr; rw [ho, hf, hl]; rfl
  obtain ⟨t1, t2, t3⟩ := h.tick hok hl
  have hfi := DS.fits_iff.1 hf
  rw [e]
  obtain ⟨S, T, rfl, h1, h2, h3, h4⟩ := h.split
  refine ⟨⟨S, T ++ [⟨x, v, pad64 b, false⟩], by simp, h1, fun y hy => ?_, ?_, h4⟩, by rw [h.power]; rfl, t3⟩
  · rcases List.mem_append.1 hy with hy | hy
    · exact h2 y hy
    · rw [List.mem_singleton.1 hy]
  · show _ = (s.O ++ [(x.toNat, pad64 b)]).map _
    rw [List.map_append, List.map_append, h3]
    congr 1
    simp [Int.toNat_of_nonneg hfi.1]
set_option maxRecDepth 100000 in
theorem Sim.dead {s : DS} {X : List Ent} {left : Int} {power : Bool} (h : Sim s X left power) : Sim s.dead X left false := ⟨h.split, rfl, h.left⟩
set_option maxRecDepth 100000 in
theorem Sim.sy {s : DS} {X : List Ent} {left : Int} {power : Bool} (h : Sim s X left power) (hok : s.Ok) (ho : s.off = false) (hl : s.last = false) : Sim s.sy (setl X) (tickL left) power := by
  have e : s.sy = { s.tick with F := app s.F s.O, O := [] } := by unfold DS.sy; rw [ho, hl]; rfl
  obtain ⟨t1, t2, t3⟩ := h.tick hok hl
  have hr := h.read
  rw [e]
  refine ⟨⟨setl X, [], by simp, setl_sure X, (by intro x hx; cases hx), rfl, fun i hi => ?_⟩, by rw [h.power]; rfl, t3⟩
  have hi : i < s.F.length := by have : i < (app s.F s.O).length := hi; rwa [app_len] at this
  rw [lstX_setl]
  exact hr i hi
end Go.Proofs.YtjnjokbdoendkaaGreat
namespace Go.Proofs.YtjnjokbdoendkaaGreat
open Go.RowKit
set_option linter.unusedVariables false

/-- a write's bytes lie in a row of bytes -/
def RowAt (w : World) (own : Nat → Prop) (x : Ent) : Prop := ∃ b c cs, x.v = .slice (some ⟨b, 0, none⟩) 64 c ∧ own b ∧ w.heap[b]? = some (.cells cs 5 (0, 0)) ∧ Sx x.l ∧ 64 ≤ c ∧ c ≤ maxLen ∧ cs.toList.take 64 = bv x.l
set_option maxRecDepth 100000 in
theorem RowAt.keep {w w' : World} {own own2 : Nat → Prop} {x : Ent} (h : RowAt w own x) (hb : ∀ k cs, own k → w.heap[k]? = some (.cells cs 5 (0, 0)) → w'.heap[k]? = w.heap[k]?) (ho : ∀ k, own k → own2 k) : RowAt w' own2 x := by
  obtain ⟨b, c, cs, e1, e2, e3, e4⟩ := h
  exact ⟨b, c, cs, e1, ho b e2, (hb b cs e2 e3).trans e3, e4⟩
set_option maxRecDepth 100000 in
theorem RowAt.bts {w : World} {own : Nat → Prop} {x : Ent} (h : RowAt w own x) : ∃ b c, x.v = .slice (some ⟨b, 0, none⟩) 64 c ∧ Bts w (some ⟨b, 0, none⟩) 64 c x.l := by
  obtain ⟨b, c, cs, e1, e2, e3, e4, e5, e6, e7⟩ := h
  refine ⟨b, c, e1, e4.1, e4.2, e5, e6, (fun hh => by cases hh), fun _ => ⟨b, 0, rfl, (Array.getElem?_eq_some_iff.1 e3).1, fun i hi => ?_⟩⟩
  rw [Nat.zero_add, cell_of_row _ _ i _ _ (0, 0) e3]
  have h1 : (bv x.l)[i]? = some (.int .u8 (x.l.getD i 0)) := by rw [bv_get, List.getElem?_eq_getElem (by rw [e4.1]; exact hi), List.getD_eq_getElem?_getD, List.getElem?_eq_getElem (by rw [e4.1]; exact hi)]; rfl
  rw [← e7, List.getElem?_take, if_pos hi] at h1
  simpa using h1
set_option maxRecDepth 100000 in
theorem row_at {w : World} {base : Nat} {own : Nat → Prop} {v : Value} {l : List Int} (h : w.ownsRow base 5 1 v 64 (bv l)) (hl : Sx l) (ho : ∀ k, v.ownBlock = some k → own k) (p : Int) (s : Bool) : RowAt w own ⟨p, v, l, s⟩ := by
  rcases h.2 with ⟨_, h0⟩ | ⟨g, cap, cur, rfl, hb, hg, hnc, hcm, hcs, ht⟩
  · omega
  · exact ⟨g, cap, cur, rfl, ho g rfl, hg, hl, hnc, hcm, by rw [← ht]⟩
/-- the document's disk -/
structure Rf (w : World) (g : Nat) (own : Nat → Prop) (n : Nat) (X : List Ent) (left : Int) (power : Bool) (vl : Value) : Prop where
  row : w.heap[g]? = some (.cells #[.int .i64 n, vl, .int .i64 left, .bool power] 80 (0, 0))
  lst : w.ownsRow 0 111 3 vl X.length (ecl X)
  ents : ∀ x ∈ X, RowAt w own x
  og : own g
  ol : ∀ k, vl.ownBlock = some k → own k
  lt : ∀ k, own k → k < w.heap.size
  lb : -1 ≤ left ∧ left ≤ 9223372036854775807
  nb : n ≤ 4096
section
variable {w w' : World} {g : Nat} {own : Nat → Prop} {n : Nat} {X : List Ent} {left : Int} {power : Bool} {vl : Value}
set_option maxRecDepth 100000 in
theorem Rf.c0 (h : Rf w g own n X left power vl) : w.cell? ⟨g, 0, none⟩ = some (.int .i64 n) := by rw [cell_of_row w g 0 _ _ (0, 0) h.row]; rfl
set_option maxRecDepth 100000 in
theorem Rf.c1 (h : Rf w g own n X left power vl) : w.cell? ⟨g, 1, none⟩ = some vl := by rw [cell_of_row w g 1 _ _ (0, 0) h.row]; rfl
set_option maxRecDepth 100000 in
theorem Rf.c2 (h : Rf w g own n X left power vl) : w.cell? ⟨g, 2, none⟩ = some (.int .i64 left) := by rw [cell_of_row w g 2 _ _ (0, 0) h.row]; rfl
set_option maxRecDepth 100000 in
theorem Rf.c3 (h : Rf w g own n X left power vl) : w.cell? ⟨g, 3, none⟩ = some (.bool power) := by rw [cell_of_row w g 3 _ _ (0, 0) h.row]; rfl
set_option maxRecDepth 100000 in
theorem Rf.fr (h : Rf w g own n X left power vl) (j : Nat) : w.frozen? ⟨g, j, none⟩ = false := frozen_of_row _ _ j _ _ h.row
set_option maxRecDepth 100000 in
theorem Rf.vl_ne (h : Rf w g own n X left power vl) {k : Nat} (hk : vl.ownBlock = some k) : k ≠ g := by
  rcases h.lst.2 with ⟨rfl, _⟩ | ⟨g', cap', cur, rfl, _, hh, _⟩
  · simp [Value.ownBlock] at hk
  · simp [Value.ownBlock] at hk
    subst hk
    intro e; subst e
    rw [h.row] at hh
    injection hh with hh; injection hh with _ h2 _; exact absurd h2 (by decide)
set_option maxRecDepth 100000 in
theorem Rf.keep (h : Rf w g own n X left power vl) (hb : ∀ k, own k → w'.heap[k]? = w.heap[k]?) (hs : w.heap.size ≤ w'.heap.size) : Rf w' g own n X left power vl := by
  refine ⟨(hb g h.og).trans h.row, ⟨h.lst.1, ?_⟩, fun x hx => (h.ents x hx).keep (fun k _ hk _ => hb k hk) (fun _ h => h), h.og, h.ol, fun k hk => Nat.lt_of_lt_of_le (h.lt k hk) hs, h.lb, h.nb⟩
  rcases h.lst.2 with h2 | ⟨g', cap', cur, hv, hg, hh, r⟩
  · exact .inl h2
  · exact .inr ⟨g', cap', cur, hv, hg, (hb g' (h.ol g' (by rw [hv]; rfl))).trans hh, r⟩
set_option maxRecDepth 100000 in
theorem Rf.below (h : Rf w g own n X left power vl) (hb : Below w.heap.size w w') : Rf w' g own n X left power vl := h.keep (fun k hk => hb.block k (h.lt k hk)) hb.size
set_option maxRecDepth 100000 in
theorem Rf.kept {own2 : Nat → Prop} (h : Rf w g own n X left power vl) (hb : Kept own2 w w') (hd : ∀ k, own k → ¬ own2 k) : Rf w' g own n X left power vl := h.keep (fun k hk => hb.block k (h.lt k hk) (hd k hk)) hb.size
set_option maxRecDepth 100000 in
theorem Rf.drewN (h : Rf w g own n X left power vl) (q : Nat) : Rf (w.drewN q) g own n X left power vl := h.keep (fun _ _ => rfl) (Nat.le_refl _)
set_option maxRecDepth 100000 in
/-- a store into the object -/
theorem Rf.rest (h : Rf w g own n X left power vl) (j : Nat) (v : Value) : (w.setCell ⟨g, j, none⟩ v).ownsRow 0 111 3 vl X.length (ecl X) ∧ (∀ x ∈ X, RowAt (w.setCell ⟨g, j, none⟩ v) own x) ∧ ∀ k, own k → k < (w.setCell ⟨g, j, none⟩ v).heap.size := by
  refine ⟨⟨h.lst.1, ?_⟩, fun x hx => (h.ents x hx).keep (fun k cs hk hc => heap_setCell_other w ⟨g, j, none⟩ k v (fun e => ?_)) (fun _ h => h), fun k hk => by have := h.lt k hk; simpa [World.setCell] using this⟩
  · rcases h.lst.2 with h2 | ⟨g', cap', cur, hv, hg, hh, r⟩
    · exact .inl h2
    · exact .inr ⟨g', cap', cur, hv, hg, (heap_setCell_other w ⟨g, j, none⟩ g' v (h.vl_ne (k := g') (by rw [hv]; rfl))).trans hh, r⟩
  · have e : k = g := e
    rw [e, h.row] at hc
    injection hc with hc; injection hc with _ h2 _; exact absurd h2 (by decide)
set_option maxRecDepth 100000 in
theorem Rf.setLeft (h : Rf w g own n X left power vl) (x : Int) (hx : -1 ≤ x ∧ x ≤ 9223372036854775807) : Rf (w.setCell ⟨g, 2, none⟩ (.int .i64 x)) g own n X x power vl := by
  obtain ⟨r1, r2, r3⟩ := h.rest 2 (.int .i64 x)
  exact ⟨heap_setCell_same w g 2 _ _ _ h.row, r1, r2, h.og, h.ol, r3, hx, h.nb⟩
set_option maxRecDepth 100000 in
theorem Rf.setPower (h : Rf w g own n X left power vl) (b : Bool) : Rf (w.setCell ⟨g, 3, none⟩ (.bool b)) g own n X left b vl := by
  obtain ⟨r1, r2, r3⟩ := h.rest 3 (.bool b)
  exact ⟨heap_setCell_same w g 3 _ _ _ h.row, r1, r2, h.og, h.ol, r3, h.lb, h.nb⟩
set_option maxRecDepth 100000 in
/-- another list: its row, and rows of bytes -/
theorem Rf.setList {own2 : Nat → Prop} {Y : List Ent} {v : Value} (h : Rf w g own n X left power vl) (hl : w.ownsRow 0 111 3 v Y.length (ecl Y)) (he : ∀ x ∈ Y, RowAt w own2 x) (ho : ∀ k, own k → own2 k) (hv : ∀ k, v.ownBlock = some k → own2 k) (hlt : ∀ k, own2 k → k < w.heap.size) : Rf (w.setCell ⟨g, 1, none⟩ v) g own2 n Y left power v := by
  refine ⟨heap_setCell_same w g 1 _ _ _ h.row, ⟨hl.1, ?_⟩, fun x hx => (he x hx).keep (fun k cs hk hc => heap_setCell_other w ⟨g, 1, none⟩ k v (fun e => ?_)) (fun _ h => h), ho g h.og, hv, fun k hk => by have := hlt k hk; simpa [World.setCell] using this, h.lb, h.nb⟩
  · rcases hl.2 with h2 | ⟨g', cap', cur, hv, hg, hh, r⟩
    · exact .inl h2
    · refine .inr ⟨g', cap', cur, hv, hg, (heap_setCell_other w ⟨g, 1, none⟩ g' v (fun e => ?_)).trans hh, r⟩
      have e : g' = g := e
      rw [e, h.row] at hh
      injection hh with hh; injection hh with _ h2 _; exact absurd h2 (by decide)
  · have e : k = g := e
    rw [e, h.row] at hc
    injection hc with hc; injection hc with _ h2 _; exact absurd h2 (by decide)
set_option maxRecDepth 100000 in
/-- the j-th write in memory -/
theorem ent_cells {base : Nat} {gl m cl : Nat} {Y : List Ent} (h : w.ownsRow base 111 3 (.slice (some ⟨gl, 0, none⟩) m cl) Y.length (ecl Y)) (j : Nat) (x : Ent) (hx : Y[j]? = some x) : w.cell? ⟨gl, j * 3, none⟩ = some (.int .i64 x.pos) ∧ w.cell? ⟨gl, j * 3 + 1, none⟩ = some x.v ∧ w.cell? ⟨gl, j * 3 + 2, none⟩ = some (.bool x.sure) := by
  have hlt : j < Y.length := (List.getElem?_eq_some_iff.1 hx).1
  rcases h.2 with ⟨h2, _⟩ | ⟨g', cap', cur, hv, _, hh, hnc, _, hcs, ht⟩
  · cases h2
  · cases hv
    have hc : ∀ i, i < 3 → w.cell? ⟨gl, j * 3 + i, none⟩ = x.cells[i]? := fun i hi => by
      rw [cell_of_row _ _ _ _ _ (0, 0) hh, ← ecl_get Y j x hx i hi, ← ht, List.getElem?_take, if_pos (by omega)]
      simp
    exact ⟨hc 0 (by decide), hc 1 (by decide), hc 2 (by decide)⟩
set_option maxRecDepth 100000 in
theorem Rf.nth {a : Option Addr} {m c : Nat} (h : Rf w g own n X left power (.slice a m c)) (j : Nat) (hj : j < X.length) : ∃ gl x, a = some ⟨gl, 0, none⟩ ∧ X[j]? = some x ∧ w.cell? ⟨gl, j * 3, none⟩ = some (.int .i64 x.pos) ∧ w.cell? ⟨gl, j * 3 + 1, none⟩ = some x.v ∧ w.cell? ⟨gl, j * 3 + 2, none⟩ = some (.bool x.sure) := by
  obtain ⟨gl, cap, hv, _, _⟩ := owns_form h.lst (by omega)
  injection hv with h1 h2 h3
  subst h1
  have hx : X[j]? = some X[j] := List.getElem?_eq_getElem hj
  have hl := h.lst
  exact ⟨gl, X[j], rfl, hx, ent_cells hl j X[j] hx⟩
end
set_option maxRecDepth 100000 in
theorem lstX_none (r : List Ent) (p : Int) (z : List Int) (h : anyX r p = false) : lstX r p z = z := by
  induction r generalizing z with
  | nil => rfl
  | cons y r ih =>
    have h1 : decide (y.pos = p) = false ∧ anyX r p = false := by
      unfold anyX at h ⊢
      rw [List.any_cons, Bool.or_eq_false_iff] at h
      exact h
    unfold lstX
    rw [if_neg (of_decide_eq_false h1.1)]
    exact ih z h1.2
set_option maxRecDepth 100000 in
theorem lstX_hit (X : List Ent) (j : Nat) (x : Ent) (p : Int) (z : List Int) (hx : X[j]? = some x) (hp : x.pos = p) (h : anyX (X.drop (j + 1)) p = false) : lstX X p z = x.l := by
  have hj : j < X.length := (List.getElem?_eq_some_iff.1 hx).1
  have hx2 : X[j] = x := (List.getElem?_eq_some_iff.1 hx).2
  have e : X = X.take j ++ (x :: X.drop (j + 1)) := by
    conv => lhs; rw [← List.take_append_drop j X, List.drop_eq_getElem_cons hj, hx2]
  rw [e, lstX_append]
  show lstX (X.drop (j + 1)) p (if x.pos = p then x.l else _) = _
  rw [if_pos hp]
  exact lstX_none _ _ _ h
/-- the document's disk says what s says; at most so many writes -/
def RS (w : World) (g : Nat) (own : Nat → Prop) (s : DS) (m : Nat) : Prop := ∃ X left power vl, Rf w g own s.F.length X left power vl ∧ Sim s X left power ∧ X.length ≤ m
set_option maxRecDepth 100000 in
theorem RS.below {w w' : World} {g : Nat} {own : Nat → Prop} {s : DS} {m : Nat} (h : RS w g own s m) (hb : Below w.heap.size w w') : RS w' g own s m := by
  obtain ⟨X, left, power, vl, h1, h2⟩ := h
  exact ⟨X, left, power, vl, h1.below hb, h2⟩
set_option maxRecDepth 100000 in
theorem RS.kept {w w' : World} {g : Nat} {own own2 : Nat → Prop} {s : DS} {m : Nat} (h : RS w g own s m) (hb : Kept own2 w w') (hd : ∀ k, own k → ¬ own2 k) : RS w' g own s m := by
  obtain ⟨X, left, power, vl, h1, h2⟩ := h
  exact ⟨X, left, power, vl, h1.kept hb hd, h2⟩
set_option maxRecDepth 100000 in
theorem RS.lt {w : World} {g : Nat} {own : Nat → Prop} {s : DS} {m : Nat} (h : RS w g own s m) : ∀ k, own k → k < w.heap.size := by
  obtain ⟨X, left, power, vl, h1, h2⟩ := h
  exact h1.lt
set_option maxRecDepth 100000 in
theorem RS.drewN {w : World} {g : Nat} {own : Nat → Prop} {s : DS} {m : Nat} (h : RS w g own s m) (q : Nat) : RS (w.drewN q) g own s m := by
  obtain ⟨X, left, power, vl, h1, h2⟩ := h
  exact ⟨X, left, power, vl, h1.drewN q, h2⟩
set_option maxRecDepth 100000 in
theorem RS.le {w : World} {g : Nat} {own : Nat → Prop} {s : DS} {m m' : Nat} (h : RS w g own s m) (hm : m ≤ m') : RS w g own s m' := by
  obtain ⟨X, left, power, vl, h1, h2, h3⟩ := h
  exact ⟨X, left, power, vl, h1, h2, Nat.le_trans h3 hm⟩
set_option maxRecDepth 100000 in
theorem ref_info : (Tryz.prog.info? 111).map (fun i => (i.zero, i.size, i.bytes)) = some (some (.agg #[.int .i64 0, .slice none 0 0, .bool false]), 3, 40) := by kernel_rfl
end Go.Proofs.YtjnjokbdoendkaaGreat
