/- A store in memory: its map by keys. No walk. -/
import Derived.Test.YtjnjokbdoendkaaGreatStoreMem
import Derived.MapKept
namespace Go.Proofs.YtjnjokbdoendkaaGreat
open Go.RowKit Go.MapKept

/-- an entry's key and value -/
def enE (z : It Pr) : Value × Value := (.string z.x.1, .slice z.a z.n z.c)
/-- a map's entries are these -/
structure EZ (es : Array MapEntry) (clock : Nat) (Z : List (It Pr)) : Prop where
  ez : es.toList.map (fun e => (e.key, e.val)) = Z.map enE
  st : Stamped es clock
set_option maxRecDepth 100000 in
theorem EZ.nil : EZ #[] 0 [] := ⟨rfl, stamped_empty 0⟩
set_option maxRecDepth 100000 in
theorem EZ.len {es : Array MapEntry} {clock : Nat} {Z : List (It Pr)} (h : EZ es clock Z) : es.toList.length = Z.length := by
  have := congrArg List.length h.ez
  simpa using this
set_option maxRecDepth 100000 in
theorem EZ.at {es : Array MapEntry} {clock : Nat} {Z : List (It Pr)} (h : EZ es clock Z) {j : Nat} {e : MapEntry} (he : es.toList[j]? = some e) : ∃ z, Z[j]? = some z ∧ e.key = .string z.x.1 ∧ e.val = .slice z.a z.n z.c := by
  have h1 : (es.toList.map (fun e => (e.key, e.val)))[j]? = some (e.key, e.val) := by rw [List.getElem?_map, he]; rfl
  rw [h.ez, List.getElem?_map] at h1
  cases hz : Z[j]? with
  | none => rw [hz] at h1; simp at h1
  | some z =>
    rw [hz] at h1
    simp only [Option.map_some, Option.some.injEq, enE, Prod.mk.injEq] at h1
    exact ⟨z, rfl, h1.1.symm, h1.2.symm⟩
set_option maxRecDepth 100000 in
theorem EZ.keys {es : Array MapEntry} {clock : Nat} {Z : List (It Pr)} (h : EZ es clock Z) : ∀ x ∈ es.toList, IsKey .string x.key := fun x hx => by
  obtain ⟨j, hj, e⟩ := List.getElem_of_mem hx
  obtain ⟨z, _, h1, _⟩ := h.at (j := j) (e := x) (by rw [List.getElem?_eq_getElem hj, e])
  rw [h1]; trivial
set_option maxRecDepth 100000 in
/-- where a key stands, or nowhere -/
theorem EZ.find {es : Array MapEntry} {clock : Nat} {Z : List (It Pr)} (h : EZ es clock Z) (k : ByteArray) :
    (Instr.findNow .string (.string k) es.toList 0 = some none ∧ ∀ z ∈ Z, z.x.1 ≠ k) ∨
    ∃ (j : Nat) (e : MapEntry) (z : It Pr), Instr.findNow .string (.string k) es.toList 0 = some (some (j, .slice z.a z.n z.c)) ∧ es.toList[j]? = some e ∧ e.key = .string k ∧ Z[j]? = some z ∧ z.x.1 = k := by
  rcases findNow_spec (d := .string) (k := .string k) trivial es.toList 0 h.keys with ⟨h1, h2⟩ | ⟨j, e, h1, h2, h3⟩
  · refine .inl ⟨h1, fun z hz hk => ?_⟩
    obtain ⟨j, hj, e⟩ := List.getElem_of_mem hz
    have hj2 : j < es.toList.length := by rw [h.len]; exact hj
    obtain ⟨z', hz', hk', _⟩ := h.at (j := j) (e := es.toList[j]) (by rw [List.getElem?_eq_getElem hj2])
    rw [List.getElem?_eq_getElem hj, e] at hz'
    cases hz'
    exact h2 _ (List.getElem_mem hj2) (by rw [hk', hk])
  · obtain ⟨z, hz, hk, hv⟩ := h.at h2
    refine .inr ⟨j, e, z, by rw [h1, hv, Nat.zero_add], h2, h3, hz, ?_⟩
    rw [hk] at h3
    cases h3; rfl
set_option maxRecDepth 100000 in
set_option maxHeartbeats 400000 in
/-- 'v, ok := m[k]' -/
theorem run_lookup {w : World} {gm : Nat} {es : Array MapEntry} {clock : Nat} {Z : List (It Pr)} (k : ByteArray) (hm : w.heap[gm]? = some (.map es clock)) (h : EZ es clock Z) :
    ((∀ z ∈ Z, z.x.1 ≠ k) ∧ (Instr.lookup 84 (.map (some gm)) (.string k) true).run Tryz.prog w = .ok (.tuple #[.slice none 0 0, .bool false]) w) ∨
    ∃ z ∈ Z, z.x.1 = k ∧ (Instr.lookup 84 (.map (some gm)) (.string k) true).run Tryz.prog w = .ok (.tuple #[.slice z.a z.n z.c, .bool true]) w := by
  have hz : (zeroValue 46).run Tryz.prog w = .ok (.slice none 0 0) w := by rfl
  have hck : ∀ b, (Instr.checkKey b 10000 9 (.string k)).run Tryz.prog w = .ok () w := fun b => MapKept.run_checkKey Tryz.underlying9 (d := .string) (k := .string k) trivial b 9999
  rcases h.find k with ⟨h1, h2⟩ | ⟨j, e, z, h1, h2, h3, h4, h5⟩
  · refine .inl ⟨h2, ?_⟩
    have hfk := MapKept.run_findKey (P := Tryz.prog) (w := w) Tryz.underlying9 h1
    simp [Instr.lookup, run_underlying Tryz.underlying84, MapKept.run_getObj_map hm, hck, hfk, hz, Result.andThen]
  · refine .inr ⟨z, List.mem_of_getElem? h4, h5, ?_⟩
    have hfk := MapKept.run_findKey (P := Tryz.prog) (w := w) Tryz.underlying9 h1
    simp [Instr.lookup, run_underlying Tryz.underlying84, MapKept.run_getObj_map hm, hck, hfk, Result.andThen]
/-- a map's block with other entries -/
def setM (w : World) (gm : Nat) (es : Array MapEntry) (clock : Nat) : World := { w with heap := w.heap.setIfInBounds gm (.map es clock) }
set_option maxRecDepth 100000 in
theorem setM_at {w : World} {gm : Nat} {o : Obj} (es : Array MapEntry) (clock : Nat) (h : w.heap[gm]? = some o) : (setM w gm es clock).heap[gm]? = some (.map es clock) := (heap_set h).1
set_option maxRecDepth 100000 in
theorem setM_other (w : World) {gm k : Nat} (es : Array MapEntry) (clock : Nat) (h : k ≠ gm) : (setM w gm es clock).heap[k]? = w.heap[k]? := by simp [setM, Ne.symm h]
set_option maxRecDepth 100000 in
theorem setM_size (w : World) (gm : Nat) (es : Array MapEntry) (clock : Nat) : (setM w gm es clock).heap.size = w.heap.size := by simp [setM]
set_option maxRecDepth 100000 in
theorem list_modify_map {α β : Type} (g : α → β) (l : List α) (j : Nat) (f : α → α) (y : β) (h : ∀ x, l[j]? = some x → g (f x) = y) : (l.modify j f).map g = (l.map g).set j y := by
  induction l generalizing j with
  | nil => simp
  | cons x t ih =>
    cases j with
    | zero => simp [h x rfl]
    | succ j => simp [ih j (fun z hz => h z (by simpa using hz))]
set_option maxRecDepth 100000 in
set_option maxHeartbeats 400000 in
/-- 'm[k] = v' -/
theorem run_update {w : World} {gm : Nat} {es : Array MapEntry} {clock : Nat} {Z : List (It Pr)} (k : ByteArray) (v : List Int) (a : Option Addr) (n c : Nat) (hm : w.heap[gm]? = some (.map es clock)) (h : EZ es clock Z) :
    ∃ es' clock' Z', (Instr.mapUpdate 84 (.map (some gm)) (.string k) (.slice a n c)).run Tryz.prog w = .ok () (setM w gm es' clock') ∧ EZ es' clock' Z' ∧
      (((∀ z ∈ Z, z.x.1 ≠ k) ∧ Z' = Z ++ [⟨(k, v), a, n, c⟩]) ∨ ∃ j z, Z[j]? = some z ∧ z.x.1 = k ∧ Z' = Z.set j ⟨(k, v), a, n, c⟩) := by
  have hck : ∀ b, (Instr.checkKey b 10000 9 (.string k)).run Tryz.prog w = .ok () w := fun b => MapKept.run_checkKey Tryz.underlying9 (d := .string) (k := .string k) trivial b 9999
  rcases h.find k with ⟨h1, h2⟩ | ⟨j, e, z, h1, h2, h3, h4, h5⟩
  · have hfk := MapKept.run_findKey (P := Tryz.prog) (w := w) Tryz.underlying9 h1
    refine ⟨es.push { key := .string k, val := .slice a n c, born := clock }, clock + 1, Z ++ [⟨(k, v), a, n, c⟩], ?_, ⟨?_, ?_⟩, .inl ⟨h2, rfl⟩⟩
    · simp [Instr.mapUpdate, run_underlying Tryz.underlying84, MapKept.run_getObj_map hm, hck, hfk, MapKept.run_setObj_map _ hm, Result.andThen, setM]
    · rw [Array.toList_push, List.map_append, List.map_append, h.ez]; rfl
    · refine stamped_push h.st fun x hx => ?_
      obtain ⟨i, hi, e⟩ := List.getElem_of_mem hx
      obtain ⟨z, hz, hk, _⟩ := h.at (j := i) (e := x) (by rw [List.getElem?_eq_getElem hi, e])
      rw [hk]
      intro e2
      exact h2 z (List.mem_of_getElem? hz) (by cases e2; rfl)
  · have hfk := MapKept.run_findKey (P := Tryz.prog) (w := w) Tryz.underlying9 h1
    have hj : es[j]? = some e := by simpa using h2
    have hst : (Instr.keyThatStays (.string k) (.string k)).run Tryz.prog w = .ok (.string k) w := MapKept.run_keyThatStays (d := .string) (k := .string k) trivial
    refine ⟨es.modify j fun e => { e with key := .string k, val := .slice a n c }, clock, Z.set j ⟨(k, v), a, n, c⟩, ?_, ⟨?_, ?_⟩, .inr ⟨j, z, h4, h5, rfl⟩⟩
    · simp [Instr.mapUpdate, run_underlying Tryz.underlying84, MapKept.run_getObj_map hm, hck, hfk, hj, h3, hst, MapKept.run_setObj_map _ hm, Result.andThen, setM]
    · rw [Array.toList_modify, list_modify_map (fun e : MapEntry => (e.key, e.val)) es.toList j _ (.string k, .slice a n c) (fun x _ => rfl), h.ez, List.map_set]; rfl
    · exact stamped_modify h.st _ _ (fun _ _ => rfl) (fun e' _ he' => by rw [hj] at he'; cases he'; exact h3.symm)
set_option maxRecDepth 100000 in
theorem erase_map {α β : Type} (g : α → β) (l : List α) (j : Nat) : (l.eraseIdx j).map g = (l.map g).eraseIdx j := by
  induction l generalizing j with
  | nil => simp
  | cons x t ih =>
    cases j with
    | zero => simp
    | succ j => simp [ih j]
set_option maxRecDepth 100000 in
set_option maxHeartbeats 400000 in
/-- 'delete(m, k)' -/
theorem run_delete {w : World} {gm : Nat} {es : Array MapEntry} {clock : Nat} {Z : List (It Pr)} (k : ByteArray) (ty : TypeId) (hm : w.heap[gm]? = some (.map es clock)) (h : EZ es clock Z) :
    ∃ es' clock' Z', (Builtin.delete_ #[84, 9] ty #[.map (some gm), .string k]).run Tryz.prog w = .ok (.tuple #[]) (setM w gm es' clock') ∧ EZ es' clock' Z' ∧
      (((∀ z ∈ Z, z.x.1 ≠ k) ∧ Z' = Z) ∨ ∃ j z, Z[j]? = some z ∧ z.x.1 = k ∧ Z' = Z.eraseIdx j) := by
  have hck : ∀ b, (Instr.checkKey b 10000 9 (.string k)).run Tryz.prog w = .ok () w := fun b => MapKept.run_checkKey Tryz.underlying9 (d := .string) (k := .string k) trivial b 9999
  rcases h.find k with ⟨h1, h2⟩ | ⟨j, e, z, h1, h2, h3, h4, h5⟩
  · have hfk := MapKept.run_findKey (P := Tryz.prog) (w := w) Tryz.underlying9 h1
    refine ⟨es, clock, Z, ?_, h, .inl ⟨h2, rfl⟩⟩
    simp [Builtin.delete_, run_underlying Tryz.underlying84, MapKept.run_getObj_map hm, hck, hfk, MapKept.run_setObj_map _ hm, Result.andThen, setM]
  · have hfk := MapKept.run_findKey (P := Tryz.prog) (w := w) Tryz.underlying9 h1
    refine ⟨es.eraseIdxIfInBounds j, clock, Z.eraseIdx j, ?_, ⟨?_, stamped_erase h.st j⟩, .inr ⟨j, z, h4, h5, rfl⟩⟩
    · simp [Builtin.delete_, run_underlying Tryz.underlying84, MapKept.run_getObj_map hm, hck, hfk, MapKept.run_setObj_map _ hm, Result.andThen, setM]
    · have hlt : j < es.size := by
        have := (List.getElem?_eq_some_iff.1 h2).1
        simpa using this
      have e1 : (es.eraseIdxIfInBounds j).toList = es.toList.eraseIdx j := by simp [Array.eraseIdxIfInBounds, hlt]
      rw [e1, erase_map, h.ez, erase_map]
set_option maxRecDepth 100000 in
/-- what these do to what is held -/
theorem set_upd {M : List Pr} (hn : Nod M) {j : Nat} {k : ByteArray} {v0 v : List Int} (h : M[j]? = some (k, v0)) : M.set j (k, v) = upd M ⟨k, false, v⟩ := by
  have ha : M.any (fun p => decide (p.1 = k)) = true := List.any_eq_true.2 ⟨_, List.mem_of_getElem? h, by simp⟩
  unfold upd
  rw [if_neg (by simp), if_pos ha]
  induction M generalizing j with
  | nil => simp at h
  | cons p t ih =>
    have hp := List.pairwise_cons.1 hn
    cases j with
    | zero =>
      have e : p = (k, v0) := by simpa using h
      have hne : ∀ q ∈ t, q.1 ≠ k := fun q hq e2 => hp.1 q hq (by rw [e, e2])
      rw [List.set_cons_zero, List.map_cons, if_pos (by rw [e]), map_all hne]
    | succ j =>
      have h1 : t[j]? = some (k, v0) := by simpa using h
      have hne : p.1 ≠ k := fun e => hp.1 _ (List.mem_of_getElem? h1) e
      rw [List.set_cons_succ, List.map_cons, if_neg hne, ih hp.2 h1 (List.any_eq_true.2 ⟨_, List.mem_of_getElem? h1, by simp⟩)]
set_option maxRecDepth 100000 in
theorem erase_upd {M : List Pr} (hn : Nod M) {j : Nat} {k : ByteArray} {v0 v : List Int} (h : M[j]? = some (k, v0)) : M.eraseIdx j = upd M ⟨k, true, v⟩ := by
  unfold upd
  rw [if_pos rfl]
  induction M generalizing j with
  | nil => simp at h
  | cons p t ih =>
    have hp := List.pairwise_cons.1 hn
    cases j with
    | zero =>
      have e : p = (k, v0) := by simpa using h
      have hne : ∀ q ∈ t, q.1 ≠ k := fun q hq e2 => hp.1 q hq (by rw [e, e2])
      rw [List.eraseIdx_cons_zero, List.filter_cons_of_neg (by simp [e]), filter_all hne]
    | succ j =>
      have h1 : t[j]? = some (k, v0) := by simpa using h
      have hne : p.1 ≠ k := fun e => hp.1 _ (List.mem_of_getElem? h1) e
      rw [List.eraseIdx_cons_succ, List.filter_cons_of_pos (by simpa using hne), ih hp.2 h1]
set_option maxRecDepth 100000 in
theorem none_put {M : List Pr} {k : ByteArray} {v : List Int} (h : ∀ p ∈ M, p.1 ≠ k) : M ++ [(k, v)] = upd M ⟨k, false, v⟩ := by
  unfold upd
  rw [if_neg (by simp), if_neg (by rw [Bool.not_eq_true]; exact List.any_eq_false.2 fun p hp => by simpa using h p hp)]
set_option maxRecDepth 100000 in
theorem none_del {M : List Pr} {k : ByteArray} {v : List Int} (h : ∀ p ∈ M, p.1 ≠ k) : M = upd M ⟨k, true, v⟩ := by
  unfold upd
  rw [if_pos rfl, filter_all h]
/-- a store in memory -/
structure StR (w : World) (gs gl gm : Nat) (q us : Int) (own : Nat → Prop) (M : List Pr) (es : Array MapEntry) (clock : Nat) (Z : List (It Pr)) : Prop where
  row : w.heap[gs]? = some (.cells #[.pointer (some ⟨gl, 0, none⟩), .int .i64 q, .map (some gm), .int .i64 us] 86 (0, 0))
  mp : w.heap[gm]? = some (.map es clock)
  ez : EZ es clock Z
  zx : Z.map (·.x) = M
  zb : ∀ z ∈ Z, Bts w z.a z.n z.c z.x.2 ∧ (0 < z.n → ∀ p, z.a = some p → own p.block ∧ p.block ≠ gs ∧ p.block ≠ gm)
  og : own gs
  om : own gm
  ne : gs ≠ gm
  lt : ∀ k, own k → k < w.heap.size
  mo : MOk M
def St (w : World) (gs gl : Nat) (q us : Int) (own : Nat → Prop) (M : List Pr) : Prop := ∃ gm es clock Z, StR w gs gl gm q us own M es clock Z
section
variable {w w' : World} {gs gl gm : Nat} {q us : Int} {own : Nat → Prop} {M : List Pr} {es : Array MapEntry} {clock : Nat} {Z : List (It Pr)}
set_option maxRecDepth 100000 in
theorem StR.c0 (h : StR w gs gl gm q us own M es clock Z) : w.cell? ⟨gs, 0, none⟩ = some (.pointer (some ⟨gl, 0, none⟩)) := by rw [cell_of_row w gs 0 _ _ (0, 0) h.row]; rfl
set_option maxRecDepth 100000 in
theorem StR.c1 (h : StR w gs gl gm q us own M es clock Z) : w.cell? ⟨gs, 1, none⟩ = some (.int .i64 q) := by rw [cell_of_row w gs 1 _ _ (0, 0) h.row]; rfl
set_option maxRecDepth 100000 in
theorem StR.c2 (h : StR w gs gl gm q us own M es clock Z) : w.cell? ⟨gs, 2, none⟩ = some (.map (some gm)) := by rw [cell_of_row w gs 2 _ _ (0, 0) h.row]; rfl
set_option maxRecDepth 100000 in
theorem StR.c3 (h : StR w gs gl gm q us own M es clock Z) : w.cell? ⟨gs, 3, none⟩ = some (.int .i64 us) := by rw [cell_of_row w gs 3 _ _ (0, 0) h.row]; rfl
set_option maxRecDepth 100000 in
theorem StR.fr (h : StR w gs gl gm q us own M es clock Z) (j : Nat) : w.frozen? ⟨gs, j, none⟩ = false := frozen_of_row _ _ j _ _ h.row
set_option maxRecDepth 100000 in
theorem StR.keep (h : StR w gs gl gm q us own M es clock Z) (hb : ∀ k, own k → w'.heap[k]? = w.heap[k]?) (hs : w.heap.size ≤ w'.heap.size) : StR w' gs gl gm q us own M es clock Z :=
  ⟨(hb gs h.og).trans h.row, (hb gm h.om).trans h.mp, h.ez, h.zx, fun z hz => ⟨(h.zb z hz).1.keep (fun hp p e => hb _ ((h.zb z hz).2 hp p e).1) hs, (h.zb z hz).2⟩, h.og, h.om, h.ne, fun k hk => Nat.lt_of_lt_of_le (h.lt k hk) hs, h.mo⟩
set_option maxRecDepth 100000 in
theorem St.keep (h : St w gs gl q us own M) (hb : ∀ k, own k → w'.heap[k]? = w.heap[k]?) (hs : w.heap.size ≤ w'.heap.size) : St w' gs gl q us own M := by
  obtain ⟨gm, es, clock, Z, h⟩ := h
  exact ⟨gm, es, clock, Z, h.keep hb hs⟩
set_option maxRecDepth 100000 in
theorem St.below (h : St w gs gl q us own M) (hb : Below w.heap.size w w') : St w' gs gl q us own M := by
  obtain ⟨gm, es, clock, Z, h⟩ := h
  exact ⟨gm, es, clock, Z, h.keep (fun k hk => hb.block k (h.lt k hk)) hb.size⟩
set_option maxRecDepth 100000 in
theorem St.lt (h : St w gs gl q us own M) : ∀ k, own k → k < w.heap.size := by obtain ⟨gm, es, clock, Z, h⟩ := h; exact h.lt
set_option maxRecDepth 100000 in
theorem St.mo (h : St w gs gl q us own M) : MOk M := by obtain ⟨gm, es, clock, Z, h⟩ := h; exact h.mo
set_option maxRecDepth 100000 in
theorem St.kept {own2 : Nat → Prop} (h : St w gs gl q us own M) (hk : Kept own2 w w') (hd : ∀ k, own k → ¬ own2 k) : St w' gs gl q us own M := h.keep (fun k ho => hk.block k (h.lt k ho) (hd k ho)) hk.size
set_option maxRecDepth 100000 in
/-- how much is used, written anew -/
theorem StR.setUsed (h : StR w gs gl gm q us own M es clock Z) (us2 : Int) : StR (w.setCell ⟨gs, 3, none⟩ (.int .i64 us2)) gs gl gm q us2 own M es clock Z := by
  have ho : ∀ k, k ≠ gs → (w.setCell ⟨gs, 3, none⟩ (.int .i64 us2)).heap[k]? = w.heap[k]? := fun k hk => heap_setCell_other w ⟨gs, 3, none⟩ k _ hk
  have h1 := heap_setCell_same w gs 3 _ _ (.int .i64 us2) h.row
  exact ⟨by rw [h1]; simp, (ho gm (fun e => h.ne e.symm)).trans h.mp, h.ez, h.zx, fun z hz => ⟨(h.zb z hz).1.keep (fun hp p e => ho _ ((h.zb z hz).2 hp p e).2.1) (by simp), (h.zb z hz).2⟩, h.og, h.om, h.ne, fun k hk => by have := h.lt k hk; simpa using this, h.mo⟩
set_option maxRecDepth 100000 in
/-- its entries, written anew -/
theorem StR.setMap (h : StR w gs gl gm q us own M es clock Z) {own2 : Nat → Prop} {es2 : Array MapEntry} {clock2 : Nat} {Z2 : List (It Pr)} {M2 : List Pr} (hez : EZ es2 clock2 Z2) (hzx : Z2.map (·.x) = M2) (hmk : MOk M2)
    (hzb : ∀ z ∈ Z2, z ∈ Z ∨ (Bts w z.a z.n z.c z.x.2 ∧ (0 < z.n → ∀ p, z.a = some p → own2 p.block ∧ p.block ≠ gs ∧ p.block ≠ gm))) (ho2 : ∀ k, own k → own2 k) (hlt : ∀ k, own2 k → k < w.heap.size) : StR (setM w gm es2 clock2) gs gl gm q us own2 M2 es2 clock2 Z2 :=
  ⟨(setM_other w es2 clock2 h.ne).trans h.row, setM_at es2 clock2 h.mp, hez, hzx, fun z hz => by
    have h1 : Bts w z.a z.n z.c z.x.2 ∧ (0 < z.n → ∀ p, z.a = some p → own2 p.block ∧ p.block ≠ gs ∧ p.block ≠ gm) := by
      rcases hzb z hz with h2 | h2
      · exact ⟨(h.zb z h2).1, fun hp p e => ⟨ho2 _ ((h.zb z h2).2 hp p e).1, ((h.zb z h2).2 hp p e).2⟩⟩
      · exact h2
    exact ⟨h1.1.keep (fun hp p e => setM_other w es2 clock2 (h1.2 hp p e).2.2) (by rw [setM_size]; exact Nat.le_refl _), h1.2⟩,
   ho2 _ h.og, ho2 _ h.om, h.ne, fun k hk => by rw [setM_size]; exact hlt k hk, hmk⟩
set_option maxRecDepth 100000 in
theorem StR.at (h : StR w gs gl gm q us own M es clock Z) {j : Nat} {z : It Pr} (hz : Z[j]? = some z) : M[j]? = some z.x := by rw [← h.zx, List.getElem?_map, hz]; rfl
set_option maxRecDepth 100000 in
theorem StR.no (h : StR w gs gl gm q us own M es clock Z) {k : ByteArray} (hz : ∀ z ∈ Z, z.x.1 ≠ k) : ∀ p ∈ M, p.1 ≠ k := fun p hp => by
  rw [← h.zx] at hp
  obtain ⟨z, hz2, rfl⟩ := List.mem_map.1 hp
  exact hz z hz2
set_option maxRecDepth 100000 in
/-- a key looked up -/
theorem StR.look (h : StR w gs gl gm q us own M es clock Z) (k : ByteArray) : ∃ a n c b, (Instr.lookup 84 (.map (some gm)) (.string k) true).run Tryz.prog w = .ok (.tuple #[.slice a n c, .bool b]) w ∧ Bts w a n c ((gtM M k).getD []) ∧ b = (gtM M k).isSome := by
  rcases run_lookup k h.mp h.ez with ⟨h1, h2⟩ | ⟨z, hz, hk, h2⟩
  · have hg : gtM M k = none := gtM_none.2 (h.no h1)
    refine ⟨none, 0, 0, false, h2, ?_, by rw [hg]; rfl⟩
    rw [hg]
    exact ⟨rfl, Byt.nil, Nat.le_refl _, Nat.zero_le _, fun _ => rfl, fun hp => absurd hp (Nat.lt_irrefl _)⟩
  · have hg : gtM M k = some z.x.2 := gtM_of_mem h.mo.nod (by rw [← hk, ← h.zx]; exact List.mem_map.2 ⟨z, hz, rfl⟩)
    exact ⟨z.a, z.n, z.c, true, h2, by rw [hg]; exact (h.zb z hz).1, by rw [hg]; rfl⟩
set_option maxRecDepth 100000 in
/-- a key with a value -/
theorem StR.put (h : StR w gs gl gm q us own M es clock Z) {own2 : Nat → Prop} {k : ByteArray} {v : List Int} {a : Option Addr} {n c : Nat} (hc : COk ⟨k, false, v⟩) (hb : Bts w a n c v) (hn : 0 < n → ∀ p, a = some p → own2 p.block ∧ p.block ≠ gs ∧ p.block ≠ gm) (ho2 : ∀ k, own k → own2 k) (hlt : ∀ k, own2 k → k < w.heap.size) :
    ∃ es2 clock2 Z2, (Instr.mapUpdate 84 (.map (some gm)) (.string k) (.slice a n c)).run Tryz.prog w = .ok () (setM w gm es2 clock2) ∧ StR (setM w gm es2 clock2) gs gl gm q us own2 (upd M ⟨k, false, v⟩) es2 clock2 Z2 := by
  obtain ⟨es2, clock2, Z2, hr, hez, hcase⟩ := run_update k v a n c h.mp h.ez
  refine ⟨es2, clock2, Z2, hr, h.setMap hez ?_ (h.mo.upd hc) ?_ ho2 hlt⟩
  · rcases hcase with ⟨h1, rfl⟩ | ⟨j, z, hz, hk, rfl⟩
    · rw [List.map_append, h.zx, ← none_put (h.no h1)]; rfl
    · rw [List.map_set, h.zx]
      exact set_upd h.mo.nod (v0 := z.x.2) (by rw [h.at hz, ← hk])
  · rcases hcase with ⟨h1, rfl⟩ | ⟨j, z, hz, hk, rfl⟩
    · intro y hy
      rcases List.mem_append.1 hy with hy | hy
      · exact .inl hy
      · obtain rfl : y = ⟨(k, v), a, n, c⟩ := by simpa using hy
        exact .inr ⟨hb, hn⟩
    · intro y hy
      rcases List.mem_or_eq_of_mem_set hy with hy | rfl
      · exact .inl hy
      · exact .inr ⟨hb, hn⟩
set_option maxRecDepth 100000 in
/-- a key without -/
theorem StR.del (h : StR w gs gl gm q us own M es clock Z) {k : ByteArray} (v : List Int) (ty : TypeId) (hc : COk ⟨k, true, v⟩) :
    ∃ es2 clock2 Z2, (Builtin.delete_ #[84, 9] ty #[.map (some gm), .string k]).run Tryz.prog w = .ok (.tuple #[]) (setM w gm es2 clock2) ∧ StR (setM w gm es2 clock2) gs gl gm q us own (upd M ⟨k, true, v⟩) es2 clock2 Z2 := by
  obtain ⟨es2, clock2, Z2, hr, hez, hcase⟩ := run_delete k ty h.mp h.ez
  refine ⟨es2, clock2, Z2, hr, h.setMap hez ?_ (h.mo.upd hc) ?_ (fun _ h => h) h.lt⟩
  · rcases hcase with ⟨h1, rfl⟩ | ⟨j, z, hz, hk, rfl⟩
    · rw [h.zx]; exact none_del (h.no h1)
    · rw [erase_map, h.zx]
      exact erase_upd h.mo.nod (v0 := z.x.2) (by rw [h.at hz, ← hk])
  · rcases hcase with ⟨h1, rfl⟩ | ⟨j, z, hz, hk, rfl⟩
    · exact fun y hy => .inl hy
    · exact fun y hy => .inl (List.mem_of_mem_eraseIdx hy)
end
end Go.Proofs.YtjnjokbdoendkaaGreat
