/- A hash in memory, and what adding bytes makes of it: no walk. -/
import Derived.Test.YtfkloilbjfleeaaDoorSma
import Derived.Laws.CopyOwn
namespace Go.Proofs.YtfkloilbjfleeaaDoor
open Go.RowKit
set_option linter.unusedVariables false

/-- the cells of a hash: that it was made, the state, the rest, the count -/
def hcl (s : St) (r : List Int) (n : Nat) : List Value := Value.bool true :: (uv s.list ++ (bv r ++ [Value.int .i64 n]))
theorem hcl_length (s : St) (r : List Int) (n : Nat) (h : r.length = 64) : (hcl s r n).length = 74 := by
  unfold hcl; rw [List.length_cons, List.length_append, List.length_append, uv_length, bv_length, h]; rfl
theorem hcl_one (s : St) (r : List Int) (n : Nat) : ∀ u ∈ hcl s r n, u.oneCell' = true := by
  intro u hu
  simp only [hcl, List.mem_cons, List.mem_append, List.not_mem_nil, or_false] at hu
  rcases hu with rfl | hu | hu | rfl
  · rfl
  · exact uv_one _ u hu
  · exact bv_one _ u hu
  · rfl
theorem hcl_get0 (s : St) (r : List Int) (n : Nat) : (hcl s r n)[0]? = some (.bool true) := rfl
theorem hcl_getS (s : St) (r : List Int) (n j : Nat) (h : j < 8) : (hcl s r n)[1 + j]? = (uv s.list)[j]? := by
  unfold hcl; rw [show 1 + j = j + 1 from by omega, List.getElem?_cons_succ, List.getElem?_append_left (by rw [uv_length]; exact h)]
theorem hcl_getR (s : St) (r : List Int) (n j : Nat) (h : j < r.length) : (hcl s r n)[9 + j]? = (bv r)[j]? := by
  unfold hcl
  rw [show 9 + j = (8 + j) + 1 from by omega, List.getElem?_cons_succ, List.getElem?_append_right (by rw [uv_length]; show 8 ≤ 8 + j; omega), uv_length, show 8 + j - s.list.length = j from by show 8 + j - 8 = j; omega, List.getElem?_append_left (by rw [bv_length]; exact h)]
theorem hcl_getN (s : St) (r : List Int) (n : Nat) (h : r.length = 64) : (hcl s r n)[73]? = some (.int .i64 n) := by
  unfold hcl
  rw [show 73 = 72 + 1 from rfl, List.getElem?_cons_succ, List.getElem?_append_right (by rw [uv_length]; show 8 ≤ 72; omega), uv_length, show 72 - s.list.length = 64 from rfl, List.getElem?_append_right (by rw [bv_length, h]; exact Nat.le_refl _), bv_length, h]
  rfl
theorem hcl_splice (s : St) (r x : List Int) (n c : Nat) (h : c + x.length ≤ r.length) : splice (hcl s r n) (9 + c) (bv x) = hcl s (splice r c x) n := by
  have e8 : (uv s.list).length = 8 := rfl
  unfold splice hcl
  rw [show 9 + c = (8 + c) + 1 from by omega, List.take_succ_cons, show 8 + c + 1 + (bv x).length = (8 + (c + (bv x).length)) + 1 from by omega, List.drop_succ_cons, ← e8, List.take_length_add_append, List.drop_length_add_append, bv_length]
  rw [List.take_append_of_le_length (by rw [bv_length]; omega), List.drop_append_of_le_length (by rw [bv_length]; omega)]
  simp [bv, List.map_take, List.map_drop]
theorem hcl_count (s : St) (r : List Int) (n n' : Nat) (h : r.length = 64) : (hcl s r n).set 73 (.int .i64 n') = hcl s r n' := by
  unfold hcl
  rw [show 73 = 72 + 1 from rfl, List.set_cons_succ, List.set_append_right _ _ (by rw [uv_length]; show 8 ≤ 72; omega), uv_length, show 72 - s.list.length = 64 from rfl, List.set_append_right _ _ (by rw [bv_length, h]; exact Nat.le_refl _), bv_length, h]
  rfl
theorem hcl_state (s s' : St) (r : List Int) (n : Nat) : splice (hcl s r n) 1 (uv s'.list) = hcl s' r n := by
  have e8 : (uv s'.list).length = (uv s.list).length := rfl
  unfold splice hcl
  rw [show 1 + (uv s'.list).length = (uv s.list).length + 1 from by rw [e8]; omega, List.drop_succ_cons, List.drop_left, show (1 : Nat) = 0 + 1 from rfl, List.take_succ_cons, List.take_zero]
  rfl
/-- the row behind a store into its midst -/
theorem heap_set_splice {w : World} {g o : Nat} {t : TypeId} {cur vs : List Value} (h : w.heap[g]? = some (.cells cur.toArray t (0, 0))) (hl : o + vs.length ≤ cur.length) : (w.setCells g o vs).heap[g]? = some (.cells (splice cur o vs).toArray t (0, 0)) := by
  obtain ⟨cs', e1, e2, e3⟩ := heap_setCells g t vs o w cur.toArray (by rw [List.size_toArray]; exact hl) h
  rw [e1]
  have : cs' = (splice cur o vs).toArray := by
    apply Array.ext_getElem?
    intro j
    rw [e3 j, List.getElem?_toArray, List.getElem?_toArray]
    unfold splice
    by_cases h1 : j < o
    · rw [if_neg (by omega), List.getElem?_append_left (by rw [List.length_take]; omega), List.getElem?_take, if_pos h1]
    · rw [List.getElem?_append_right (by rw [List.length_take]; omega), List.length_take, Nat.min_eq_left (by omega)]
      by_cases h2 : j < o + vs.length
      · rw [if_pos (by omega), List.getElem?_append_left (by omega)]
      · rw [if_neg (by omega), List.getElem?_append_right (by omega), List.getElem?_drop]
        congr 1; omega
  rw [this]
/-- the rest that belongs to the bytes l -/
structure Rst (l r : List Int) : Prop where
  len : r.length = 64
  byt : Byt r
  eq : r.take (l.length % 64) = l.drop (64 * (l.length / 64))
theorem chn_app (l x : List Int) (i : Nat) (h : 64 * i ≤ l.length) : chn (l ++ x) i = chn l i := by
  induction i with
  | zero => rfl
  | succ i ih =>
    show blk (chn (l ++ x) i) (((l ++ x).drop (64 * i)).take 64) = blk (chn l i) ((l.drop (64 * i)).take 64)
    rw [ih (by omega), List.drop_append_of_le_length (by omega), List.take_append_of_le_length (by rw [List.length_drop]; omega)]
theorem splice_len {l r : List Int} (h : Rst l r) (x : List Int) (hx : l.length % 64 + x.length ≤ 64) : (splice r (l.length % 64) x).length = 64 := by
  rw [length_splice _ _ _ (by rw [h.len]; exact hx), h.len]
theorem splice_byt {l r : List Int} (h : Rst l r) {x : List Int} (hb : Byt x) : Byt (splice r (l.length % 64) x) := by
  unfold splice
  exact (h.byt.take _).append (hb.append (fun c hc => h.byt c (List.mem_of_mem_drop hc)))
theorem splice_take {l r : List Int} (h : Rst l r) (x : List Int) (hx : l.length % 64 + x.length ≤ 64) : (splice r (l.length % 64) x).take (l.length % 64 + x.length) = (l ++ x).drop (64 * (l.length / 64)) := by
  have e1 : (r.take (l.length % 64)).length = l.length % 64 := by rw [List.length_take, h.len]; omega
  unfold splice
  rw [← List.append_assoc, List.take_append_of_le_length (by rw [List.length_append, e1]; exact Nat.le_refl _), List.take_of_length_le (by rw [List.length_append, e1]; exact Nat.le_refl _), h.eq, List.drop_append_of_le_length (by omega)]
/-- bytes that leave the block open -/
theorem Rst.open {l r : List Int} (h : Rst l r) {x : List Int} (hb : Byt x) (hx : l.length % 64 + x.length < 64) : Rst (l ++ x) (splice r (l.length % 64) x) ∧ chn (l ++ x) ((l ++ x).length / 64) = chn l (l.length / 64) := by
  have e1 : (l ++ x).length % 64 = l.length % 64 + x.length := by rw [List.length_append]; omega
  have e2 : (l ++ x).length / 64 = l.length / 64 := by rw [List.length_append]; omega
  refine ⟨⟨splice_len h x (by omega), splice_byt h hb, ?_⟩, ?_⟩
  · rw [e1, e2]; exact splice_take h x (by omega)
  · rw [e2]; exact chn_app l x _ (by omega)
/-- bytes that fill the block -/
theorem Rst.full {l r : List Int} (h : Rst l r) {x : List Int} (hb : Byt x) (hx : l.length % 64 + x.length = 64) : Rst (l ++ x) (splice r (l.length % 64) x) ∧ chn (l ++ x) ((l ++ x).length / 64) = blk (chn l (l.length / 64)) (splice r (l.length % 64) x) := by
  have e1 : (l ++ x).length % 64 = 0 := by rw [List.length_append]; omega
  have e2 : (l ++ x).length / 64 = l.length / 64 + 1 := by rw [List.length_append]; omega
  have e3 := splice_take h x (by omega)
  have e4 := splice_len h x (by omega)
  rw [hx, List.take_of_length_le (by omega)] at e3
  refine ⟨⟨e4, splice_byt h hb, ?_⟩, ?_⟩
  · rw [e1, List.take_zero, List.drop_eq_nil_of_le (by omega)]
  · rw [e2]
    show blk (chn (l ++ x) (l.length / 64)) (((l ++ x).drop (64 * (l.length / 64))).take 64) = _
    rw [chn_app l x _ (by omega), ← e3, List.take_of_length_le (by omega)]
theorem rst_nil : Rst [] (List.replicate 64 0) := ⟨by simp, by intro c hc; rw [List.eq_of_mem_replicate hc]; decide, rfl⟩

/-- all but the block g stays -/
structure But (g : Nat) (w w' : World) : Prop where
  os : w'.os = w.os
  tape : w'.tape = w.tape
  output : w'.output = w.output
  size : w.heap.size ≤ w'.heap.size
  block : ∀ k, k < w.heap.size → k ≠ g → w'.heap[k]? = w.heap[k]?
theorem But.refl (g : Nat) (w : World) : But g w w := ⟨rfl, rfl, rfl, Nat.le_refl _, fun _ _ _ => rfl⟩
theorem But.trans {g : Nat} {a b c : World} (h : But g a b) (k : But g b c) : But g a c :=
  ⟨k.os.trans h.os, k.tape.trans h.tape, k.output.trans h.output, Nat.le_trans h.size k.size, fun j hj hg => (k.block j (Nat.lt_of_lt_of_le hj h.size) hg).trans (h.block j hj hg)⟩
theorem But.of_below {g : Nat} {w w' : World} (h : Below w.heap.size w w') : But g w w' := ⟨h.os, h.tape, h.output, h.size, fun k hk _ => h.block k hk⟩
theorem But.low {g B : Nat} {w w' : World} (h : But g w w') (hB : B ≤ g) (hs : B ≤ w.heap.size) : Below B w w' := ⟨h.os, h.tape, h.output, h.size, fun k hk => h.block k (Nat.lt_of_lt_of_le hk hs) (by omega)⟩
theorem But.drewN {g : Nat} {a w : World} (h : But g a w) (n : Nat) : But g a (w.drewN n) := ⟨h.os, h.tape, h.output, h.size, h.block⟩
/-- from what is below the block g: the block itself may turn -/
theorem But.of_low {g : Nat} {w w' : World} (h : Below g w w') (hk : ∀ k, k < w.heap.size → k ≠ g → ¬ k < g → w'.heap[k]? = w.heap[k]?) : But g w w' :=
  ⟨h.os, h.tape, h.output, h.size, fun k h1 h2 => if h3 : k < g then h.block k h3 else hk k h1 h2 h3⟩
theorem But.setCell {g : Nat} {a w : World} (h : But g a w) (o : Nat) (v : Value) : But g a (w.setCell ⟨g, o, none⟩ v) := by
  have hb := (Below.refl 0 w).setCell (p := ⟨g, o, none⟩) (Nat.zero_le _) v
  exact h.trans ⟨hb.os, hb.tape, hb.output, hb.size, fun k _ hk => heap_setCell_other w ⟨g, o, none⟩ k v hk⟩
theorem But.setCells {g : Nat} {a w : World} (h : But g a w) : ∀ (vs : List Value) (o : Nat), But g a (w.setCells g o vs) := by
  intro vs
  induction vs generalizing w with
  | nil => intro o; exact h
  | cons v r ih => intro o; exact ih (h.setCell o v) (o + 1)
theorem Bts.but {g : Nat} {w w' : World} {ao : Option Addr} {len cap : Nat} {l : List Int} (h : Bts w ao len cap l) (hb : But g w w') (ha : 0 < len → ∀ p, ao = some p → p.block ≠ g) : Bts w' ao len cap l :=
  ⟨h.len_eq, h.byt, h.le_cap, h.cap_le, h.nil, fun hp => by
    obtain ⟨b, off, e, hlt, hc⟩ := h.spot hp
    exact ⟨b, off, e, Nat.lt_of_lt_of_le hlt hb.size, fun i hi => (World.cell?_of_block (w := w) (hb.block b hlt (ha hp _ e))).trans (hc i hi)⟩⟩
/-- the tail of a row -/
theorem Bts.tail {w : World} {b o len cap n : Nat} {l : List Int} (h : Bts w (some ⟨b, o, none⟩) len cap l) (hn : n ≤ len) : Bts w (some ⟨b, o + n, none⟩) (len - n) (cap - n) (l.drop n) := by
  have hl := h.len_eq
  have hc := h.le_cap
  have hm := h.cap_le
  refine ⟨by rw [List.length_drop]; omega, fun c hc => h.byt c (List.mem_of_mem_drop hc), by omega, by omega, (fun hh => by cases hh), fun hp => ?_⟩
  obtain ⟨b', o', e, hlt, hcl⟩ := h.spot (by omega)
  cases e
  refine ⟨b, o + n, rfl, hlt, fun i hi => ?_⟩
  rw [Nat.add_assoc, hcl (n + i) (by omega)]
  simp only [List.getD_eq_getElem?_getD, List.getElem?_drop]
theorem Bts.none {w : World} {ao : Option Addr} {l : List Int} (hl : l = []) : Bts w ao 0 0 l :=
  ⟨by rw [hl]; rfl, by rw [hl]; exact Byt.nil, Nat.le_refl _, Nat.zero_le _, fun _ => rfl, fun hp => absurd hp (Nat.lt_irrefl _)⟩
theorem but_setRow (g : Nat) (w : World) (cs : Array Value) : But g w (w.setRow g cs) := ⟨rfl, rfl, rfl, by simp [World.setRow], fun k _ hk => setRow_other w g k cs hk⟩
/-- a copy into the midst of a row, inside a region that draws its order: all else stays -/
theorem step_copy_but {P : Program} {ops : Array Oper} {o : Oper} {a : Act} {w : World} {K : Act → World → Prop} {Q : Exit → Act → World → Prop} {E : Prop} (hgd : o.guard = none) (d s : Operand) (dT sT : TypeId)
    (ho : o.op = .call { callee := .builtin .copy, args := #[d, s], argTypes := #[dT, sT] }) (elem : TypeId) (hu : P.underlying dT = some (.slice elem)) (hsz : (P.info? elem).map (·.size) = some 1)
    (g off dLen dCap : Nat) (ad : Addr) (sLen sCap : Nat) (hd : a.eval d = .slice (some ⟨g, off, none⟩) dLen dCap) (hs : a.eval s = .slice (some ad) sLen sCap)
    (cur : List Value) (t : TypeId) (hg : w.heap[g]? = some (.cells cur.toArray t (0, 0))) (cs : List Value) (hn : cs.length = Nat.min sLen dLen)
    (hsrc : ∀ j v, cs[j]? = some v → w.cell? (ad.add j) = some v) (hfit : off + cs.length ≤ cur.length) (h1 : ∀ v ∈ cs, v.oneCell' = true)
    (h : ∀ w', Hid (w'.heap[g]? = some (.cells (splice cur off cs).toArray t (0, 0))) → But g w w' → K (a.put o.dst (goInt cs.length)) w') :
    if Region.wanted o (yielded ops a.tmps) = true then Oper.wp P o a w K Q else E := by
  have hw : Region.wanted o (yielded ops a.tmps) = true := by simp [Region.wanted, hgd]
  rw [if_pos hw]
  have hrun := run_copy_row (P := P) w dT sT o.type elem g off dLen dCap ad sLen sCap cur.toArray t cs hu hsz hg hn hsrc (by simpa using hfit) h1
  unfold Oper.wp
  simp [execOp, ho, resolve, invoke, builtin, hd, hs, hrun, Result.andThen]
  exact h _ (show _ = _ by simpa [splice] using setRow_heap w g _ _ t _ hg) (but_setRow g w _)
/-- a store of a whole row, inside a region that draws its order -/
theorem step_store_mid {P : Program} {ops : Array Oper} {o : Oper} {a : Act} {w : World} {K : Act → World → Prop} {Q : Exit → Act → World → Prop} {E : Prop} (hgd : o.guard = none) (ty : TypeId) (x y : Operand) (ho : o.op = .store ty x y)
    (b off : Nat) (cells : Array Value) (hx : a.eval x = .pointer (some ⟨b, off, none⟩)) (hy : a.eval y = .agg cells)
    (ht : w.there b off cells.size) (hi : (P.info? ty).map (·.size) = some cells.size) (h1 : cells.all (·.oneCell') = true)
    (h : K (a.put o.dst undef) (w.setCells b off cells.toList)) :
    if Region.wanted o (yielded ops a.tmps) = true then Oper.wp P o a w K Q else E := by
  have hw : Region.wanted o (yielded ops a.tmps) = true := by simp [Region.wanted, hgd]
  rw [if_pos hw]
  exact wp_store_mid ty x y ho b off cells hx hy ht hi h1 h
end Go.Proofs.YtfkloilbjfleeaaDoor
