/- What Pad answers: what stands behind a text of any length. A hash in memory, and what adding bytes makes of it: no walk. -/
import Derived.Test.YtbednfacipphhaaDoorAuas
import Derived.Laws.CopyOwn
import Derived.Test.YtbednfacipphhaaDoorAuar
namespace Go.Proofs.YtbednfacipphhaaDoor
open Go.RowKit
set_option linter.unusedVariables false

set_option maxRecDepth 100000 in
theorem owns_full {w : World} {base g n : Nat} {e : TypeId} {xs : List Value} (h : w.ownsRow base e 1 (.slice (some ⟨g, 0, none⟩) n n) n xs) (hn : 1 ≤ n) : w.heap[g]? = some (.cells xs.toArray e (0, 0)) ∧ base ≤ g := by
  rcases h.2 with ⟨h1, _⟩ | ⟨g', cap, cur, hv, hb, hg, _, _, hs, ht⟩
  · cases h1
  · cases hv
    refine ⟨?_, hb⟩
    rw [hg, ← ht, List.take_of_length_le (by rw [Array.length_toList]; omega)]
set_option maxRecDepth 100000 in
theorem full_owns {w : World} {base g n : Nat} {e : TypeId} {xs : List Value} (h : w.heap[g]? = some (.cells xs.toArray e (0, 0))) (hl : xs.length = n) (hb : base ≤ g) (hm : n ≤ maxLen) : w.ownsRow base e 1 (.slice (some ⟨g, 0, none⟩) n n) n xs :=
  ⟨by rw [hl, Nat.mul_one], .inr ⟨g, n, xs.toArray, rfl, hb, h, Nat.le_refl _, hm, by rw [List.size_toArray, hl, Nat.mul_one], by rw [List.take_of_length_le (by simp; omega)]⟩⟩
set_option maxRecDepth 100000 in
theorem pad_zeros (n : Int) (h0 : 0 ≤ n) (h1 : n ≤ 18446744073709551615) : (IntKind.u64.wrap (-(IntKind.u64.wrap (IntKind.u64.wrap (n + 1) + 8)))).tmod 64 = (padZ n : Int) := by
  rw [IntKind.wrap_u64, IntKind.wrap_u64, IntKind.wrap_u64, Int.tmod_eq_emod_of_nonneg (by omega)]
  unfold padZ; omega
set_option maxRecDepth 100000 in
theorem pad_row (n : Int) : splice (bv (128 :: List.replicate (padZ n + 8) 0)) (1 + padZ n) (bv (putL (8 * n % 18446744073709551616) 8)) = bv (padL n) := by
  unfold splice padL
  rw [bv_length, putL_length, ← List.append_assoc]
  have e1 : (bv (128 :: List.replicate (padZ n + 8) 0)).take (1 + padZ n) = bv (128 :: List.replicate (padZ n) 0) := by
    unfold bv; rw [← List.map_take, show 1 + padZ n = padZ n + 1 from by omega, List.take_succ_cons, List.take_replicate]
    congr 2; congr 1; omega
  have e2 : (bv (128 :: List.replicate (padZ n + 8) 0)).drop (1 + padZ n + 8) = [] := by
    apply List.drop_eq_nil_of_le; rw [bv_length]; simp; omega
  rw [e1, e2, List.append_nil, ← bv_append]
set_option maxRecDepth 100000 in
theorem pad_set (k : Nat) : (List.replicate (k + 9) (Value.int .u8 0)).set 0 (.int .u8 128) = bv (128 :: List.replicate (k + 8) 0) := by
  rw [show k + 9 = k + 8 + 1 from rfl, List.replicate_succ, List.set_cons_zero]; unfold bv; simp
set_option maxRecDepth 100000 in
theorem pad_off (z : Nat) : (1 + (z : Int)).toNat = 1 + z := by omega
set_option maxRecDepth 100000 in
theorem pad_min (z : Nat) {l : List Value} (h : l.length = 8) : l.length = Nat.min 8 (z + 9 - (1 + (z : Int)).toNat) := by
  rw [pad_off, h, show z + 9 - (1 + z) = 8 from by omega]; rfl
set_option maxRecDepth 100000 in
theorem pad_pos {w : World} {N z : Nat} {ad : Addr} {cs : List Value} (h : ∀ j v, cs[j]? = some v → w.cell? (ad.add j) = some v) :
    0 < cs.length → some (⟨N, (1 + (z : Int)).toNat, none⟩ : Addr) = some ⟨N, 1 + z, none⟩ ∧ ∃ a, some ad = some a ∧ ∀ j v, cs[j]? = some v → w.cell? (a.add j) = some v :=
  fun _ => ⟨by rw [pad_off], ad, rfl, h⟩
set_option maxRecDepth 100000 in
theorem Tryd.size5 : (Tryd.prog.info? 5).map (·.size) = some 1 := by kernel_rfl

set_option maxRecDepth 100000 in
set_option maxHeartbeats 400000 in
theorem pad_any (n : Int) (w : World) (h0 : 0 ≤ n) (h1 : n ≤ 18446744073709551615) :
    Calls Tryd.prog 103 #[.int .u64 n] w fun e w' => ∃ v, e = .returned v ∧ w'.ownsRow w.heap.size 5 1 v (padL n).length (bv (padL n)) ∧ Below w.heap.size w w' := by
  obtain ⟨i0, hi, hz0, hz1, hz2⟩ := info_parts Tryd.info5
  have hz := padZ_le n
  have hzz := pad_zeros n h0 h1
  have HP := pad_row n
  have HPL := padL_length n
  obtain ⟨z, hzd⟩ : ∃ z, z = padZ n := ⟨_, rfl⟩
  rw [← hzd] at hz hzz HP HPL
  replace HP : Hid (splice (bv (128 :: List.replicate (z + 8) 0)) (1 + z) (bv (putL (8 * n % 18446744073709551616) 8)) = bv (padL n)) := HP
  replace HPL : Hid ((padL n).length = z + 9) := HPL
  clear hzd
  have h8n : IntKind.u64.wrap (8 * n) = 8 * n % 18446744073709551616 := IntKind.wrap_u64 _
  go_enter Tryd.func103, Tryd.ntmps103
  go_wp2_with (at_make; refine wpList_make_full _ rfl _ _ 22 rfl w.heap.size 5 i0 (.int .u8 0) 1 Tryd.underlying22 hi hz0 hz1 _ _ _ _ (z + 9) rfl rfl (by omega) (by omega) (by rw [hz2]; omega) (by unfold maxLen; omega) (Nat.le_refl _) ?_)
  intro w1 hown hgrow
  rw [toList_madeCells_one] at hown
  have hb1 : Below w.heap.size w w1 := (Below.refl _ _).grown hgrow (Nat.le_refl _) (by intro k hk; cases hk)
  obtain ⟨c0, hc⟩ := owns_cell hown 0 (by omega)
  have hf := hown.frozenAt 0
  have hst := hown.stored 0 (.int .u8 128)
  rw [pad_set z] at hst
  have hb2 := hb1.grown hst.2 hb1.size (by intro j hj; cases hj; exact Nat.le_refl _)
  have hown2 := hst.1
  obtain ⟨hrow, _⟩ := owns_full hown2 (by omega)
  clear hgrow hi hz0 hz1 hz2 hown hst hown2
  go_wp2
  generalize w1.setCell ⟨w.heap.size, 0, none⟩ (.int .u8 128) = w2 at hb2 hrow ⊢
  clear hb1 hc hf
  have z1 : (0 : Int) ≤ 1 + (z : Int) := by omega
  have z2 : 1 + (z : Int) ≤ (z : Int) + 9 := by omega
  have z3 : IntKind.u64.wrap (1 + (z : Int)) = 1 + (z : Int) := by rw [IntKind.wrap_u64]; omega
  have hd := hb2.drew
  have hrd : w2.drew.heap[w.heap.size]? = some (.cells (bv (128 :: List.replicate (z + 8) 0)).toArray 5 (0, 0)) := hrow
  have hlt : w.heap.size < w2.drew.heap.size := (Array.getElem?_eq_some_iff.1 hrd).1
  have HL2 : Hid ((bv (128 :: List.replicate (z + 8) 0)).length = z + 9) := by show _ = _; rw [bv_length]; simp
  have HQ : Hid ((bv (putL (8 * n % 18446744073709551616) 8)).length = 8) := by show _ = _; rw [bv_length, putL_length]
  clear hd hrd
  go_region_held3 (fun _ => True) (trivial) (first | (go_at_call 50; refine (put_some (8 * n % 18446744073709551616) 8 _ (by decide) (by decide) (by omega) (by omega)).mono ?_; rintro e w3 ⟨v3, rfl, hown3, hb3⟩; obtain ⟨a3, cap3, rfl, hm3⟩ := Bts.of_owns hown3 (putL_byt _ _); obtain ⟨g3, o3, rfl, _, _⟩ := hm3.spot (by decide); have hcl := hm3.cells; have hg3 := (hb3.block _ hlt).trans hrow; have hB3 := hb2.drew.trans (hb3.mono (Nat.le_of_lt hlt)); clear hown3 hm3 hb3) | (refine step_copy_splice rfl (.tmp 19) (.tmp 22) 22 22 rfl 5 Tryd.underlying22 Tryd.size5 _ _ _ _ _ _ (by rfl) (by rfl) w.heap.size (1 + z) (bv (128 :: List.replicate (z + 8) 0)) 5 hg3 (bv (putL (8 * n % 18446744073709551616) 8)) (pad_min z HQ.out) (pad_pos hcl) (by rw [HQ.out, HL2.out]; omega) (bv_one _) w.heap.size w hB3 (Nat.le_refl _) ?_; intro w4 hg4 hb4))
  have hfin : w4.ownsRow w.heap.size 5 1 (.slice (some ⟨w.heap.size, 0, none⟩) (z + 9) (z + 9)) (padL n).length (bv (padL n)) := by
    have h4 := hg4.out
    rw [HP.out] at h4
    rw [HPL.out]
    exact full_owns h4 (by rw [bv_length, HPL.out]) (Nat.le_refl _) (by unfold maxLen; omega)
  clear hg4 hcl hg3 hB3 hrow hlt HP
  go_wp2
  go_ret
  exact ⟨_, rfl, hfin, hb4⟩
end Go.Proofs.YtbednfacipphhaaDoor
namespace Go.Proofs.YtbednfacipphhaaDoor
open Go.RowKit
set_option linter.unusedVariables false

/-- the cells of a hash: that it was made, the state, the rest, the count -/
def hcl (s : St) (r : List Int) (n : Nat) : List Value := Value.bool true :: (uv s.list ++ (bv r ++ [Value.int .i64 n]))
set_option maxRecDepth 100000 in
theorem hcl_length (s : St) (r : List Int) (n : Nat) (h : r.length = 64) : (hcl s r n).length = 74 := by
  unfold hcl; rw [List.length_cons, List.length_append, List.length_append, uv_length, bv_length, h]; rfl
set_option maxRecDepth 100000 in
theorem hcl_one (s : St) (r : List Int) (n : Nat) : ∀ u ∈ hcl s r n, u.oneCell' = true := by
  intro u hu
  simp only [hcl, List.mem_cons, List.mem_append, List.not_mem_nil, or_false] at hu
  rcases hu with rfl | hu | hu | rfl
  · rfl
  · exact uv_one _ u hu
  · exact bv_one _ u hu
  · rfl
set_option maxRecDepth 100000 in
theorem hcl_get0 (s : St) (r : List Int) (n : Nat) : (hcl s r n)[0]? = some (.bool true) := rfl
set_option maxRecDepth 100000 in
theorem hcl_getS (s : St) (r : List Int) (n j : Nat) (h : j < 8) : (hcl s r n)[1 + j]? = (uv s.list)[j]? := by
  unfold hcl; rw [show 1 + j = j + 1 from by omega, List.getElem?_cons_succ, List.getElem?_append_left (by rw [uv_length]; exact h)]
set_option maxRecDepth 100000 in
theorem hcl_getR (s : St) (r : List Int) (n j : Nat) (h : j < r.length) : (hcl s r n)[9 + j]? = (bv r)[j]? := by
  unfold hcl
  rw [show 9 + j = (8 + j) + 1 from by omega, List.getElem?_cons_succ, List.getElem?_append_right (by rw [uv_length]; show 8 ≤ 8 + j; omega), uv_length, show 8 + j - s.list.length = j from by show 8 + j - 8 = j; omega, List.getElem?_append_left (by rw [bv_length]; exact h)]
set_option maxRecDepth 100000 in
theorem hcl_getN (s : St) (r : List Int) (n : Nat) (h : r.length = 64) : (hcl s r n)[73]? = some (.int .i64 n) := by
  unfold hcl
  rw [show 73 = 72 + 1 from rfl, List.getElem?_cons_succ, List.getElem?_append_right (by rw [uv_length]; show 8 ≤ 72; omega), uv_length, show 72 - s.list.length = 64 from rfl, List.getElem?_append_right (by rw [bv_length, h]; exact Nat.le_refl _), bv_length, h]
  rfl
set_option maxRecDepth 100000 in
theorem hcl_splice (s : St) (r x : List Int) (n c : Nat) (h : c + x.length ≤ r.length) : splice (hcl s r n) (9 + c) (bv x) = hcl s (splice r c x) n := by
  have e8 : (uv s.list).length = 8 := rfl
  unfold splice hcl
  rw [show 9 + c = (8 + c) + 1 from by omega, List.take_succ_cons, show 8 + c + 1 + (bv x).length = (8 + (c + (bv x).length)) + 1 from by omega, List.drop_succ_cons, ← e8, List.take_length_add_append, List.drop_length_add_append, bv_length]
  rw [List.take_append_of_le_length (by rw [bv_length]; omega), List.drop_append_of_le_length (by rw [bv_length]; omega)]
  simp [bv, List.map_take, List.map_drop]
set_option maxRecDepth 100000 in
theorem hcl_count (s : St) (r : List Int) (n n' : Nat) (h : r.length = 64) : (hcl s r n).set 73 (.int .i64 n') = hcl s r n' := by
  unfold hcl
  rw [show 73 = 72 + 1 from rfl, List.set_cons_succ, List.set_append_right _ _ (by rw [uv_length]; show 8 ≤ 72; omega), uv_length, show 72 - s.list.length = 64 from rfl, List.set_append_right _ _ (by rw [bv_length, h]; exact Nat.le_refl _), bv_length, h]
  rfl
set_option maxRecDepth 100000 in
theorem hcl_state (s s' : St) (r : List Int) (n : Nat) : splice (hcl s r n) 1 (uv s'.list) = hcl s' r n := by
  have e8 : (uv s'.list).length = (uv s.list).length := rfl
  unfold splice hcl
  rw [show 1 + (uv s'.list).length = (uv s.list).length + 1 from by rw [e8]; omega, List.drop_succ_cons, List.drop_left, show (1 : Nat) = 0 + 1 from rfl, List.take_succ_cons, List.take_zero]
  rfl
set_option maxRecDepth 100000 in
/-- the row behind a store into its midst -/
theorem heap_set_splice {w : World} {g o : Nat} {t : TypeId} {cur vs : List Value} (h : w.heap[g]? = some (.cells cur.toArray t (0, 0))) (hl : o + vs.length ≤ cur.length) : (w.setCells g o vs).heap[g]? = some (.cells (splice cur o vs).toArray t (0, 0)) := by
  obtain ⟨cs', e1, e2, e3⟩ := heap_setCells g t vs o w cur.toArray (by rw [List.size_toArray]; exact hl) h
  rw [e1]
  have : cs' = (splice cur o vs).toArray := by
    apply Array.ext_getElem?
    intro j
    rw [e3 j, List.getElem?_toArray, List.getElem?_toArray]
    unfold splice
    by_cases h1 : j < o
    · rw [if_neg (by omega), List.getElem?_append_left (by rw [List.length_take]; omega), List.getElem?_take, if_pos h1]
    · rw [List.getElem?_append_right (by rw [List.length_take]; omega), List.length_take, Nat.min_eq_left (by omega)]
      by_cases h2 : j < o + vs.length
      · rw [if_pos (by omega), List.getElem?_append_left (by omega)]
      · rw [if_neg (by omega), List.getElem?_append_right (by omega), List.getElem?_drop]
        congr 1; omega
  rw [this]
/-- the rest that belongs to the bytes l -/
structure Rst (l r : List Int) : Prop where
  len : r.length = 64
  byt : Byt r
  eq : r.take (l.length % 64) = l.drop (64 * (l.length / 64))
set_option maxRecDepth 100000 in
theorem chn_app (l x : List Int) (i : Nat) (h : 64 * i ≤ l.length) : chn (l ++ x) i = chn l i := by
  induction i with
  | zero => rfl
  | succ i ih =>
    show blk (chn (l ++ x) i) (((l ++ x).drop (64 * i)).take 64) = blk (chn l i) ((l.drop (64 * i)).take 64)
    rw [ih (by omega), List.drop_append_of_le_length (by omega), List.take_append_of_le_length (by rw [List.length_drop]; omega)]
set_option maxRecDepth 100000 in
theorem splice_len {l r : List Int} (h : Rst l r) (x : List Int) (hx : l.length % 64 + x.length ≤ 64) : (splice r (l.length % 64) x).length = 64 := by
  rw [length_splice _ _ _ (by rw [h.len]; exact hx), h.len]
set_option maxRecDepth 100000 in
theorem splice_byt {l r : List Int} (h : Rst l r) {x : List Int} (hb : Byt x) : Byt (splice r (l.length % 64) x) := by
  unfold splice
  exact (h.byt.take _).append (hb.append (fun c hc => h.byt c (List.mem_of_mem_drop hc)))
set_option maxRecDepth 100000 in
theorem splice_take {l r : List Int} (h : Rst l r) (x : List Int) (hx : l.length % 64 + x.length ≤ 64) : (splice r (l.length % 64) x).take (l.length % 64 + x.length) = (l ++ x).drop (64 * (l.length / 64)) := by
  have e1 : (r.take (l.length % 64)).length = l.length % 64 := by rw [List.length_take, h.len]; omega
  unfold splice
  rw [← List.append_assoc, List.take_append_of_le_length (by rw [List.length_append, e1]; exact Nat.le_refl _), List.take_of_length_le (by rw [List.length_append, e1]; exact Nat.le_refl _), h.eq, List.drop_append_of_le_length (by omega)]
set_option maxRecDepth 100000 in
/-- bytes that leave the block open -/
theorem Rst.open {l r : List Int} (h : Rst l r) {x : List Int} (hb : Byt x) (hx : l.length % 64 + x.length < 64) : Rst (l ++ x) (splice r (l.length % 64) x) ∧ chn (l ++ x) ((l ++ x).length / 64) = chn l (l.length / 64) := by
  have e1 : (l ++ x).length % 64 = l.length % 64 + x.length := by rw [List.length_append]; omega
  have e2 : (l ++ x).length / 64 = l.length / 64 := by rw [List.length_append]; omega
  refine ⟨⟨splice_len h x (by omega), splice_byt h hb, ?_⟩, ?_⟩
  · rw [e1, e2]; exact splice_take h x (by omega)
  · rw [e2]; exact chn_app l x _ (by omega)
set_option maxRecDepth 100000 in
/-- bytes that fill the block -/
theorem Rst.full {l r : List Int} (h : Rst l r) {x : List Int} (hb : Byt x) (hx : l.length % 64 + x.length = 64) : Rst (l ++ x) (splice r (l.length % 64) x) ∧ chn (l ++ x) ((l ++ x).length / 64) = blk (chn l (l.length / 64)) (splice r (l.length % 64) x) := by
  have e1 : (l ++ x).length % 64 = 0 := by rw [List.length_append]; omega
  have e2 : (l ++ x).length / 64 = l.length / 64 + 1 := by rw [List.length_append]; omega
  have e3 := splice_take h x (by omega)
  have e4 := splice_len h x (by omega)
  rw [hx, List.take_of_length_le (by omega)] at e3
  refine ⟨⟨e4, splice_byt h hb, ?_⟩, ?_⟩
  · rw [e1, List.take_zero, List.drop_eq_nil_of_le (by omega)]
  · rw [e2]
    show blk (chn (l ++ x) (l.length / 64)) (((l ++ x).drop (64 * (l.length / 64))).take 64) = _
    rw [chn_app l x _ (by omega), ← e3, List.take_of_length_le (by omega)]
set_option maxRecDepth 100000 in
theorem rst_nil : Rst [] (List.replicate 64 0) := ⟨by simp, by intro c hc; rw [List.eq_of_mem_replicate hc]; decide, rfl⟩

/-- all but the block g stays -/
structure But (g : Nat) (w w' : World) : Prop where
  os : w'.os = w.os
  tape : w'.tape = w.tape
  output : w'.output = w.output
  size : w.heap.size ≤ w'.heap.size
  block : ∀ k, k < w.heap.size → k ≠ g → w'.heap[k]? = w.heap[k]?
set_option maxRecDepth 100000 in
theorem But.refl (g : Nat) (w : World) : But g w w := ⟨rfl, rfl, rfl, Nat.le_refl _, fun _ _ _ => rfl⟩
set_option maxRecDepth 100000 in
theorem But.trans {g : Nat} {a b c : World} (h : But g a b) (k : But g b c) : But g a c :=
  ⟨k.os.trans h.os, k.tape.trans h.tape, k.output.trans h.output, Nat.le_trans h.size k.size, fun j hj hg => (k.block j (Nat.lt_of_lt_of_le hj h.size) hg).trans (h.block j hj hg)⟩
set_option maxRecDepth 100000 in
theorem But.of_below {g : Nat} {w w' : World} (h : Below w.heap.size w w') : But g w w' := ⟨h.os, h.tape, h.output, h.size, fun k hk _ => h.block k hk⟩
set_option maxRecDepth 100000 in
theorem But.low {g B : Nat} {w w' : World} (h : But g w w') (hB : B ≤ g) (hs : B ≤ w.heap.size) : Below B w w' := ⟨h.os, h.tape, h.output, h.size, fun k hk => h.block k (Nat.lt_of_lt_of_le hk hs) (by omega)⟩
set_option maxRecDepth 100000 in
theorem But.drewN {g : Nat} {a w : World} (h : But g a w) (n : Nat) : But g a (w.drewN n) := ⟨h.os, h.tape, h.output, h.size, h.block⟩
set_option maxRecDepth 100000 in
/-- from what is below the block g: the block itself may turn -/
theorem But.of_low {g : Nat} {w w' : World} (h : Below g w w') (hk : ∀ k, k < w.heap.size → k ≠ g → ¬ k < g → w'.heap[k]? = w.heap[k]?) : But g w w' :=
  ⟨h.os, h.tape, h.output, h.size, fun k h1 h2 => if h3 : k < g then h.block k h3 else hk k h1 h2 h3⟩
set_option maxRecDepth 100000 in
theorem But.setCell {g : Nat} {a w : World} (h : But g a w) (o : Nat) (v : Value) : But g a (w.setCell ⟨g, o, none⟩ v) := by
  have hb := (Below.refl 0 w).setCell (p := ⟨g, o, none⟩) (Nat.zero_le _) v
  exact h.trans ⟨hb.os, hb.tape, hb.output, hb.size, fun k _ hk => heap_setCell_other w ⟨g, o, none⟩ k v hk⟩
set_option maxRecDepth 100000 in
theorem But.setCells {g : Nat} {a w : World} (h : But g a w) : ∀ (vs : List Value) (o : Nat), But g a (w.setCells g o vs) := by
  intro vs
  induction vs generalizing w with
  | nil => intro o; exact h
  | cons v r ih => intro o; exact ih (h.setCell o v) (o + 1)
set_option maxRecDepth 100000 in
theorem Bts.but {g : Nat} {w w' : World} {ao : Option Addr} {len cap : Nat} {l : List Int} (h : Bts w ao len cap l) (hb : But g w w') (ha : 0 < len → ∀ p, ao = some p → p.block ≠ g) : Bts w' ao len cap l :=
  ⟨h.len_eq, h.byt, h.le_cap, h.cap_le, h.nil, fun hp => by
    obtain ⟨b, off, e, hlt, hc⟩ := h.spot hp
    exact ⟨b, off, e, Nat.lt_of_lt_of_le hlt hb.size, fun i hi => (World.cell?_of_block (w := w) (hb.block b hlt (ha hp _ e))).trans (hc i hi)⟩⟩
set_option maxRecDepth 100000 in
/-- the tail of a row -/
theorem Bts.tail {w : World} {b o len cap n : Nat} {l : List Int} (h : Bts w (some ⟨b, o, none⟩) len cap l) (hn : n ≤ len) : Bts w (some ⟨b, o + n, none⟩) (len - n) (cap - n) (l.drop n) := by
  have hl := h.len_eq
  have hc := h.le_cap
  have hm := h.cap_le
  refine ⟨by rw [List.length_drop]; omega, fun c hc => h.byt c (List.mem_of_mem_drop hc), by omega, by omega, (fun hh => by cases hh), fun hp => ?_⟩
  obtain ⟨b', o', e, hlt, hcl⟩ := h.spot (by omega)
  cases e
  refine ⟨b, o + n, rfl, hlt, fun i hi => ?_⟩
  rw [Nat.add_assoc, hcl (n + i) (by omega)]
  simp only [List.getD_eq_getElem?_getD, List.getElem?_drop]
set_option maxRecDepth 100000 in
theorem Bts.none {w : World} {ao : Option Addr} {l : List Int} (hl : l = []) : Bts w ao 0 0 l :=
  ⟨by rw [hl]; rfl, by rw [hl]; exact Byt.nil, Nat.le_refl _, Nat.zero_le _, fun _ => rfl, fun hp => absurd hp (Nat.lt_irrefl _)⟩
set_option maxRecDepth 100000 in
theorem but_setRow (g : Nat) (w : World) (cs : Array Value) : But g w (w.setRow g cs) := ⟨rfl, rfl, rfl, by simp [World.setRow], fun k _ hk => setRow_other w g k cs hk⟩
set_option maxRecDepth 100000 in
/-- a copy into the midst of a row, inside a region that draws its order: all else stays -/
theorem step_copy_but {P : Program} {ops : Array Oper} {o : Oper} {a : Act} {w : World} {K : Act → World → Prop} {Q : Exit → Act → World → Prop} {E : Prop} (hgd : o.guard = none) (d s : Operand) (dT sT : TypeId)
    (ho : o.op = .call { callee := .builtin .copy, args := #[d, s], argTypes := #[dT, sT] }) (elem : TypeId) (hu : P.underlying dT = some (.slice elem)) (hsz : (P.info? elem).map (·.size) = some 1)
    (g off dLen dCap : Nat) (ad : Addr) (sLen sCap : Nat) (hd : a.eval d = .slice (some ⟨g, off, none⟩) dLen dCap) (hs : a.eval s = .slice (some ad) sLen sCap)
    (cur : List Value) (t : TypeId) (hg : w.heap[g]? = some (.cells cur.toArray t (0, 0))) (cs : List Value) (hn : cs.length = Nat.min sLen dLen)
    (hsrc : ∀ j v, cs[j]? = some v → w.cell? (ad.add j) = some v) (hfit : off + cs.length ≤ cur.length) (h1 : ∀ v ∈ cs, v.oneCell' = true)
    (h : ∀ w', Hid (w'.heap[g]? = some (.cells (splice cur off cs).toArray t (0, 0))) → But g w w' → K (a.put o.dst (goInt cs.length)) w') :
    if Region.wanted o (yielded ops a.tmps) = true then Oper.wp P o a w K Q else E := by
  have hw : Region.wanted o (yielded ops a.tmps) = true := by simp [Region.wanted, hgd]
  rw [if_pos hw]
  have hrun := run_copy_row (P := P) w dT sT o.type elem g off dLen dCap ad sLen sCap cur.toArray t cs hu hsz hg hn hsrc (by simpa using hfit) h1
  unfold Oper.wp
  simp [execOp, ho, resolve, invoke, builtin, hd, hs, hrun, Result.andThen]
  exact h _ (show _ = _ by simpa [splice] using setRow_heap w g _ _ t _ hg) (but_setRow g w _)
set_option maxRecDepth 100000 in
/-- a store of a whole row, inside a region that draws its order -/
theorem step_store_mid {P : Program} {ops : Array Oper} {o : Oper} {a : Act} {w : World} {K : Act → World → Prop} {Q : Exit → Act → World → Prop} {E : Prop} (hgd : o.guard = none) (ty : TypeId) (x y : Operand) (ho : o.op = .store ty x y)
    (b off : Nat) (cells : Array Value) (hx : a.eval x = .pointer (some ⟨b, off, none⟩)) (hy : a.eval y = .agg cells)
    (ht : w.there b off cells.size) (hi : (P.info? ty).map (·.size) = some cells.size) (h1 : cells.all (·.oneCell') = true)
    (h : K (a.put o.dst undef) (w.setCells b off cells.toList)) :
    if Region.wanted o (yielded ops a.tmps) = true then Oper.wp P o a w K Q else E := by
  have hw : Region.wanted o (yielded ops a.tmps) = true := by simp [Region.wanted, hgd]
  rw [if_pos hw]
  exact wp_store_mid ty x y ho b off cells hx hy ht hi h1 h
end Go.Proofs.YtbednfacipphhaaDoor
