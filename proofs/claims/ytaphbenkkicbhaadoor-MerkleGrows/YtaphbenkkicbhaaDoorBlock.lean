/- What Block and First answer, the package's table holding the chapter's numbers k. -/
import Derived.Test.YtaphbenkkicbhaaDoorMix
namespace Go.Proofs.YtaphbenkkicbhaaDoor
open Go.RowKit
set_option linter.unusedVariables false

set_option maxHeartbeats 400000 in
theorem first_any (w : World) :
    Calls Tryd.prog 54 #[] w fun e w' => e = .returned (.agg st0.cells) ∧ Below w.heap.size w w' := by
  go_enter Tryd.func54, Tryd.ntmps54
  go_wp2
  exact bodyPost_ret (v := .agg #[.int .u32 1779033703, .int .u32 3144134277, .int .u32 1013904242, .int .u32 2773480762, .int .u32 1359893119, .int .u32 2600822924, .int .u32 528734635, .int .u32 1541459225]) (by simp [results, Tryd.results54, go_sem]) rfl ⟨rfl, (Below.refl _ _).alloc (Nat.le_refl _) _⟩

/-- what stays while Block goes on, the state's row being l -/
structure BK (N : Nat) (l : List Int) (b : List Int) (w wr : World) : Prop where
  low : Below N w wr
  size : N + 3 ≤ wr.heap.size
  st : wr.heap[N]? = some (.cells (uv l).toArray 68 (0, 0))
  inp : wr.heap[N + 1]? = some (.cells (bv b).toArray 70 (0, 0))
  res : ∃ cs : Array Value, cs.size = 8 ∧ wr.heap[N + 1 + 1]? = some (.cells cs 68 (0, 0))
  tab : Tab wr
theorem BK.drewN {N : Nat} {l b : List Int} {w wr : World} (h : BK N l b w wr) (n : Nat) : BK N l b w (wr.drewN n) := ⟨below_drewN h.low n, h.size, h.st, h.inp, h.res, h.tab.drewN n⟩
theorem BK.step {N : Nat} {l b : List Int} {w wr w1 : World} (h : BK N l b w wr) (hb : Below wr.heap.size wr w1) : BK N l b w w1 := by
  have hs := h.size
  exact ⟨h.low.trans (hb.mono (by omega)), Nat.le_trans h.size hb.size, by rw [hb.block _ (by omega)]; exact h.st, by rw [hb.block _ (by omega)]; exact h.inp,
    by obtain ⟨cs, h1, h2⟩ := h.res; exact ⟨cs, h1, by rw [hb.block _ (by omega)]; exact h2⟩, h.tab.below hb⟩
theorem BK.store {N : Nat} {l b : List Int} {w wr : World} (h : BK N l b w wr) (hN : 0 < N) (j : Nat) (x : Int) : BK N (l.set j x) b w (wr.setCell ⟨N, j, none⟩ (.int .u32 x)) := by
  have hlow : Below N wr (wr.setCell ⟨N, j, none⟩ (.int .u32 x)) := (Below.refl N wr).setCell (p := ⟨N, j, none⟩) (Nat.le_refl _) _
  refine ⟨h.low.trans hlow, Nat.le_trans h.size hlow.size, ?_, by rw [heap_setCell_other _ _ _ _ (by show N + 1 ≠ N; omega)]; exact h.inp, ?_, ?_⟩
  · rw [heap_setCell_same _ _ _ _ _ _ h.st, uv_set]
  · obtain ⟨cs, h1, h2⟩ := h.res
    exact ⟨cs, h1, by rw [heap_setCell_other _ _ _ _ (by show N + 1 + 1 ≠ N; omega)]; exact h2⟩
  · exact ⟨Nat.lt_of_lt_of_le h.tab.pos hlow.size, fun i hi => (hlow.cell (p := ⟨0, i, none⟩) hN).trans (h.tab.cell i hi)⟩
theorem range_row {w : World} {g : Nat} {cs : Array Value} {t : TypeId} (h : w.heap[g]? = some (.cells cs t (0, 0))) : w.rangeAt g 0 cs.toList := by
  have := World.rangeAt_of_block h 0 cs.size
  simpa using this
theorem BK.held {N : Nat} {s : St} {b : List Int} {w w' : World} (h : BK N s.list b w w') : w'.cell? ⟨N, 0, none⟩ = some (.int .u32 s.a) ∧ w'.cell? ⟨N, 1, none⟩ = some (.int .u32 s.b) ∧ w'.cell? ⟨N, 2, none⟩ = some (.int .u32 s.c) ∧ w'.cell? ⟨N, 3, none⟩ = some (.int .u32 s.d) ∧ w'.cell? ⟨N, 4, none⟩ = some (.int .u32 s.e) ∧ w'.cell? ⟨N, 5, none⟩ = some (.int .u32 s.f) ∧ w'.cell? ⟨N, 6, none⟩ = some (.int .u32 s.g) ∧ w'.cell? ⟨N, 7, none⟩ = some (.int .u32 s.h) ∧ w'.rangeAt (N + 1) 0 (bv b) ∧ BK N s.list b w w' := by
  obtain ⟨c0, c1, c2, c3, c4, c5, c6, c7⟩ := st_cell (s := s) h.st
  exact ⟨c0, c1, c2, c3, c4, c5, c6, c7, range_row h.inp, h⟩
theorem held_tab {N : Nat} {s : St} {b : List Int} {w w' : World} {p0 p1 p2 p3 p4 p5 p6 p7 p8 : Prop} (h : p0 ∧ p1 ∧ p2 ∧ p3 ∧ p4 ∧ p5 ∧ p6 ∧ p7 ∧ p8 ∧ BK N s.list b w w') : Tab w' := h.2.2.2.2.2.2.2.2.2.tab
theorem held_step {N : Nat} {s : St} {b : List Int} {w w' w1 : World} {p0 p1 p2 p3 p4 p5 p6 p7 p8 : Prop} (h : p0 ∧ p1 ∧ p2 ∧ p3 ∧ p4 ∧ p5 ∧ p6 ∧ p7 ∧ p8 ∧ BK N s.list b w w') (hb : Below w'.heap.size w' w1) : w1.cell? ⟨N, 0, none⟩ = some (.int .u32 s.a) ∧ w1.cell? ⟨N, 1, none⟩ = some (.int .u32 s.b) ∧ w1.cell? ⟨N, 2, none⟩ = some (.int .u32 s.c) ∧ w1.cell? ⟨N, 3, none⟩ = some (.int .u32 s.d) ∧ w1.cell? ⟨N, 4, none⟩ = some (.int .u32 s.e) ∧ w1.cell? ⟨N, 5, none⟩ = some (.int .u32 s.f) ∧ w1.cell? ⟨N, 6, none⟩ = some (.int .u32 s.g) ∧ w1.cell? ⟨N, 7, none⟩ = some (.int .u32 s.h) ∧ w1.rangeAt (N + 1) 0 (bv b) ∧ BK N s.list b w w1 := (h.2.2.2.2.2.2.2.2.2.step hb).held
/-- the row behind j sums -/
def addP (l m : List Int) (j : Nat) : List Int := (List.zipWith ad l m).take j ++ l.drop j
theorem addP_zero (l m : List Int) : addP l m 0 = l := by simp [addP]
theorem addP_length (l m : List Int) (j : Nat) (h : l.length = m.length) (hj : j ≤ l.length) : (addP l m j).length = l.length := by
  unfold addP; rw [List.length_append, List.length_take, List.length_zipWith, List.length_drop]; omega
theorem addP_get (l m : List Int) (j : Nat) (h : l.length = m.length) (hj : j < l.length) : (addP l m j).getD j 0 = l.getD j 0 := by
  unfold addP
  rw [List.getD_eq_getElem?_getD, List.getElem?_append_right (by rw [List.length_take, List.length_zipWith]; omega), List.length_take, List.length_zipWith, List.getElem?_drop, List.getD_eq_getElem?_getD]
  congr 2; omega
theorem addP_set (l m : List Int) (j : Nat) (h : l.length = m.length) (hj : j < l.length) : (addP l m j).set j (ad (l.getD j 0) (m.getD j 0)) = addP l m (j + 1) := by
  unfold addP
  have e : l.drop j = l.getD j 0 :: l.drop (j + 1) := by rw [List.getD_eq_getElem?_getD, List.getElem?_eq_getElem hj]; exact List.drop_eq_getElem_cons hj
  have hz : j < (List.zipWith ad l m).length := by rw [List.length_zipWith]; omega
  rw [List.set_append_right _ _ (by rw [List.length_take]; omega), List.length_take, Nat.min_eq_left (Nat.le_of_lt hz), Nat.sub_self, e, List.set_cons_zero, List.take_succ_eq_append_getElem hz, List.append_assoc]
  congr 1
  rw [List.getElem_zipWith, List.getD_eq_getElem?_getD, List.getD_eq_getElem?_getD, List.getElem?_eq_getElem hj, List.getElem?_eq_getElem (by omega)]
  rfl
theorem addP_end (s t : St) : addP s.list t.list 8 = (s.plus t).list := rfl
theorem idx_u32 (tl : List Int) (j : Nat) (hl : tl.length = 8) (hj : j < 8) (w : World) : (Instr.index 68 (.agg (uv tl).toArray) (.int .i64 (j : Int))).run Tryd.prog w = .ok (.int .u32 (tl.getD j 0)) w := by
  have hx := uv_getD tl j (by omega)
  simp only [Instr.index, asIntOf, go_sem, part]
  simp
  rw [if_pos hj, hx, List.getD_eq_getElem?_getD]; rfl
theorem oct_info : (Tryd.prog.info? 68).map (·.size) = some 8 := by kernel_rfl
theorem in_info : (Tryd.prog.info? 70).map (·.size) = some 64 := by kernel_rfl

set_option maxRecDepth 100000 in
set_option maxHeartbeats 1000000 in
theorem block_any (s : St) (b : List Int) (w : World) (hs : StU s) (hb : Byt b) (hl : b.length = 64) (htab : Tab w) :
    Calls Tryd.prog 55 #[.agg s.cells, .agg (bv b).toArray] w fun e w' => e = .returned (.agg (blk s b).cells) ∧ Below w.heap.size w w' := by
  have HL : Hid (b.length = 64) := hl
  have hNp : Hid (0 < w.heap.size) := htab.pos
  clear hl
  go_enter Tryd.func55, Tryd.ntmps55
  go_wp2
  obtain ⟨N, hN⟩ : ∃ N, N = w.heap.size := ⟨_, rfl⟩
  have hkept : BK N s.list b w (((w.alloc (.cells s.cells 68)).alloc (.cells (bv b).toArray 70)).alloc (.cells #[.int .u32 0, .int .u32 0, .int .u32 0, .int .u32 0, .int .u32 0, .int .u32 0, .int .u32 0, .int .u32 0] 68)) := by
    subst hN
    have hlow : Below w.heap.size w (((w.alloc (.cells s.cells 68)).alloc (.cells (bv b).toArray 70)).alloc (.cells #[.int .u32 0, .int .u32 0, .int .u32 0, .int .u32 0, .int .u32 0, .int .u32 0, .int .u32 0, .int .u32 0] 68)) := (((Below.refl _ _).alloc (Nat.le_refl _) _).alloc (by simp) _).alloc (by simp; omega) _
    refine ⟨hlow, by simp, ?_, ?_, ⟨#[.int .u32 0, .int .u32 0, .int .u32 0, .int .u32 0, .int .u32 0, .int .u32 0, .int .u32 0, .int .u32 0], rfl, ?_⟩, htab.below hlow⟩
    · rw [heap_alloc_old _ _ (by simp; omega), heap_alloc_old _ _ (by simp), heap_alloc_new]; rfl
    · rw [heap_alloc_old _ _ (by simp), show w.heap.size + 1 = (w.alloc (.cells s.cells 68)).heap.size from by simp, heap_alloc_new]
    · rw [show w.heap.size + 1 + 1 = ((w.alloc (.cells s.cells 68)).alloc (.cells (bv b).toArray 70)).heap.size from by simp, heap_alloc_new]
  generalize ((w.alloc (.cells s.cells 68)).alloc (.cells (bv b).toArray 70)).alloc (.cells #[.int .u32 0, .int .u32 0, .int .u32 0, .int .u32 0, .int .u32 0, .int .u32 0, .int .u32 0, .int .u32 0] 68) = W0 at hkept ⊢
  rw [← hN]
  have HN : Hid (N = w.heap.size) := hN
  clear hN htab
  have r1 : W0.rangeAt (N + 1) 0 (bv b) := range_row hkept.inp
  have hu' := Tryd.underlying70
  have hi' : (Tryd.prog.info? 70).map (·.size) = some (bv b).length := by rw [bv_length, HL.out]; exact in_info
  have hn' : (bv b).length = 64 := by rw [bv_length, HL.out]
  have ho' := bv_one b
  have h0 := hkept.drewN 1
  go_region_held3 (fun w' => w'.cell? ⟨N, 0, none⟩ = some (.int .u32 s.a) ∧ w'.cell? ⟨N, 1, none⟩ = some (.int .u32 s.b) ∧ w'.cell? ⟨N, 2, none⟩ = some (.int .u32 s.c) ∧ w'.cell? ⟨N, 3, none⟩ = some (.int .u32 s.d) ∧ w'.cell? ⟨N, 4, none⟩ = some (.int .u32 s.e) ∧ w'.cell? ⟨N, 5, none⟩ = some (.int .u32 s.f) ∧ w'.cell? ⟨N, 6, none⟩ = some (.int .u32 s.g) ∧ w'.cell? ⟨N, 7, none⟩ = some (.int .u32 s.h) ∧ w'.rangeAt (N + 1) 0 (bv b) ∧ BK N s.list b w w') (first | (exact h0.held) | (exact held_step (by assumption) hb1)) (first | (go_at_call 63; refine (sched_any b _ hb HL.out).mono ?_; rintro e1 w1 ⟨rfl, hb1⟩) | (go_at_call 62; refine (mix_any s b _ hs hb ?_).mono ?_; (exact held_tab (by assumption)); rintro e1 w1 ⟨rfl, hb1⟩))
  rename_i hHeld
  have hkp := hHeld.2.2.2.2.2.2.2.2.2
  clear hHeld hb1 h0 hkept r1
  have HtL : Hid ((rnds b s 64).cells = (uv (rnds b s 64).list).toArray) := rfl
  have HtB : Bx (Ending.returned (.agg (s.plus (rnds b s 64)).cells) = .returned (.agg (blk s b).cells)) := ⟨rfl⟩
  have htu := rnds_u b hs 64
  generalize rnds b s 64 = t at HtL HtB htu ⊢
  clear hu' hi' hn' ho'
  have hN0 : 0 < N := by rw [HN.out]; exact hNp.out
  have HLL : Hid (s.list.length = t.list.length) := rfl
  have HAE : Hid (addP s.list t.list 8 = (s.plus t).list) := rfl
  have hsu := St.list_u hs
  have htlu := St.list_u htu
  rw [HtL.out]
  have HL8 : Hid (s.list.length = 8) := rfl
  have HPC : Hid ((s.plus t).cells = (uv (s.plus t).list).toArray) := rfl
  generalize s.list = sl at *
  generalize t.list = tl at *
  go_wp2
  go_loopw [11] (fun i wr => ∃ j : Nat, j ≤ 8 ∧ i = .int .i64 j ∧ BK N (addP sl tl j) b w wr) (fun i _ => 8 - (intOf i).toNat)
  case atStart => exact ⟨0, Nat.zero_le _, rfl, by rw [addP_zero]; exact hkp⟩
  case round =>
    clear hkp
    obtain ⟨j, hj, rfl, hkp⟩ := hrel
    by_cases hlt : j < 8
    · have hcl := uv_cell hkp.st j (by rw [addP_length _ _ _ HLL.out (by rw [HL8.out]; exact hj), HL8.out]; exact hlt)
      rw [addP_get _ _ _ HLL.out (by rw [HL8.out]; exact hlt)] at hcl
      have hfr := frozen_of_row _ _ j _ _ hkp.st
      have hst := hkp.store hN0 j (ad (sl.getD j 0) (tl.getD j 0))
      rw [addP_set _ _ _ HLL.out (by rw [HL8.out]; exact hlt)] at hst
      have hx := idx_u32 tl j (by rw [← HLL.out, HL8.out]) hlt
      have us := hsu.getD j
      have ut := htlu.getD j
      have s1 : IntKind.u32.wrap (sl.getD j 0 + tl.getD j 0) = ad (sl.getD j 0) (tl.getD j 0) := IntKind.wrap_u32' _
      have j0 : (0 : Int) ≤ (j : Int) := by omega
      have j8 : (j : Int) < 8 := by omega
      generalize sl.getD j 0 = x at hcl us s1 hst
      generalize tl.getD j 0 = y at hx ut s1 hst
      go_wp2
      go_roundw
      case rel => exact ⟨j + 1, by omega, by go_num, hst⟩
      case measure => simp [intOf]; omega
    · have HJ : Hid (j = 8) := by show j = 8; omega
      obtain ⟨cs, hcs, hres⟩ := hkp.res
      have ht := there_row hres
      rw [hcs] at ht
      have hst : wr.heap[N]? = some (.cells (s.plus t).cells 68 (0, 0)) := by
        have := hkp.st
        rw [HJ.out, HAE.out, ← HPC.out] at this
        exact this
      have hbl : Below w.heap.size w wr := by rw [← HN.out]; exact hkp.low
      have hNs : w.heap.size ≤ N + 1 + 1 := by have := HN.out; omega
      have HST : Bx ((wr.setCells (N + 1 + 1) 0 (s.plus t).cells.toList).heap[N + 1 + 1]? = some (.cells (s.plus t).cells 68 (0, 0))) := ⟨heap_stored (vs := (s.plus t).cells) hres (by rw [hcs]; rfl)⟩
      have HBS : Bx (Below w.heap.size w (wr.setCells (N + 1 + 1) 0 (s.plus t).cells.toList)) := ⟨below_setCells hbl (N + 1 + 1) hNs (s.plus t).cells.toList 0⟩
      have HTH : Bx (wr.there (N + 1 + 1) 0 8) := ⟨ht⟩
      have HRW : Bx (wr.heap[N]? = some (.cells (s.plus t).cells 68 (0, 0))) := ⟨hst⟩
      clear hkp hres ht hbl hNs hcs hst HAE HPC
      go_wp2_with (refine wpList_load_row rfl 68 (.tmp 2) rfl N rfl 68 (s.plus t).cells (0, 0) _ HRW.out Tryd.underlying68 rfl (cells_info _) ?_; refine wpList_store_mid rfl 68 (.tmp 4) (.tmp 22) rfl (N + 1 + 1) 0 (s.plus t).cells rfl rfl HTH.out (cells_info _) (cells_one _) ?_)
      exact bodyPost_ret (v := .agg (s.plus t).cells) (results_cell_row rfl _ _ (N + 1 + 1) 68 (s.plus t).cells (0, 0) _ rfl HST.out Tryd.underlying68 rfl (cells_info _)) rfl ⟨HtB.out, HBS.out⟩
end Go.Proofs.YtaphbenkkicbhaaDoor
