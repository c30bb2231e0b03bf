/- What the document's Sum answers. -/
import Derived.Test.YtbednfacipphhaaDoorAuaz
import Derived.Test.YtbednfacipphhaaDoorAuas
import Derived.Test.YtbednfacipphhaaDoorAual
import Derived.Test.YtbednfacipphhaaDoorHSum
namespace Go.Proofs.YtbednfacipphhaaDoor
open Go.RowKit
set_option linter.unusedVariables false

/-- the first j of the bytes l, and noughts up to n -/
def fillP (l : List Int) (n j : Nat) : List Int := l.take j ++ List.replicate (n - j) 0
set_option maxRecDepth 100000 in
theorem fillP_zero (l : List Int) (n : Nat) : fillP l n 0 = List.replicate n 0 := rfl
set_option maxRecDepth 100000 in
theorem fillP_length (l : List Int) (n j : Nat) (hl : l.length = n) (hj : j ≤ n) : (fillP l n j).length = n := by
  unfold fillP; rw [List.length_append, List.length_take, List.length_replicate]; omega
set_option maxRecDepth 100000 in
theorem fillP_end (l : List Int) (n : Nat) (hl : l.length = n) : fillP l n n = l := by
  unfold fillP; rw [List.take_of_length_le (by omega)]; simp
set_option maxRecDepth 100000 in
theorem fillP_set (l : List Int) (n j : Nat) (hl : l.length = n) (hj : j < n) : (bv (fillP l n j)).toArray.setIfInBounds j (.int .u8 (l.getD j 0)) = (bv (fillP l n (j + 1))).toArray := by
  rw [List.setIfInBounds_toArray]
  congr 1
  unfold fillP
  rw [bv_append, bv_append, List.set_append_right _ _ (by rw [bv_length, List.length_take]; omega), bv_length, List.length_take, Nat.min_eq_left (by omega), Nat.sub_self, show n - j = (n - (j + 1)) + 1 from by omega, List.replicate_succ, take_succ_getD l j (by omega), bv_append, List.append_assoc]
  rfl
set_option maxRecDepth 100000 in
theorem digL_getD (l : List Int) (i k : Nat) (hi : i < l.length) (hk : k < 4) : (digL l).getD (4 * i + k) 0 = (putL (l.getD i 0) 4).getD k 0 := by
  induction l generalizing i with
  | nil => simp at hi
  | cons x r ih =>
    have e4 : (putL x 4).length = 4 := putL_length x 4
    cases i with
    | zero =>
      simp only [digL, List.getD_eq_getElem?_getD]
      rw [List.getElem?_append_left (by omega)]
      simp
    | succ i =>
      have := ih i (by simpa using hi)
      simp only [digL, List.getD_eq_getElem?_getD] at *
      rw [List.getElem?_append_right (by omega), e4, show 4 * (i + 1) + k - 4 = 4 * i + k from by omega, this]
      simp
set_option maxRecDepth 100000 in
theorem bts_lowB {w w' : World} {b o len cap B : Nat} {l : List Int} (h : Bts w (some ⟨b, o, none⟩) len cap l) (hb : Below B w w') (hB : b < B) : Bts w' (some ⟨b, o, none⟩) len cap l := by
  refine ⟨h.len_eq, h.byt, h.le_cap, h.cap_le, (fun hh => by cases hh), fun hp => ?_⟩
  obtain ⟨b', off, e, hlt, hc⟩ := h.spot hp
  cases e
  exact ⟨_, _, rfl, Nat.lt_of_lt_of_le hlt hb.size, fun i hi => (hb.cell (p := ⟨b, o + i, none⟩) hB).trans (hc i hi)⟩

set_option maxRecDepth 100000 in
theorem row_byte {w : World} {g n cap : Nat} {l : List Int} (h : Bts w (some ⟨g, 0, none⟩) n cap l) (i : Nat) (hi : i < n) : w.cell? ⟨g, i, none⟩ = some (.int .u8 (l.getD i 0)) := by
  obtain ⟨b, o, e, _, hc⟩ := h.spot (by omega)
  cases e
  have := hc i hi
  rwa [Nat.zero_add] at this
set_option maxRecDepth 100000 in
theorem piece_getD (l : List Int) (o j : Nat) (hj : j < 64) : ((l.drop o).take 64).getD j 0 = l.getD (o + j) 0 := by
  simp only [List.getD_eq_getElem?_getD, List.getElem?_take, List.getElem?_drop, if_pos hj]
set_option maxRecDepth 100000 in
theorem row_free {w : World} {g : Nat} {l : List Value} {t : TypeId} (h : w.heap[g]? = some (.cells l.toArray t (0, 0))) (j : Nat) (hj : j < l.length) : ∃ v, w.cell? ⟨g, j, none⟩ = some v := by
  rw [cell_of_row w g j _ t (0, 0) h, List.getElem?_toArray]; exact ⟨_, List.getElem?_eq_getElem hj⟩
/-- what stays while the document's Sum goes on, the numbers being t -/
structure RS (N gA S cap : Nat) (all : List Int) (t : St) (w wr : World) : Prop where
  low : Below N w wr
  res : ∃ cs : Array Value, cs.size = 32 ∧ wr.heap[N]? = some (.cells cs 30 (0, 0))
  row : Bts wr (some ⟨gA, 0, none⟩) all.length cap all
  st : wr.heap[S]? = some (.cells t.cells 103 (0, 0))
  nga : N < gA
  gas : gA < S
set_option maxRecDepth 100000 in
theorem RS.lt {N gA S cap : Nat} {all : List Int} {t : St} {w wr : World} (h : RS N gA S cap all t w wr) : S < wr.heap.size := (Array.getElem?_eq_some_iff.1 h.st).1
set_option maxRecDepth 100000 in
theorem RS.step {N gA S cap : Nat} {all : List Int} {t : St} {w wr w1 : World} (h : RS N gA S cap all t w wr) {B : Nat} (hb : Below B wr w1) (hB : S < B) : RS N gA S cap all t w w1 := by
  have h1 := h.nga; have h2 := h.gas
  exact ⟨h.low.trans (hb.mono (by omega)), by obtain ⟨cs, e1, e2⟩ := h.res; exact ⟨cs, e1, by rw [hb.block _ (by omega)]; exact e2⟩, bts_lowB h.row hb (by omega), by rw [hb.block _ hB]; exact h.st, h1, h2⟩
set_option maxRecDepth 100000 in
theorem RS.store {N gA S cap : Nat} {all : List Int} {t t' : St} {w wr : World} (h : RS N gA S cap all t w wr) : RS N gA S cap all t' w (wr.setCells S 0 t'.cells.toList) := by
  have h1 := h.nga; have h2 := h.gas
  have hb : Below S wr (wr.setCells S 0 t'.cells.toList) := below_setCells (Below.refl _ _) S (Nat.le_refl _) _ _
  exact ⟨h.low.trans (hb.mono (by omega)), by obtain ⟨cs, e1, e2⟩ := h.res; exact ⟨cs, e1, by rw [hb.block _ (by omega)]; exact e2⟩, bts_lowB h.row hb (by omega), heap_stored (vs := t'.cells) h.st rfl, h1, h2⟩

set_option maxRecDepth 100000 in
theorem DK.step {N M : Nat} {r : List Int} {w wr w1 : World} (h : DK N M r w wr) (hb : Below wr.heap.size wr w1) : DK N M r w w1 := by
  have h1 := h.apart; have h2 := h.lt
  exact ⟨h.low.trans (hb.mono (by omega)), h1, by obtain ⟨cs, e1, e2⟩ := h.res; exact ⟨cs, e1, by rw [hb.block _ (by omega)]; exact e2⟩, by rw [hb.block _ h2]; exact h.row⟩
set_option maxRecDepth 100000 in
theorem DK.store {N M : Nat} {r : List Int} {w wr : World} (h : DK N M r w wr) (j : Nat) (v : Value) (r' : List Int) (hr : (bv r).toArray.setIfInBounds j v = (bv r').toArray) : DK N M r' w (wr.setCell ⟨M, j, none⟩ v) := by
  have h1 := h.apart
  refine ⟨h.low.setCell (p := ⟨M, j, none⟩) (Nat.le_of_lt h1) v, h1, ?_, by rw [heap_setCell_same _ _ _ _ _ _ h.row, hr]⟩
  obtain ⟨cs, e1, e2⟩ := h.res
  exact ⟨cs, e1, by rw [heap_setCell_other _ _ _ _ (by show N ≠ M; omega)]; exact e2⟩
set_option maxRecDepth 100000 in
set_option maxHeartbeats 1000000 in
theorem refsum_any (a : Option Addr) (len cap : Nat) (b : List Int) (w : World) (hb : Bts w a len cap b) (hbd : len ≤ 1099511627776) :
    Calls Tryd.prog 37 #[.slice a len cap] w fun e w' => e = .returned (.agg (bv (sumL b)).toArray) ∧ Below w.heap.size w w' := by
  have hlen := hb.len_eq
  obtain ⟨i0, hi, hz0, hz1, hz2⟩ := info_parts Tryd.info5
  go_enter Tryd.func37, Tryd.ntmps37
  go_wp2_with fail
  have hb0 : Below w.heap.size w (w.alloc (.cells #[.int .u8 0, .int .u8 0, .int .u8 0, .int .u8 0, .int .u8 0, .int .u8 0, .int .u8 0, .int .u8 0, .int .u8 0, .int .u8 0, .int .u8 0, .int .u8 0, .int .u8 0, .int .u8 0, .int .u8 0, .int .u8 0, .int .u8 0, .int .u8 0, .int .u8 0, .int .u8 0, .int .u8 0, .int .u8 0, .int .u8 0, .int .u8 0, .int .u8 0, .int .u8 0, .int .u8 0, .int .u8 0, .int .u8 0, .int .u8 0, .int .u8 0, .int .u8 0] 30)) := (Below.refl _ _).alloc (Nat.le_refl _) _
  obtain ⟨cs, hcs, hres0⟩ : ∃ cs : Array Value, cs.size = 32 ∧ (w.alloc (.cells #[.int .u8 0, .int .u8 0, .int .u8 0, .int .u8 0, .int .u8 0, .int .u8 0, .int .u8 0, .int .u8 0, .int .u8 0, .int .u8 0, .int .u8 0, .int .u8 0, .int .u8 0, .int .u8 0, .int .u8 0, .int .u8 0, .int .u8 0, .int .u8 0, .int .u8 0, .int .u8 0, .int .u8 0, .int .u8 0, .int .u8 0, .int .u8 0, .int .u8 0, .int .u8 0, .int .u8 0, .int .u8 0, .int .u8 0, .int .u8 0, .int .u8 0, .int .u8 0] 30)).heap[w.heap.size]? = some (.cells cs 30 (0, 0)) := ⟨_, rfl, heap_alloc_new _ _⟩
  have hs0 : (w.alloc (.cells #[.int .u8 0, .int .u8 0, .int .u8 0, .int .u8 0, .int .u8 0, .int .u8 0, .int .u8 0, .int .u8 0, .int .u8 0, .int .u8 0, .int .u8 0, .int .u8 0, .int .u8 0, .int .u8 0, .int .u8 0, .int .u8 0, .int .u8 0, .int .u8 0, .int .u8 0, .int .u8 0, .int .u8 0, .int .u8 0, .int .u8 0, .int .u8 0, .int .u8 0, .int .u8 0, .int .u8 0, .int .u8 0, .int .u8 0, .int .u8 0, .int .u8 0, .int .u8 0] 30)).heap.size = w.heap.size + 1 := by simp
  generalize w.alloc (.cells #[.int .u8 0, .int .u8 0, .int .u8 0, .int .u8 0, .int .u8 0, .int .u8 0, .int .u8 0, .int .u8 0, .int .u8 0, .int .u8 0, .int .u8 0, .int .u8 0, .int .u8 0, .int .u8 0, .int .u8 0, .int .u8 0, .int .u8 0, .int .u8 0, .int .u8 0, .int .u8 0, .int .u8 0, .int .u8 0, .int .u8 0, .int .u8 0, .int .u8 0, .int .u8 0, .int .u8 0, .int .u8 0, .int .u8 0, .int .u8 0, .int .u8 0, .int .u8 0] 30) = w0 at hb0 hres0 hs0 ⊢
  refine (copy_any a len cap b _ (hb.below hb0) (by omega)).mono ?_
  rintro e w1 ⟨v1, rfl, hown1, hb1⟩
  have hlow1 := hb0.trans (hb1.mono (by omega))
  have hres1 := (hb1.block w.heap.size (by omega)).trans hres0
  have hsz1 := hb1.size
  obtain ⟨N, hN⟩ : ∃ N, N = w.heap.size := ⟨_, rfl⟩
  rw [hs0] at hown1
  clear hb0 hres0 hb1
  go_wp2_with fail
  refine (refpad_any len _ (by omega) (by omega)).mono ?_
  rintro e w2 ⟨v2, rfl, hown2, hb2⟩
  have hlow2 := hlow1.trans (hb2.mono (by omega))
  have hres2 := (hb2.block w.heap.size (by omega)).trans hres1
  have hown1b := owns_below hown1 hb2
  have hpl : 9 ≤ (padL (len : Int)).length ∧ (padL (len : Int)).length ≤ 72 := by rw [padL_length]; have := padZ_le len; omega
  have hpb := padL_byt len
  have HALL : Bx (b ++ padL (len : Int) = allL b) := ⟨by unfold allL; rw [hlen]⟩
  have H64 : Hid ((b ++ padL (len : Int)).length % 64 = 0) := by show _ = _; rw [HALL.out]; exact allL_64 b
  generalize padL (len : Int) = p at hown2 hpl hpb HALL H64 ⊢
  obtain ⟨hpl1, hpl2⟩ := hpl
  have hsz2 := hb2.size
  obtain ⟨g2, cap2, rfl, hg2, _⟩ := owns_form hown2 (by omega)
  obtain ⟨a2, c2, e2, hm2⟩ := Bts.of_owns hown2 hpb
  cases e2
  have hcells := hm2.cells
  have hl2 : (bv p).length = p.length * 1 := by rw [bv_length]; omega
  clear hown1 hown2 hm2 hb2 hlow1 hres1
  go_wp2_with (at_builtin; refine wpList_append_own _ rfl _ _ 22 rfl (w.heap.size + 1) 5 i0 (.int .u8 0) 1 1 Tryd.underlying22 hi hz0 hz1 hz2 rfl (by decide) _ _ _ rfl hown1b ⟨g2, 0, none⟩ p.length cap2 (bv p) rfl hl2 hcells (bv_one p) (by unfold maxLen; omega) (by omega) (by omega) ?_)
  intro v3 w3 hown3 hgrow _
  have hlow3 : Below w.heap.size w w3 := hlow2.grown hgrow hlow2.size (by intro k hk; have := (hown1b.lt k hk).1; omega)
  have hres3 := (hgrow.block w.heap.size (by omega) (by intro hk; have := (hown1b.lt _ hk.symm).1; omega)).trans hres2
  obtain ⟨gA, capA, rfl, hgA, hgA'⟩ := owns_form hown3 (by omega)
  have hallb : Byt (b ++ p) := hb.byt.append hpb
  rw [← bv_append] at hown3
  obtain ⟨a3, c3, e3, hm3⟩ := Bts.of_owns hown3 hallb
  cases e3
  have hall : (b ++ p).length = len + p.length := by rw [List.length_append, hlen]
  have hall2 : (b ++ p).length ≤ 1099511627776 + 72 := by omega
  rw [← hall] at hm3 ⊢
  clear hown1b hgrow hown3 hcells hlow2 hres2 hl2
  clear hall
  generalize b ++ p = all at hallb hm3 hall2 HALL H64 ⊢
  go_wp2_with fail
  refine (reffirst_any _).mono ?_
  rintro e w4 ⟨rfl, hb4⟩
  have hm4 := hm3.below hb4
  have hlow4 := hlow3.trans (hb4.mono hlow3.size)
  have hres4 := (hb4.block w.heap.size (by omega)).trans hres3
  have hsz4 := hb4.size
  have hb5 : Below w4.heap.size w4 ((w4.alloc (.cells #[.int .u32 0, .int .u32 0, .int .u32 0, .int .u32 0, .int .u32 0, .int .u32 0, .int .u32 0, .int .u32 0] 103)).setCells w4.heap.size 0 st0.cells.toList) := below_setCells ((Below.refl _ _).alloc (Nat.le_refl _) _) _ (Nat.le_refl _) _ _
  have hRS : RS w.heap.size gA w4.heap.size capA all st0 w ((w4.alloc (.cells #[.int .u32 0, .int .u32 0, .int .u32 0, .int .u32 0, .int .u32 0, .int .u32 0, .int .u32 0, .int .u32 0] 103)).setCells w4.heap.size 0 st0.cells.toList) :=
    ⟨hlow4.trans (hb5.mono (by omega)), ⟨cs, hcs, by rw [hb5.block _ (by omega)]; exact hres4⟩, bts_lowB hm4 hb5 (by omega), heap_stored (vs := st0.cells) (heap_alloc_new _ _) rfl, by omega, by omega⟩
  clear hb5 hm3 hm4 hlow3 hlow4 hres3 hres4 hb4
  simp only []
  go_step
  refine wpList_run rfl (.pointer (some ⟨w4.heap.size, 0, none⟩)) (w4.alloc (.cells #[.int .u32 0, .int .u32 0, .int .u32 0, .int .u32 0, .int .u32 0, .int .u32 0, .int .u32 0, .int .u32 0] 103)) (by kernel_rfl) ?_
  refine wpList_store_mid rfl 103 (.tmp 4) (.tmp 19) rfl w4.heap.size 0 st0.cells rfl rfl (there_new _ _ _) (cells_info _) (cells_one _) ?_
  generalize (w4.alloc (.cells #[.int .u32 0, .int .u32 0, .int .u32 0, .int .u32 0, .int .u32 0, .int .u32 0, .int .u32 0, .int .u32 0] 103)).setCells w4.heap.size 0 st0.cells.toList = w5 at hRS ⊢
  generalize w4.heap.size = S at hRS ⊢
  generalize (uv [1779033703, 3144134277, 1013904242, 2773480762, 1359893119, 2600822924, 528734635, 1541459225]).toArray = fst
  have HN : Hid (N = w.heap.size) := hN
  rw [← hN] at hRS ⊢
  clear hN hi hz0 hz1 hz2 hsz4 hgA hgA' hsz1 hsz2 hs0 hg2
  go_wp2
  go_loopw [5] (fun i wr => ∃ k : Nat, 64 * k ≤ all.length ∧ i = .int .i64 (64 * (k : Int)) ∧ RS N gA S capA all (chn all k) w wr) (fun i _ => all.length + 64 - (intOf i).toNat)
  case atStart => exact ⟨0, Nat.zero_le _, rfl, hRS⟩
  case round =>
    clear hRS
    obtain ⟨k, hk, rfl, hr⟩ := hrel
    have HU : Hid (StU (chn all k)) := chn_u all k
    obtain ⟨wo, hwo⟩ : ∃ wo, wo = wr := ⟨_, rfl⟩
    subst hwo
    by_cases hlt : 64 * k + 64 ≤ all.length
    ·
      have HC : Bx (chn all (k + 1) = blk (chn all k) ((all.drop (64 * k)).take 64)) := ⟨rfl⟩
      have hcl : ((all.drop (64 * k)).take 64).length = 64 := by rw [List.length_take, List.length_drop]; omega
      have hcb : Byt ((all.drop (64 * k)).take 64) := fun c hc => hallb c (List.mem_of_mem_drop (List.mem_of_mem_take hc))
      have HG : Hid (∀ j, j < 64 → ((all.drop (64 * k)).take 64).getD j 0 = all.getD (64 * k + j) 0) := fun j hj => piece_getD all (64 * k) j hj
      generalize chn all k = t at hr HU HC
      generalize (all.drop (64 * k)).take 64 = c at HC hcl hcb HG
      have hOS := hr.lt
      have hgas := hr.gas
      have hnga := hr.nga
      have hrow0 : (wo.alloc (.cells #[.int .u8 0, .int .u8 0, .int .u8 0, .int .u8 0, .int .u8 0, .int .u8 0, .int .u8 0, .int .u8 0, .int .u8 0, .int .u8 0, .int .u8 0, .int .u8 0, .int .u8 0, .int .u8 0, .int .u8 0, .int .u8 0, .int .u8 0, .int .u8 0, .int .u8 0, .int .u8 0, .int .u8 0, .int .u8 0, .int .u8 0, .int .u8 0, .int .u8 0, .int .u8 0, .int .u8 0, .int .u8 0, .int .u8 0, .int .u8 0, .int .u8 0, .int .u8 0, .int .u8 0, .int .u8 0, .int .u8 0, .int .u8 0, .int .u8 0, .int .u8 0, .int .u8 0, .int .u8 0, .int .u8 0, .int .u8 0, .int .u8 0, .int .u8 0, .int .u8 0, .int .u8 0, .int .u8 0, .int .u8 0, .int .u8 0, .int .u8 0, .int .u8 0, .int .u8 0, .int .u8 0, .int .u8 0, .int .u8 0, .int .u8 0, .int .u8 0, .int .u8 0, .int .u8 0, .int .u8 0, .int .u8 0, .int .u8 0, .int .u8 0, .int .u8 0] 105)).heap[wo.heap.size]? = some (.cells (bv (fillP c 64 0)).toArray 105 (0, 0)) := by rw [fillP_zero]; exact heap_alloc_new _ _
      have hb0 : Below wo.heap.size wo (wo.alloc (.cells #[.int .u8 0, .int .u8 0, .int .u8 0, .int .u8 0, .int .u8 0, .int .u8 0, .int .u8 0, .int .u8 0, .int .u8 0, .int .u8 0, .int .u8 0, .int .u8 0, .int .u8 0, .int .u8 0, .int .u8 0, .int .u8 0, .int .u8 0, .int .u8 0, .int .u8 0, .int .u8 0, .int .u8 0, .int .u8 0, .int .u8 0, .int .u8 0, .int .u8 0, .int .u8 0, .int .u8 0, .int .u8 0, .int .u8 0, .int .u8 0, .int .u8 0, .int .u8 0, .int .u8 0, .int .u8 0, .int .u8 0, .int .u8 0, .int .u8 0, .int .u8 0, .int .u8 0, .int .u8 0, .int .u8 0, .int .u8 0, .int .u8 0, .int .u8 0, .int .u8 0, .int .u8 0, .int .u8 0, .int .u8 0, .int .u8 0, .int .u8 0, .int .u8 0, .int .u8 0, .int .u8 0, .int .u8 0, .int .u8 0, .int .u8 0, .int .u8 0, .int .u8 0, .int .u8 0, .int .u8 0, .int .u8 0, .int .u8 0, .int .u8 0, .int .u8 0] 105)) := (Below.refl _ _).alloc (Nat.le_refl _) _
      go_wp2
      generalize wo.alloc (.cells #[.int .u8 0, .int .u8 0, .int .u8 0, .int .u8 0, .int .u8 0, .int .u8 0, .int .u8 0, .int .u8 0, .int .u8 0, .int .u8 0, .int .u8 0, .int .u8 0, .int .u8 0, .int .u8 0, .int .u8 0, .int .u8 0, .int .u8 0, .int .u8 0, .int .u8 0, .int .u8 0, .int .u8 0, .int .u8 0, .int .u8 0, .int .u8 0, .int .u8 0, .int .u8 0, .int .u8 0, .int .u8 0, .int .u8 0, .int .u8 0, .int .u8 0, .int .u8 0, .int .u8 0, .int .u8 0, .int .u8 0, .int .u8 0, .int .u8 0, .int .u8 0, .int .u8 0, .int .u8 0, .int .u8 0, .int .u8 0, .int .u8 0, .int .u8 0, .int .u8 0, .int .u8 0, .int .u8 0, .int .u8 0, .int .u8 0, .int .u8 0, .int .u8 0, .int .u8 0, .int .u8 0, .int .u8 0, .int .u8 0, .int .u8 0, .int .u8 0, .int .u8 0, .int .u8 0, .int .u8 0, .int .u8 0, .int .u8 0, .int .u8 0, .int .u8 0] 105) = w6 at hrow0 hb0 ⊢
      obtain ⟨O, hO⟩ : ∃ O, O = wo.heap.size := ⟨_, rfl⟩
      rw [← hO] at hrow0 hb0 hOS ⊢
      clear hO
      have hlt' : (64 : Int) * (k : Int) + 64 ≤ (all.length : Int) := by omega
      go_loopw [7] (fun i w2 => ∃ j : Nat, j ≤ 64 ∧ i = .int .i64 j ∧ w2.heap[O]? = some (.cells (bv (fillP c 64 j)).toArray 105 (0, 0)) ∧ Below O wo w2) (fun i _ => 64 - (intOf i).toNat)
      case atStart => exact ⟨0, Nat.zero_le _, rfl, hrow0, hb0⟩
      case round =>
        clear hrow0 hb0
        obtain ⟨j, hj, rfl, hrow, hb2⟩ := hrel
        by_cases hjl : j < 64
        · have hcell := row_byte (hr.step hb2 hOS).row (64 * k + j) (by omega)
          rw [← HG.out j hjl] at hcell
          have hset := heap_setCell_same wr O j _ _ (.int .u8 (c.getD j 0)) hrow
          rw [fillP_set c 64 j hcl hjl] at hset
          obtain ⟨c0, hc0⟩ := row_free hrow j (by rw [bv_length, fillP_length c 64 j hcl hj]; exact hjl)
          have hf := frozen_of_row _ _ j _ _ hrow
          have hb3 := hb2.setCell (p := ⟨O, j, none⟩) (Nat.le_refl _) (.int .u8 (c.getD j 0))
          have hbyt := hcb.getD j
          generalize c.getD j 0 = x at hcell hset hb3 hbyt
          clear hrow hb2
          have j0 : (0 : Int) ≤ (j : Int) := by omega
          have j64 : (j : Int) < 64 := by omega
          go_wp2
          go_roundw
          case rel => exact ⟨j + 1, by omega, by go_num, hset, hb3⟩
          case measure => simp [intOf]; omega
        · have HJ : Hid (j = 64) := by show j = 64; omega
          have hr2 := hr.step hb2 hOS
          rw [HJ.out, fillP_end c 64 hcl] at hrow
          obtain ⟨c0, c1, c2, c3, c4, c5, c6, c7⟩ := st_cell hr2.st
          have HRow : Bx (wr.heap[O]? = some (.cells (bv c).toArray 105 (0, 0))) := ⟨hrow⟩
          have HI : Bx ((Tryd.prog.info? 105).map (·.size) = some (bv c).toArray.size) := ⟨by rw [List.size_toArray, bv_length, hcl]; exact in_info⟩
          clear hrow hb2
          go_wp2_with (refine wpList_load_row rfl 105 (.tmp 6) rfl O rfl 105 (bv c).toArray (0, 0) _ HRow.out Tryd.underlying105 rfl HI.out ?_)
          refine (refblock_any t c _ HU.out hcb hcl).mono ?_
          rintro e w3 ⟨rfl, hb3⟩
          have hr3 := hr2.step hb3 hr2.lt
          have HTH : Bx (w3.there S 0 8) := ⟨there_row hr3.st⟩
          have hr4 := hr3.store (t' := blk t c)
          rw [← HC.out] at hr4
          have HW : Bx (RS N gA S capA all (chn all (k + 1)) w (w3.setCells S 0 (blk t c).cells.toList)) := ⟨by rw [HC.out] at hr4 ⊢; exact hr4⟩
          clear c0 c1 c2 c3 c4 c5 c6 c7 hr hr2 hr3 hb3 hr4
          go_wp2_with (refine wpList_store_mid rfl 103 (.tmp 4) (.tmp 41) rfl S 0 (blk t c).cells rfl rfl HTH.out (cells_info _) (cells_one _) ?_; generalize w3.setCells S 0 (blk t c).cells.toList = w7 at HW ⊢)
          go_roundw
          case rel => exact ⟨k + 1, by omega, by go_num, HW.out⟩
          case measure => simp [intOf]; omega
    · have HK : Hid (k = all.length / 64) := by have := H64.out; show k = _; omega
      have HD : Bx (digL (chn all k).list = sumL b) := ⟨by rw [HK.out]; unfold sumL; rw [← HALL.out]⟩
      generalize chn all k = t at hr HU HD
      have hDK : DK N wo.heap.size (fillP (digL t.list) 32 0) w (wo.alloc (.cells #[.int .u8 0, .int .u8 0, .int .u8 0, .int .u8 0, .int .u8 0, .int .u8 0, .int .u8 0, .int .u8 0, .int .u8 0, .int .u8 0, .int .u8 0, .int .u8 0, .int .u8 0, .int .u8 0, .int .u8 0, .int .u8 0, .int .u8 0, .int .u8 0, .int .u8 0, .int .u8 0, .int .u8 0, .int .u8 0, .int .u8 0, .int .u8 0, .int .u8 0, .int .u8 0, .int .u8 0, .int .u8 0, .int .u8 0, .int .u8 0, .int .u8 0, .int .u8 0] 30)) := by
        obtain ⟨cs', e1, e2⟩ := hr.res
        have h1 := hr.nga
        have h2 := hr.gas
        have h3 := hr.lt
        exact ⟨hr.low.alloc (by omega) _, by omega, ⟨cs', e1, by rw [heap_alloc_old _ _ (by omega)]; exact e2⟩, by rw [fillP_zero]; exact heap_alloc_new _ _⟩
      have hst : (wo.alloc (.cells #[.int .u8 0, .int .u8 0, .int .u8 0, .int .u8 0, .int .u8 0, .int .u8 0, .int .u8 0, .int .u8 0, .int .u8 0, .int .u8 0, .int .u8 0, .int .u8 0, .int .u8 0, .int .u8 0, .int .u8 0, .int .u8 0, .int .u8 0, .int .u8 0, .int .u8 0, .int .u8 0, .int .u8 0, .int .u8 0, .int .u8 0, .int .u8 0, .int .u8 0, .int .u8 0, .int .u8 0, .int .u8 0, .int .u8 0, .int .u8 0, .int .u8 0, .int .u8 0] 30)).heap[S]? = some (.cells (uv t.list).toArray 103 (0, 0)) := by rw [heap_alloc_old _ _ hr.lt]; exact hr.st
      have hSM := hr.lt
      have hL8 : t.list.length = 8 := rfl
      have htl := St.list_u HU.out
      clear hr
      go_wp2
      generalize wo.alloc (.cells #[.int .u8 0, .int .u8 0, .int .u8 0, .int .u8 0, .int .u8 0, .int .u8 0, .int .u8 0, .int .u8 0, .int .u8 0, .int .u8 0, .int .u8 0, .int .u8 0, .int .u8 0, .int .u8 0, .int .u8 0, .int .u8 0, .int .u8 0, .int .u8 0, .int .u8 0, .int .u8 0, .int .u8 0, .int .u8 0, .int .u8 0, .int .u8 0, .int .u8 0, .int .u8 0, .int .u8 0, .int .u8 0, .int .u8 0, .int .u8 0, .int .u8 0, .int .u8 0] 30) = w6 at hDK hst ⊢
      obtain ⟨M, hM⟩ : ∃ M, M = wo.heap.size := ⟨_, rfl⟩
      rw [← hM] at hDK hSM ⊢
      clear hM
      generalize t.list = tl at hDK hst hL8 htl HD
      have hdl : (digL tl).length = 32 := by rw [digL_length, hL8]
      go_loopw [9] (fun i w2 => ∃ q : Nat, q ≤ 8 ∧ i = .int .i64 q ∧ DK N M (fillP (digL tl) 32 (4 * q)) w w2 ∧ w2.heap[S]? = some (.cells (uv tl).toArray 103 (0, 0))) (fun i _ => 8 - (intOf i).toNat)
      case atStart => exact ⟨0, Nat.zero_le _, rfl, hDK, hst⟩
      case round =>
        clear hDK hst
        obtain ⟨q, hq, rfl, hd, hst⟩ := hrel
        obtain ⟨wp, hwp⟩ : ∃ wp, wp = wr := ⟨_, rfl⟩
        subst hwp
        by_cases hql : q < 8
        · have hcell := uv_cell hst q (by omega)
          have hu := htl.getD q
          have HG : Hid (∀ j, j < 4 → (digL tl).getD (4 * q + j) 0 = (putL (tl.getD q 0) 4).getD j 0) := fun j hj => digL_getD tl q j (by omega) hj
          generalize tl.getD q 0 = x at hcell hu HG
          have hu1 := hu.1
          have hu2 := hu.2
          have q0 : (0 : Int) ≤ (q : Int) := by omega
          have q8 : (q : Int) < 8 := by omega
          have hwx : IntKind.u64.wrap x = x := by rw [IntKind.wrap_u64]; omega
          go_wp2_with fail
          refine (refput_some x 4 _ (by decide) (by decide) (by omega) (by omega)).mono ?_
          rintro e w7 ⟨v7, rfl, hown7, hb7⟩
          obtain ⟨g7, cap7, rfl, hg7, _⟩ := owns_form hown7 (by decide)
          obtain ⟨a7, c7, e7, hm7⟩ := Bts.of_owns hown7 (putL_byt _ _)
          cases e7
          have hML := hd.lt
          have hd7 := hd.step hb7
          have hst7 := (hb7.block S (by omega)).trans hst
          generalize putL x 4 = y at hm7 HG hown7
          clear hown7 hd hst hcell hb7
          go_wp2
          go_loopw [11] (fun i w2 => ∃ j : Nat, j ≤ 4 ∧ i = .int .i64 j ∧ DK N M (fillP (digL tl) 32 (4 * q + j)) w w2 ∧ w2.heap[S]? = some (.cells (uv tl).toArray 103 (0, 0)) ∧ Bts w2 (some ⟨g7, 0, none⟩) 4 cap7 y) (fun i _ => 4 - (intOf i).toNat)
          case atStart => exact ⟨0, Nat.zero_le _, rfl, hd7, hst7, hm7⟩
          case round =>
            clear hd7 hst7 hm7
            obtain ⟨j, hj, rfl, hd, hst, hm⟩ := hrel
            by_cases hjl : j < 4
            · have hcell := row_byte hm j hjl
              rw [← HG.out j hjl] at hcell
              have hd8 := hd.store (4 * q + j) (.int .u8 ((digL tl).getD (4 * q + j) 0)) _ (fillP_set (digL tl) 32 (4 * q + j) hdl (by omega))
              obtain ⟨c0, hc0⟩ := row_free hd.row (4 * q + j) (by rw [bv_length, fillP_length _ 32 _ hdl (by omega)]; omega)
              have hf := frozen_of_row _ _ (4 * q + j) _ _ hd.row
              have hst8 : (wr.setCell ⟨M, 4 * q + j, none⟩ (.int .u8 ((digL tl).getD (4 * q + j) 0))).heap[S]? = some (.cells (uv tl).toArray 103 (0, 0)) := by rw [heap_setCell_other _ _ _ _ (by show S ≠ M; omega)]; exact hst
              have hm8 := hm.but ((But.refl M wr).setCell (4 * q + j) (.int .u8 ((digL tl).getD (4 * q + j) 0))) (fun _ p hp => by cases hp; show g7 ≠ M; omega)
              have hby := (digL_byt tl).getD (4 * q + j)
              generalize (digL tl).getD (4 * q + j) 0 = z at hcell hd8 hst8 hm8 hby
              clear hd hst hm
              have j0 : (0 : Int) ≤ (j : Int) := by omega
              have j4 : (j : Int) < 4 := by omega
              have hof : (4 : Int) * (q : Int) + (j : Int) < 32 := by omega
              go_wp2
              go_roundw
              case rel => exact ⟨j + 1, by omega, by go_num, hd8, hst8, hm8⟩
              case measure => simp [intOf]; omega
            · have HJ : Hid (j = 4) := by show j = 4; omega
              have hd9 : DK N M (fillP (digL tl) 32 (4 * (q + 1))) w wr := by rw [show 4 * (q + 1) = 4 * q + j from by rw [HJ.out]; omega]; exact hd
              clear hd hm
              go_wp2
              go_roundw
              case rel => exact ⟨q + 1, by omega, by go_num, hd9, hst⟩
              case measure => simp [intOf]; omega
        · have HQ : Hid (q = 8) := by show q = 8; omega
          obtain ⟨cs', hcs', hres⟩ := hd.res
          have ht := there_row hres
          rw [hcs'] at ht
          have hrw : wp.heap[M]? = some (.cells (bv (sumL b)).toArray 30 (0, 0)) := by
            have := hd.row
            rw [HQ.out, fillP_end _ 32 hdl, HD.out] at this
            exact this
          have HZ2 : Bx ((bv (sumL b)).toArray.size = 32) := ⟨by rw [List.size_toArray, bv_length, sumL_length]⟩
          have HO2 : Bx ((bv (sumL b)).toArray.all (·.oneCell') = true) := ⟨all_oneCell_toArray (bv_one _)⟩
          have hbl : Below w.heap.size w wp := by rw [← HN.out]; exact hd.low
          have hNs : w.heap.size ≤ N := by have := HN.out; omega
          clear HD hd hst
          generalize hD : (bv (sumL b)).toArray = D at hrw HZ2 HO2
          have HDD : Bx (Ending.returned (.agg D) = .returned (.agg (bv (sumL b)).toArray)) := ⟨by rw [hD]⟩
          clear hD
          have HI2 : Bx ((Tryd.prog.info? 30).map (·.size) = some D.size) := ⟨by rw [HZ2.out]; exact dig_info⟩
          have HST : Bx ((wp.setCells N 0 D.toList).heap[N]? = some (.cells D 30 (0, 0))) := ⟨heap_stored (vs := D) hres (by rw [hcs', HZ2.out])⟩
          have HBS : Bx (Below w.heap.size w (wp.setCells N 0 D.toList)) := ⟨below_setCells hbl N hNs D.toList 0⟩
          have HTH : Bx (wp.there N 0 D.size) := ⟨by rw [HZ2.out]; exact ht⟩
          have HRW : Bx (wp.heap[M]? = some (.cells D 30 (0, 0))) := ⟨hrw⟩
          clear hres ht hbl hNs hcs' hrw
          go_wp2_with (refine wpList_load_row rfl 30 (.tmp 8) rfl M rfl 30 D (0, 0) _ HRW.out Tryd.underlying30 rfl HI2.out ?_; refine wpList_store_mid rfl 30 (.tmp 2) (.tmp 64) rfl N 0 D rfl rfl HTH.out HI2.out HO2.out ?_)
          exact bodyPost_ret (v := .agg D) (results_cell_row rfl _ _ N 30 D (0, 0) _ rfl HST.out Tryd.underlying30 rfl HI2.out) rfl ⟨HDD.out, HBS.out⟩
end Go.Proofs.YtbednfacipphhaaDoor
