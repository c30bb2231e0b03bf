/- What schedule answers: the 64 numbers of a block. -/
import Derived.Test.YtbednfacipphhaaDoorAuaw
namespace Go.Proofs.YtbednfacipphhaaDoor
open Go.RowKit
set_option linter.unusedVariables false

/-- w[0] to w[k - 1], and noughts up to 64 -/
def schP (b : List Int) (k : Nat) : List Int := sch b k ++ List.replicate (64 - k) 0
set_option maxRecDepth 100000 in
theorem schP_length (b : List Int) (k : Nat) (h : k ≤ 64) : (schP b k).length = 64 := by
  unfold schP; rw [List.length_append, sch_length, List.length_replicate]; omega
set_option maxRecDepth 100000 in
theorem schP_end (b : List Int) : schP b 64 = sch b 64 := by unfold schP; simp
set_option maxRecDepth 100000 in
theorem schP_set (b : List Int) (k : Nat) (x : Int) (h : k < 64) (hx : sch b (k + 1) = sch b k ++ [x]) : (schP b k).set k x = schP b (k + 1) := by
  unfold schP
  rw [List.set_append_right _ _ (by rw [sch_length]; exact Nat.le_refl _), sch_length, Nat.sub_self, show 64 - k = (64 - (k + 1)) + 1 from by omega, List.replicate_succ, List.set_cons_zero, hx, List.append_assoc]
  rfl
set_option maxRecDepth 100000 in
theorem uv_set (l : List Int) (k : Nat) (x : Int) : (uv l).toArray.setIfInBounds k (.int .u32 x) = (uv (l.set k x)).toArray := by
  simp [uv, List.map_set]
set_option maxRecDepth 100000 in
theorem schP_get (b : List Int) (k j : Nat) (h : j < k) : (schP b k).getD j 0 = (sch b k).getD j 0 := by
  unfold schP; simp only [List.getD_eq_getElem?_getD]; rw [List.getElem?_append_left (by rw [sch_length]; exact h)]
set_option maxRecDepth 100000 in
theorem uv_cell {w : World} {g : Nat} {l : List Int} {t : TypeId} (hg : w.heap[g]? = some (.cells (uv l).toArray t (0, 0))) (j : Nat) (hj : j < l.length) : w.cell? ⟨g, j, none⟩ = some (.int .u32 (l.getD j 0)) := by
  rw [cell_of_row w g j _ t (0, 0) hg, List.getElem?_toArray]; exact uv_getD l j hj

/-- what stays while schedule goes on, k numbers being made -/
structure SK (N : Nat) (b : List Int) (w wr : World) (k : Nat) : Prop where
  low : Below N w wr
  size : N + 3 ≤ wr.heap.size
  inp : wr.heap[N]? = some (.cells (bv b).toArray 105 (0, 0))
  res : ∃ cs : Array Value, cs.size = 64 ∧ wr.heap[N + 1]? = some (.cells cs 138 (0, 0))
  row : wr.heap[N + 1 + 1]? = some (.cells (uv (schP b k)).toArray 138 (0, 0))
set_option maxRecDepth 100000 in
theorem SK.drewN {N k : Nat} {b : List Int} {w wr : World} (h : SK N b w wr k) (n : Nat) : SK N b w (wr.drewN n) k := ⟨below_drewN h.low n, h.size, h.inp, h.res, h.row⟩
set_option maxRecDepth 100000 in
theorem SK.store {N k : Nat} {b : List Int} {w wr : World} (h : SK N b w wr k) (x : Int) (hk : k < 64) (hx : sch b (k + 1) = sch b k ++ [x]) : SK N b w (wr.setCell ⟨N + 1 + 1, k, none⟩ (.int .u32 x)) (k + 1) := by
  refine ⟨h.low.setCell (p := ⟨N + 1 + 1, k, none⟩) (by show N ≤ N + 1 + 1; omega) _, Nat.le_trans h.size ((Below.refl N wr).setCell (p := ⟨N + 1 + 1, k, none⟩) (by show N ≤ N + 1 + 1; omega) (.int .u32 x)).size, by rw [heap_setCell_other _ _ _ _ (by show N ≠ N + 1 + 1; omega)]; exact h.inp, ?_, ?_⟩
  · obtain ⟨cs, h1, h2⟩ := h.res
    exact ⟨cs, h1, by rw [heap_setCell_other _ _ _ _ (by show N + 1 ≠ N + 1 + 1; omega)]; exact h2⟩
  · rw [heap_setCell_same _ _ _ _ _ _ h.row, uv_set, schP_set b k x hk hx]
set_option maxRecDepth 100000 in
theorem SK.cell {N k : Nat} {b : List Int} {w wr : World} (h : SK N b w wr k) (hk : k ≤ 64) (j : Nat) (hj : j < k) : wr.cell? ⟨N + 1 + 1, j, none⟩ = some (.int .u32 ((sch b k).getD j 0)) := by
  rw [← schP_get b k j hj]; exact uv_cell h.row j (by rw [schP_length b k hk]; omega)
set_option maxRecDepth 100000 in
theorem SK.cellAny {N k : Nat} {b : List Int} {w wr : World} (h : SK N b w wr k) (hk : k < 64) : ∃ v, wr.cell? ⟨N + 1 + 1, k, none⟩ = some v :=
  ⟨_, uv_cell h.row k (by rw [schP_length b k (Nat.le_of_lt hk)]; exact hk)⟩
set_option maxRecDepth 100000 in
theorem SK.free {N k : Nat} {b : List Int} {w wr : World} (h : SK N b w wr k) (j : Nat) : wr.frozen? ⟨N + 1 + 1, j, none⟩ = false := frozen_of_row _ _ _ _ _ h.row

set_option maxRecDepth 100000 in
theorem sch_slice (N k : Nat) (hk : k < 16) (w : World) : (Instr.sliceAt 105 (.pointer (some ⟨N, 0, none⟩)) (some (.int .i64 (4 * (k : Int)))) (some (.int .i64 (4 * ((k : Int) + 1)))) none).run Tryd.prog w = .ok (.slice (some ⟨N, 4 * k, none⟩) 4 (64 - 4 * k)) w := by
  have hlen : Tryd.prog.arrayLen 105 = 64 := by kernel_rfl
  have ht : Tryd.prog.underlying 105 = some (.array (Tryd.prog.arrayLen 105) (Tryd.prog.elem 105)) := by kernel_rfl
  have hsz : (sizeOf (Tryd.prog.elem 105)).run Tryd.prog w = .ok 1 w := by kernel_rfl
  rw [run_sliceAt_array_lh w 105 ⟨N, 0, none⟩ ht .i64 .i64 _ _ (by omega) (by omega) (by rw [hlen]; omega), hsz, hlen]
  have e1 : (4 * (k : Int)).toNat = 4 * k := by omega
  have e2 : (4 * ((k : Int) + 1)).toNat = 4 * k + 4 := by omega
  simp only [Result.andThen_ok, slicedAt, e1, e2]
  rw [if_neg (by omega), Addr.add_lit]
  simp
set_option maxRecDepth 100000 in
theorem turn_q (x n : Int) (w : World) (hx : U32 x) (hn0 : -9223372036854775808 ≤ n) (hn1 : n ≤ 9223372036854775807) :
    Calls Tryd.prog 109 #[.int .u32 x, .int .i64 n] w fun e w' => e = .returned (.int .u32 (turnV x n)) ∧ w' = w :=
  (turn_any x n w hx.1 hx.2 hn0 hn1).mono fun _ _ h => ⟨h.1, h.2.symm⟩
set_option maxRecDepth 100000 in
theorem sch_info : (Tryd.prog.info? 138).map (·.size) = some 64 := by kernel_rfl

set_option maxRecDepth 100000 in
set_option maxHeartbeats 1000000 in
theorem sched_any (b : List Int) (w : World) (hb : Byt b) (hl : b.length = 64) :
    Calls Tryd.prog 108 #[.agg (bv b).toArray] w fun e w' => e = .returned (.agg (uv (sch b 64)).toArray) ∧ Below w.heap.size w w' := by
  have HL : Hid (b.length = 64) := hl
  clear hl
  go_enter Tryd.func108, Tryd.ntmps108
  go_wp2
  obtain ⟨N, hN⟩ : ∃ N, N = w.heap.size := ⟨_, rfl⟩
  have hkept : SK N b w (((w.alloc (.cells (bv b).toArray 105)).alloc (.cells #[.int .u32 0, .int .u32 0, .int .u32 0, .int .u32 0, .int .u32 0, .int .u32 0, .int .u32 0, .int .u32 0, .int .u32 0, .int .u32 0, .int .u32 0, .int .u32 0, .int .u32 0, .int .u32 0, .int .u32 0, .int .u32 0, .int .u32 0, .int .u32 0, .int .u32 0, .int .u32 0, .int .u32 0, .int .u32 0, .int .u32 0, .int .u32 0, .int .u32 0, .int .u32 0, .int .u32 0, .int .u32 0, .int .u32 0, .int .u32 0, .int .u32 0, .int .u32 0, .int .u32 0, .int .u32 0, .int .u32 0, .int .u32 0, .int .u32 0, .int .u32 0, .int .u32 0, .int .u32 0, .int .u32 0, .int .u32 0, .int .u32 0, .int .u32 0, .int .u32 0, .int .u32 0, .int .u32 0, .int .u32 0, .int .u32 0, .int .u32 0, .int .u32 0, .int .u32 0, .int .u32 0, .int .u32 0, .int .u32 0, .int .u32 0, .int .u32 0, .int .u32 0, .int .u32 0, .int .u32 0, .int .u32 0, .int .u32 0, .int .u32 0, .int .u32 0] 138)).alloc (.cells #[.int .u32 0, .int .u32 0, .int .u32 0, .int .u32 0, .int .u32 0, .int .u32 0, .int .u32 0, .int .u32 0, .int .u32 0, .int .u32 0, .int .u32 0, .int .u32 0, .int .u32 0, .int .u32 0, .int .u32 0, .int .u32 0, .int .u32 0, .int .u32 0, .int .u32 0, .int .u32 0, .int .u32 0, .int .u32 0, .int .u32 0, .int .u32 0, .int .u32 0, .int .u32 0, .int .u32 0, .int .u32 0, .int .u32 0, .int .u32 0, .int .u32 0, .int .u32 0, .int .u32 0, .int .u32 0, .int .u32 0, .int .u32 0, .int .u32 0, .int .u32 0, .int .u32 0, .int .u32 0, .int .u32 0, .int .u32 0, .int .u32 0, .int .u32 0, .int .u32 0, .int .u32 0, .int .u32 0, .int .u32 0, .int .u32 0, .int .u32 0, .int .u32 0, .int .u32 0, .int .u32 0, .int .u32 0, .int .u32 0, .int .u32 0, .int .u32 0, .int .u32 0, .int .u32 0, .int .u32 0, .int .u32 0, .int .u32 0, .int .u32 0, .int .u32 0] 138)) 0 := by
    subst hN
    refine ⟨(((Below.refl _ _).alloc (Nat.le_refl _) _).alloc (by simp) _).alloc (by simp; omega) _, by simp, ?_, ⟨#[.int .u32 0, .int .u32 0, .int .u32 0, .int .u32 0, .int .u32 0, .int .u32 0, .int .u32 0, .int .u32 0, .int .u32 0, .int .u32 0, .int .u32 0, .int .u32 0, .int .u32 0, .int .u32 0, .int .u32 0, .int .u32 0, .int .u32 0, .int .u32 0, .int .u32 0, .int .u32 0, .int .u32 0, .int .u32 0, .int .u32 0, .int .u32 0, .int .u32 0, .int .u32 0, .int .u32 0, .int .u32 0, .int .u32 0, .int .u32 0, .int .u32 0, .int .u32 0, .int .u32 0, .int .u32 0, .int .u32 0, .int .u32 0, .int .u32 0, .int .u32 0, .int .u32 0, .int .u32 0, .int .u32 0, .int .u32 0, .int .u32 0, .int .u32 0, .int .u32 0, .int .u32 0, .int .u32 0, .int .u32 0, .int .u32 0, .int .u32 0, .int .u32 0, .int .u32 0, .int .u32 0, .int .u32 0, .int .u32 0, .int .u32 0, .int .u32 0, .int .u32 0, .int .u32 0, .int .u32 0, .int .u32 0, .int .u32 0, .int .u32 0, .int .u32 0], rfl, ?_⟩, ?_⟩
    · rw [heap_alloc_old _ _ (by simp; omega), heap_alloc_old _ _ (by simp), heap_alloc_new]
    · rw [heap_alloc_old _ _ (by simp), show w.heap.size + 1 = (w.alloc (.cells (bv b).toArray 105)).heap.size from by simp, heap_alloc_new]
    · rw [show w.heap.size + 1 + 1 = ((w.alloc (.cells (bv b).toArray 105)).alloc (.cells #[.int .u32 0, .int .u32 0, .int .u32 0, .int .u32 0, .int .u32 0, .int .u32 0, .int .u32 0, .int .u32 0, .int .u32 0, .int .u32 0, .int .u32 0, .int .u32 0, .int .u32 0, .int .u32 0, .int .u32 0, .int .u32 0, .int .u32 0, .int .u32 0, .int .u32 0, .int .u32 0, .int .u32 0, .int .u32 0, .int .u32 0, .int .u32 0, .int .u32 0, .int .u32 0, .int .u32 0, .int .u32 0, .int .u32 0, .int .u32 0, .int .u32 0, .int .u32 0, .int .u32 0, .int .u32 0, .int .u32 0, .int .u32 0, .int .u32 0, .int .u32 0, .int .u32 0, .int .u32 0, .int .u32 0, .int .u32 0, .int .u32 0, .int .u32 0, .int .u32 0, .int .u32 0, .int .u32 0, .int .u32 0, .int .u32 0, .int .u32 0, .int .u32 0, .int .u32 0, .int .u32 0, .int .u32 0, .int .u32 0, .int .u32 0, .int .u32 0, .int .u32 0, .int .u32 0, .int .u32 0, .int .u32 0, .int .u32 0, .int .u32 0, .int .u32 0] 138)).heap.size from by simp, heap_alloc_new]; rfl
  generalize ((w.alloc (.cells (bv b).toArray 105)).alloc (.cells #[.int .u32 0, .int .u32 0, .int .u32 0, .int .u32 0, .int .u32 0, .int .u32 0, .int .u32 0, .int .u32 0, .int .u32 0, .int .u32 0, .int .u32 0, .int .u32 0, .int .u32 0, .int .u32 0, .int .u32 0, .int .u32 0, .int .u32 0, .int .u32 0, .int .u32 0, .int .u32 0, .int .u32 0, .int .u32 0, .int .u32 0, .int .u32 0, .int .u32 0, .int .u32 0, .int .u32 0, .int .u32 0, .int .u32 0, .int .u32 0, .int .u32 0, .int .u32 0, .int .u32 0, .int .u32 0, .int .u32 0, .int .u32 0, .int .u32 0, .int .u32 0, .int .u32 0, .int .u32 0, .int .u32 0, .int .u32 0, .int .u32 0, .int .u32 0, .int .u32 0, .int .u32 0, .int .u32 0, .int .u32 0, .int .u32 0, .int .u32 0, .int .u32 0, .int .u32 0, .int .u32 0, .int .u32 0, .int .u32 0, .int .u32 0, .int .u32 0, .int .u32 0, .int .u32 0, .int .u32 0, .int .u32 0, .int .u32 0, .int .u32 0, .int .u32 0] 138)).alloc (.cells #[.int .u32 0, .int .u32 0, .int .u32 0, .int .u32 0, .int .u32 0, .int .u32 0, .int .u32 0, .int .u32 0, .int .u32 0, .int .u32 0, .int .u32 0, .int .u32 0, .int .u32 0, .int .u32 0, .int .u32 0, .int .u32 0, .int .u32 0, .int .u32 0, .int .u32 0, .int .u32 0, .int .u32 0, .int .u32 0, .int .u32 0, .int .u32 0, .int .u32 0, .int .u32 0, .int .u32 0, .int .u32 0, .int .u32 0, .int .u32 0, .int .u32 0, .int .u32 0, .int .u32 0, .int .u32 0, .int .u32 0, .int .u32 0, .int .u32 0, .int .u32 0, .int .u32 0, .int .u32 0, .int .u32 0, .int .u32 0, .int .u32 0, .int .u32 0, .int .u32 0, .int .u32 0, .int .u32 0, .int .u32 0, .int .u32 0, .int .u32 0, .int .u32 0, .int .u32 0, .int .u32 0, .int .u32 0, .int .u32 0, .int .u32 0, .int .u32 0, .int .u32 0, .int .u32 0, .int .u32 0, .int .u32 0, .int .u32 0, .int .u32 0, .int .u32 0] 138) = W0 at hkept ⊢
  rw [← hN]
  have HN : Hid (N = w.heap.size) := hN
  clear hN
  go_loopw [12] (fun i wr => ∃ k : Nat, k ≤ 16 ∧ i = .int .i64 k ∧ SK N b w wr k) (fun i _ => 16 - (intOf i).toNat)
  case atStart => exact ⟨0, Nat.zero_le _, rfl, hkept⟩
  case round =>
    obtain ⟨k, hk, rfl, hkp⟩ := hrel
    clear hkept
    by_cases hlt : k < 16
    ·
      have hbt : Bts wr (some ⟨N, 4 * k, none⟩) 4 (64 - 4 * k) ((b.drop (4 * k)).take 4) :=
        Bts.pieceB (n := 64) (fun j hj => bv_cell hkp.inp j hj) hb (by have := hkp.size; omega) (4 * k) 4 (64 - 4 * k) (by rw [HL.out]; omega) (by omega) (by unfold maxLen; omega)
      have hu := w4_u b k hb
      have hu2 := hu.2
      have hu1 := hu.1
      have HS := sch_lo b k hlt
      have HW : Hid (getV ((b.drop (4 * k)).take 4) = w4 b k) := rfl
      have hst := hkp.store (w4 b k) (by omega) HS
      have hsl := sch_slice N k hlt
      obtain ⟨c0, hc⟩ := hkp.cellAny (by omega)
      have hf := hkp.free k
      clear HS
      go_wp2_with fail
      refine (get_some _ 4 _ _ _ hbt (by decide) (by decide)).mono ?_
      rintro e w' ⟨rfl, rfl⟩
      rw [HW.out]
      clear hsl hbt
      go_wp2
      go_roundw
      case rel => exact ⟨k + 1, by omega, by go_num, hst⟩
      case measure => simp [intOf]; omega
    · have HK1 : Hid (k = 16) := by show k = 16; omega
      go_wp2
      clear hlt hk
      go_loopw [7] (fun i wr => ∃ k : Nat, 16 ≤ k ∧ k ≤ 64 ∧ i = .int .i64 k ∧ SK N b w wr k) (fun i _ => 64 - (intOf i).toNat)
      case atStart => exact ⟨16, by omega, by omega, rfl, by rw [← HK1.out]; exact hkp⟩
      case round =>
        clear hkp HK1
        obtain ⟨k, hk1, hk2, rfl, hkp⟩ := hrel
        by_cases hlt : k < 64
        ·
          have hU := sch_u b k hb
          have c15 := hkp.cell hk2 (k - 15) (by omega)
          have c2 := hkp.cell hk2 (k - 2) (by omega)
          have c16 := hkp.cell hk2 (k - 16) (by omega)
          have c7 := hkp.cell hk2 (k - 7) (by omega)
          have u15 := hU.getD (k - 15)
          have u2 := hU.getD (k - 2)
          have u16 := hU.getD (k - 16)
          have u7 := hU.getD (k - 7)
          have HS : Hid (sch b (k + 1) = sch b k ++ [wx (sch b k) k]) := sch_hi b k hk1
          have HX : Hid (wx (sch b k) k = ad (ad (ad ((sch b k).getD (k - 16) 0) (sg0 ((sch b k).getD (k - 15) 0))) ((sch b k).getD (k - 7) 0)) (sg1 ((sch b k).getD (k - 2) 0))) := rfl
          clear hU
          generalize (sch b k).getD (k - 15) 0 = v15 at *
          generalize (sch b k).getD (k - 2) 0 = v2 at *
          generalize (sch b k).getD (k - 16) 0 = v16 at *
          generalize (sch b k).getD (k - 7) 0 = v7 at *
          have x1 := xr_eq (turn_u 7 u15) (turn_u 18 u15)
          have x2 := xr_eq (xr_u (turn_u 7 u15) (turn_u 18 u15)) (div_u u15 8 (by decide))
          have y1 := xr_eq (turn_u 17 u2) (turn_u 19 u2)
          have y2 := xr_eq (xr_u (turn_u 17 u2) (turn_u 19 u2)) (div_u u2 1024 (by decide))
          have b15 := u15.1
          have b2 := u2.1
          have k16 : (16 : Int) ≤ (k : Int) := by omega
          have k64 : (k : Int) < 64 := by omega
          go_wp2
          go_quiet (fail)
          replace c16 : (wr.drewN nq).cell? ⟨N + 1 + 1, k - 16, none⟩ = some (.int .u32 v16) := c16
          replace c7 : (wr.drewN nq).cell? ⟨N + 1 + 1, k - 7, none⟩ = some (.int .u32 v7) := c7
          replace hkp := hkp.drewN nq
          clear c15 c2
          generalize wr.drewN nq = wq at c16 c7 hkp ⊢
          go_wp2_with fail
          refine (turn_any _ _ _ u15.1 u15.2 (by decide) (by decide)).mono ?_
          rintro e w' ⟨rfl, rfl⟩
          go_wp2_with fail
          refine (turn_any _ _ _ u15.1 u15.2 (by decide) (by decide)).mono ?_
          rintro e w' ⟨rfl, rfl⟩
          go_wp2_with fail
          refine (turn_any _ _ _ u2.1 u2.2 (by decide) (by decide)).mono ?_
          rintro e w' ⟨rfl, rfl⟩
          go_wp2_with fail
          refine (turn_any _ _ _ u2.1 u2.2 (by decide) (by decide)).mono ?_
          rintro e w' ⟨rfl, rfl⟩
          go_wp2
          clear x1 x2 y1 y2
          generalize hX : xr (xr (turnV v15 7) (turnV v15 18)) (v15 / 8) = X
          generalize hY : xr (xr (turnV v2 17) (turnV v2 19)) (v2 / 1024) = Y
          have HXY : Hid (sch b (k + 1) = sch b k ++ [ad (ad (ad v16 X) v7) Y]) := by show _ = _; rw [HS.out, HX.out, ← hX, ← hY]; rfl
          clear hX hY HS HX
          have s1 : IntKind.u32.wrap (v16 + X) = ad v16 X := IntKind.wrap_u32' _
          have s2 : IntKind.u32.wrap (ad v16 X + v7) = ad (ad v16 X) v7 := IntKind.wrap_u32' _
          have s3 : IntKind.u32.wrap (ad (ad v16 X) v7 + Y) = ad (ad (ad v16 X) v7) Y := IntKind.wrap_u32' _
          obtain ⟨c0, hc⟩ := hkp.cellAny hlt
          have hf := hkp.free k
          have k0 : (0 : Int) ≤ (k : Int) := by omega
          have m16 : IntKind.i64.wrap ((k : Int) - 16) = ((k - 16 : Nat) : Int) := by rw [IntWalk.i64_in _ (by omega)]; omega
          have m7 : IntKind.i64.wrap ((k : Int) - 7) = ((k - 7 : Nat) : Int) := by rw [IntWalk.i64_in _ (by omega)]; omega
          have n16 : ((k - 16 : Nat) : Int) < 64 := by omega
          have n7 : ((k - 7 : Nat) : Int) < 64 := by omega
          have z16 : (0 : Int) ≤ ((k - 16 : Nat) : Int) := by omega
          have z7 : (0 : Int) ≤ ((k - 7 : Nat) : Int) := by omega
          go_region
          have hst := (hkp.store _ hlt HXY.out).drewN 1
          clear hkp HXY c16 c7 hc hf s1 s2 s3
          go_wp2
          go_roundw
          case rel => exact ⟨k + 1, by omega, by omega, by go_num, hst⟩
          case measure => simp [intOf]; omega
        · have HK2 : Hid (k = 64) := by show k = 64; omega
          obtain ⟨cs, hcs, hres⟩ := hkp.res
          have ht := there_row hres
          rw [hcs] at ht
          have hrow := hkp.row
          have HE : Bx (schP b k = sch b 64) := ⟨by rw [HK2.out, schP_end]⟩
          rw [HE.out] at hrow
          have HZ : Bx ((uv (sch b 64)).toArray.size = 64) := ⟨by rw [List.size_toArray, uv_length, sch_length]⟩
          have hbl : Below w.heap.size w wr := by rw [← HN.out]; exact hkp.low
          have hNs : w.heap.size ≤ N + 1 := by have := HN.out; omega
          have HST : Bx ((wr.setCells (N + 1) 0 (uv (sch b 64)).toArray.toList).heap[N + 1]? = some (.cells (uv (sch b 64)).toArray 138 (0, 0))) := ⟨heap_stored hres (by rw [hcs, HZ.out])⟩
          have HBS : Bx (Below w.heap.size w (wr.setCells (N + 1) 0 (uv (sch b 64)).toArray.toList)) := ⟨below_setCells hbl (N + 1) hNs _ 0⟩
          have HTH : Bx (wr.there (N + 1) 0 64) := ⟨ht⟩
          have HON : Bx ((uv (sch b 64)).toArray.all (·.oneCell') = true) := ⟨all_oneCell_toArray (uv_one _)⟩
          clear hkp hres ht hbl hNs hcs HE
          generalize hA : (uv (sch b 64)).toArray = A at hrow HZ HST HBS HON
          have HA : Bx (Ending.returned (.agg A) = .returned (.agg (uv (sch b 64)).toArray)) := ⟨by rw [hA]⟩
          clear hA
          have HI : Bx ((Tryd.prog.info? 138).map (·.size) = some A.size) := ⟨by rw [HZ.out]; exact sch_info⟩
          have hrow' : Bx (wr.heap[N + 1 + 1]? = some (.cells A 138 (0, 0))) := ⟨hrow⟩
          have HTH' : Bx (wr.there (N + 1) 0 A.size) := ⟨by rw [HZ.out]; exact HTH.out⟩
          clear hrow HTH
          go_wp2_with (refine wpList_load_row rfl 138 (.tmp 3) rfl (N + 1 + 1) rfl 138 A (0, 0) _ hrow'.out Tryd.underlying138 rfl HI.out ?_; refine wpList_store_mid rfl 138 (.tmp 2) (.tmp 73) rfl (N + 1) 0 A rfl rfl HTH'.out HI.out HON.out ?_)
          exact bodyPost_ret (v := .agg A) (results_cell_row rfl _ _ (N + 1) 138 A (0, 0) _ rfl HST.out Tryd.underlying138 rfl HI.out) rfl ⟨HA.out, HBS.out⟩
end Go.Proofs.YtbednfacipphhaaDoor
