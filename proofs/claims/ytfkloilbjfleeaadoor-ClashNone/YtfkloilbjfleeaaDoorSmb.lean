/- What schedule answers: the 64 numbers of a block. What mix answers: a state behind all rounds, the package's table holding the chapter's numbers k. What Block and First answer, the package's table holding the chapter's numbers k. -/
import Derived.Test.YtfkloilbjfleeaaDoorSma
namespace Go.Proofs.YtfkloilbjfleeaaDoor
open Go.RowKit
set_option linter.unusedVariables false

/-- w[0] to w[k - 1], and noughts up to 64 -/
def schP (b : List Int) (k : Nat) : List Int := sch b k ++ List.replicate (64 - k) 0
theorem schP_length (b : List Int) (k : Nat) (h : k ≤ 64) : (schP b k).length = 64 := by
  unfold schP; rw [List.length_append, sch_length, List.length_replicate]; omega
theorem schP_end (b : List Int) : schP b 64 = sch b 64 := by unfold schP; simp
theorem schP_set (b : List Int) (k : Nat) (x : Int) (h : k < 64) (hx : sch b (k + 1) = sch b k ++ [x]) : (schP b k).set k x = schP b (k + 1) := by
  unfold schP
  rw [List.set_append_right _ _ (by rw [sch_length]; exact Nat.le_refl _), sch_length, Nat.sub_self, show 64 - k = (64 - (k + 1)) + 1 from by omega, List.replicate_succ, List.set_cons_zero, hx, List.append_assoc]
  rfl
theorem uv_set (l : List Int) (k : Nat) (x : Int) : (uv l).toArray.setIfInBounds k (.int .u32 x) = (uv (l.set k x)).toArray := by
  simp [uv, List.map_set]
theorem schP_get (b : List Int) (k j : Nat) (h : j < k) : (schP b k).getD j 0 = (sch b k).getD j 0 := by
  unfold schP; simp only [List.getD_eq_getElem?_getD]; rw [List.getElem?_append_left (by rw [sch_length]; exact h)]
theorem uv_cell {w : World} {g : Nat} {l : List Int} {t : TypeId} (hg : w.heap[g]? = some (.cells (uv l).toArray t (0, 0))) (j : Nat) (hj : j < l.length) : w.cell? ⟨g, j, none⟩ = some (.int .u32 (l.getD j 0)) := by
  rw [cell_of_row w g j _ t (0, 0) hg, List.getElem?_toArray]; exact uv_getD l j hj

/-- what stays while schedule goes on, k numbers being made -/
structure SK (N : Nat) (b : List Int) (w wr : World) (k : Nat) : Prop where
  low : Below N w wr
  size : N + 3 ≤ wr.heap.size
  inp : wr.heap[N]? = some (.cells (bv b).toArray 78 (0, 0))
  res : ∃ cs : Array Value, cs.size = 64 ∧ wr.heap[N + 1]? = some (.cells cs 106 (0, 0))
  row : wr.heap[N + 1 + 1]? = some (.cells (uv (schP b k)).toArray 106 (0, 0))
theorem SK.drewN {N k : Nat} {b : List Int} {w wr : World} (h : SK N b w wr k) (n : Nat) : SK N b w (wr.drewN n) k := ⟨below_drewN h.low n, h.size, h.inp, h.res, h.row⟩
theorem SK.store {N k : Nat} {b : List Int} {w wr : World} (h : SK N b w wr k) (x : Int) (hk : k < 64) (hx : sch b (k + 1) = sch b k ++ [x]) : SK N b w (wr.setCell ⟨N + 1 + 1, k, none⟩ (.int .u32 x)) (k + 1) := by
  refine ⟨h.low.setCell (p := ⟨N + 1 + 1, k, none⟩) (by show N ≤ N + 1 + 1; omega) _, Nat.le_trans h.size ((Below.refl N wr).setCell (p := ⟨N + 1 + 1, k, none⟩) (by show N ≤ N + 1 + 1; omega) (.int .u32 x)).size, by rw [heap_setCell_other _ _ _ _ (by show N ≠ N + 1 + 1; omega)]; exact h.inp, ?_, ?_⟩
  · obtain ⟨cs, h1, h2⟩ := h.res
    exact ⟨cs, h1, by rw [heap_setCell_other _ _ _ _ (by show N + 1 ≠ N + 1 + 1; omega)]; exact h2⟩
  · rw [heap_setCell_same _ _ _ _ _ _ h.row, uv_set, schP_set b k x hk hx]
theorem SK.cell {N k : Nat} {b : List Int} {w wr : World} (h : SK N b w wr k) (hk : k ≤ 64) (j : Nat) (hj : j < k) : wr.cell? ⟨N + 1 + 1, j, none⟩ = some (.int .u32 ((sch b k).getD j 0)) := by
  rw [← schP_get b k j hj]; exact uv_cell h.row j (by rw [schP_length b k hk]; omega)
theorem SK.cellAny {N k : Nat} {b : List Int} {w wr : World} (h : SK N b w wr k) (hk : k < 64) : ∃ v, wr.cell? ⟨N + 1 + 1, k, none⟩ = some v :=
  ⟨_, uv_cell h.row k (by rw [schP_length b k (Nat.le_of_lt hk)]; exact hk)⟩
theorem SK.free {N k : Nat} {b : List Int} {w wr : World} (h : SK N b w wr k) (j : Nat) : wr.frozen? ⟨N + 1 + 1, j, none⟩ = false := frozen_of_row _ _ _ _ _ h.row

theorem sch_slice (N k : Nat) (hk : k < 16) (w : World) : (Instr.sliceAt 78 (.pointer (some ⟨N, 0, none⟩)) (some (.int .i64 (4 * (k : Int)))) (some (.int .i64 (4 * ((k : Int) + 1)))) none).run Tryd.prog w = .ok (.slice (some ⟨N, 4 * k, none⟩) 4 (64 - 4 * k)) w := by
  have hlen : Tryd.prog.arrayLen 78 = 64 := by kernel_rfl
  have ht : Tryd.prog.underlying 78 = some (.array (Tryd.prog.arrayLen 78) (Tryd.prog.elem 78)) := by kernel_rfl
  have hsz : (sizeOf (Tryd.prog.elem 78)).run Tryd.prog w = .ok 1 w := by kernel_rfl
  rw [run_sliceAt_array_lh w 78 ⟨N, 0, none⟩ ht .i64 .i64 _ _ (by omega) (by omega) (by rw [hlen]; omega), hsz, hlen]
  have e1 : (4 * (k : Int)).toNat = 4 * k := by omega
  have e2 : (4 * ((k : Int) + 1)).toNat = 4 * k + 4 := by omega
  simp only [Result.andThen_ok, slicedAt, e1, e2]
  rw [if_neg (by omega), Addr.add_lit]
  simp
theorem turn_q (x n : Int) (w : World) (hx : U32 x) (hn0 : -9223372036854775808 ≤ n) (hn1 : n ≤ 9223372036854775807) :
    Calls Tryd.prog 85 #[.int .u32 x, .int .i64 n] w fun e w' => e = .returned (.int .u32 (turnV x n)) ∧ w' = w :=
  (turn_any x n w hx.1 hx.2 hn0 hn1).mono fun _ _ h => ⟨h.1, h.2.symm⟩
theorem sch_info : (Tryd.prog.info? 106).map (·.size) = some 64 := by kernel_rfl

set_option maxRecDepth 100000 in
set_option maxHeartbeats 1000000 in
theorem sched_any (b : List Int) (w : World) (hb : Byt b) (hl : b.length = 64) :
    Calls Tryd.prog 82 #[.agg (bv b).toArray] w fun e w' => e = .returned (.agg (uv (sch b 64)).toArray) ∧ Below w.heap.size w w' := by
  have HL : Hid (b.length = 64) := hl
  clear hl
  go_enter Tryd.func82, Tryd.ntmps82
  go_wp2
  obtain ⟨N, hN⟩ : ∃ N, N = w.heap.size := ⟨_, rfl⟩
  have hkept : SK N b w (((w.alloc (.cells (bv b).toArray 78)).alloc (.cells #[.int .u32 0, .int .u32 0, .int .u32 0, .int .u32 0, .int .u32 0, .int .u32 0, .int .u32 0, .int .u32 0, .int .u32 0, .int .u32 0, .int .u32 0, .int .u32 0, .int .u32 0, .int .u32 0, .int .u32 0, .int .u32 0, .int .u32 0, .int .u32 0, .int .u32 0, .int .u32 0, .int .u32 0, .int .u32 0, .int .u32 0, .int .u32 0, .int .u32 0, .int .u32 0, .int .u32 0, .int .u32 0, .int .u32 0, .int .u32 0, .int .u32 0, .int .u32 0, .int .u32 0, .int .u32 0, .int .u32 0, .int .u32 0, .int .u32 0, .int .u32 0, .int .u32 0, .int .u32 0, .int .u32 0, .int .u32 0, .int .u32 0, .int .u32 0, .int .u32 0, .int .u32 0, .int .u32 0, .int .u32 0, .int .u32 0, .int .u32 0, .int .u32 0, .int .u32 0, .int .u32 0, .int .u32 0, .int .u32 0, .int .u32 0, .int .u32 0, .int .u32 0, .int .u32 0, .int .u32 0, .int .u32 0, .int .u32 0, .int .u32 0, .int .u32 0] 106)).alloc (.cells #[.int .u32 0, .int .u32 0, .int .u32 0, .int .u32 0, .int .u32 0, .int .u32 0, .int .u32 0, .int .u32 0, .int .u32 0, .int .u32 0, .int .u32 0, .int .u32 0, .int .u32 0, .int .u32 0, .int .u32 0, .int .u32 0, .int .u32 0, .int .u32 0, .int .u32 0, .int .u32 0, .int .u32 0, .int .u32 0, .int .u32 0, .int .u32 0, .int .u32 0, .int .u32 0, .int .u32 0, .int .u32 0, .int .u32 0, .int .u32 0, .int .u32 0, .int .u32 0, .int .u32 0, .int .u32 0, .int .u32 0, .int .u32 0, .int .u32 0, .int .u32 0, .int .u32 0, .int .u32 0, .int .u32 0, .int .u32 0, .int .u32 0, .int .u32 0, .int .u32 0, .int .u32 0, .int .u32 0, .int .u32 0, .int .u32 0, .int .u32 0, .int .u32 0, .int .u32 0, .int .u32 0, .int .u32 0, .int .u32 0, .int .u32 0, .int .u32 0, .int .u32 0, .int .u32 0, .int .u32 0, .int .u32 0, .int .u32 0, .int .u32 0, .int .u32 0] 106)) 0 := by
    subst hN
    refine ⟨(((Below.refl _ _).alloc (Nat.le_refl _) _).alloc (by simp) _).alloc (by simp; omega) _, by simp, ?_, ⟨#[.int .u32 0, .int .u32 0, .int .u32 0, .int .u32 0, .int .u32 0, .int .u32 0, .int .u32 0, .int .u32 0, .int .u32 0, .int .u32 0, .int .u32 0, .int .u32 0, .int .u32 0, .int .u32 0, .int .u32 0, .int .u32 0, .int .u32 0, .int .u32 0, .int .u32 0, .int .u32 0, .int .u32 0, .int .u32 0, .int .u32 0, .int .u32 0, .int .u32 0, .int .u32 0, .int .u32 0, .int .u32 0, .int .u32 0, .int .u32 0, .int .u32 0, .int .u32 0, .int .u32 0, .int .u32 0, .int .u32 0, .int .u32 0, .int .u32 0, .int .u32 0, .int .u32 0, .int .u32 0, .int .u32 0, .int .u32 0, .int .u32 0, .int .u32 0, .int .u32 0, .int .u32 0, .int .u32 0, .int .u32 0, .int .u32 0, .int .u32 0, .int .u32 0, .int .u32 0, .int .u32 0, .int .u32 0, .int .u32 0, .int .u32 0, .int .u32 0, .int .u32 0, .int .u32 0, .int .u32 0, .int .u32 0, .int .u32 0, .int .u32 0, .int .u32 0], rfl, ?_⟩, ?_⟩
    · rw [heap_alloc_old _ _ (by simp; omega), heap_alloc_old _ _ (by simp), heap_alloc_new]
    · rw [heap_alloc_old _ _ (by simp), show w.heap.size + 1 = (w.alloc (.cells (bv b).toArray 78)).heap.size from by simp, heap_alloc_new]
    · rw [show w.heap.size + 1 + 1 = ((w.alloc (.cells (bv b).toArray 78)).alloc (.cells #[.int .u32 0, .int .u32 0, .int .u32 0, .int .u32 0, .int .u32 0, .int .u32 0, .int .u32 0, .int .u32 0, .int .u32 0, .int .u32 0, .int .u32 0, .int .u32 0, .int .u32 0, .int .u32 0, .int .u32 0, .int .u32 0, .int .u32 0, .int .u32 0, .int .u32 0, .int .u32 0, .int .u32 0, .int .u32 0, .int .u32 0, .int .u32 0, .int .u32 0, .int .u32 0, .int .u32 0, .int .u32 0, .int .u32 0, .int .u32 0, .int .u32 0, .int .u32 0, .int .u32 0, .int .u32 0, .int .u32 0, .int .u32 0, .int .u32 0, .int .u32 0, .int .u32 0, .int .u32 0, .int .u32 0, .int .u32 0, .int .u32 0, .int .u32 0, .int .u32 0, .int .u32 0, .int .u32 0, .int .u32 0, .int .u32 0, .int .u32 0, .int .u32 0, .int .u32 0, .int .u32 0, .int .u32 0, .int .u32 0, .int .u32 0, .int .u32 0, .int .u32 0, .int .u32 0, .int .u32 0, .int .u32 0, .int .u32 0, .int .u32 0, .int .u32 0] 106)).heap.size from by simp, heap_alloc_new]; rfl
  generalize ((w.alloc (.cells (bv b).toArray 78)).alloc (.cells #[.int .u32 0, .int .u32 0, .int .u32 0, .int .u32 0, .int .u32 0, .int .u32 0, .int .u32 0, .int .u32 0, .int .u32 0, .int .u32 0, .int .u32 0, .int .u32 0, .int .u32 0, .int .u32 0, .int .u32 0, .int .u32 0, .int .u32 0, .int .u32 0, .int .u32 0, .int .u32 0, .int .u32 0, .int .u32 0, .int .u32 0, .int .u32 0, .int .u32 0, .int .u32 0, .int .u32 0, .int .u32 0, .int .u32 0, .int .u32 0, .int .u32 0, .int .u32 0, .int .u32 0, .int .u32 0, .int .u32 0, .int .u32 0, .int .u32 0, .int .u32 0, .int .u32 0, .int .u32 0, .int .u32 0, .int .u32 0, .int .u32 0, .int .u32 0, .int .u32 0, .int .u32 0, .int .u32 0, .int .u32 0, .int .u32 0, .int .u32 0, .int .u32 0, .int .u32 0, .int .u32 0, .int .u32 0, .int .u32 0, .int .u32 0, .int .u32 0, .int .u32 0, .int .u32 0, .int .u32 0, .int .u32 0, .int .u32 0, .int .u32 0, .int .u32 0] 106)).alloc (.cells #[.int .u32 0, .int .u32 0, .int .u32 0, .int .u32 0, .int .u32 0, .int .u32 0, .int .u32 0, .int .u32 0, .int .u32 0, .int .u32 0, .int .u32 0, .int .u32 0, .int .u32 0, .int .u32 0, .int .u32 0, .int .u32 0, .int .u32 0, .int .u32 0, .int .u32 0, .int .u32 0, .int .u32 0, .int .u32 0, .int .u32 0, .int .u32 0, .int .u32 0, .int .u32 0, .int .u32 0, .int .u32 0, .int .u32 0, .int .u32 0, .int .u32 0, .int .u32 0, .int .u32 0, .int .u32 0, .int .u32 0, .int .u32 0, .int .u32 0, .int .u32 0, .int .u32 0, .int .u32 0, .int .u32 0, .int .u32 0, .int .u32 0, .int .u32 0, .int .u32 0, .int .u32 0, .int .u32 0, .int .u32 0, .int .u32 0, .int .u32 0, .int .u32 0, .int .u32 0, .int .u32 0, .int .u32 0, .int .u32 0, .int .u32 0, .int .u32 0, .int .u32 0, .int .u32 0, .int .u32 0, .int .u32 0, .int .u32 0, .int .u32 0, .int .u32 0] 106) = W0 at hkept ⊢
  rw [← hN]
  have HN : Hid (N = w.heap.size) := hN
  clear hN
  go_loopw [12] (fun i wr => ∃ k : Nat, k ≤ 16 ∧ i = .int .i64 k ∧ SK N b w wr k) (fun i _ => 16 - (intOf i).toNat)
  case atStart => exact ⟨0, Nat.zero_le _, rfl, hkept⟩
  case round =>
    obtain ⟨k, hk, rfl, hkp⟩ := hrel
    clear hkept
    by_cases hlt : k < 16
    ·
      have hbt : Bts wr (some ⟨N, 4 * k, none⟩) 4 (64 - 4 * k) ((b.drop (4 * k)).take 4) :=
        Bts.piece (n := 64) (fun j hj => bv_cell hkp.inp j hj) hb (by have := hkp.size; omega) (4 * k) 4 (64 - 4 * k) (by rw [HL.out]; omega) (by omega) (by unfold maxLen; omega)
      have hu := w4_u b k hb
      have hu2 := hu.2
      have hu1 := hu.1
      have HS := sch_lo b k hlt
      have HW : Hid (getV ((b.drop (4 * k)).take 4) = w4 b k) := rfl
      have hst := hkp.store (w4 b k) (by omega) HS
      have hsl := sch_slice N k hlt
      obtain ⟨c0, hc⟩ := hkp.cellAny (by omega)
      have hf := hkp.free k
      clear HS
      go_wp2_with fail
      refine (get_some _ 4 _ _ _ hbt (by decide) (by decide)).mono ?_
      rintro e w' ⟨rfl, rfl⟩
      rw [HW.out]
      clear hsl hbt
      go_wp2
      go_roundw
      case rel => exact ⟨k + 1, by omega, by go_num, hst⟩
      case measure => simp [intOf]; omega
    · have HK1 : Hid (k = 16) := by show k = 16; omega
      go_wp2
      clear hlt hk
      go_loopw [7] (fun i wr => ∃ k : Nat, 16 ≤ k ∧ k ≤ 64 ∧ i = .int .i64 k ∧ SK N b w wr k) (fun i _ => 64 - (intOf i).toNat)
      case atStart => exact ⟨16, by omega, by omega, rfl, by rw [← HK1.out]; exact hkp⟩
      case round =>
        clear hkp HK1
        obtain ⟨k, hk1, hk2, rfl, hkp⟩ := hrel
        by_cases hlt : k < 64
        ·
          have hU := sch_u b k hb
          have c15 := hkp.cell hk2 (k - 15) (by omega)
          have c2 := hkp.cell hk2 (k - 2) (by omega)
          have c16 := hkp.cell hk2 (k - 16) (by omega)
          have c7 := hkp.cell hk2 (k - 7) (by omega)
          have u15 := hU.getD (k - 15)
          have u2 := hU.getD (k - 2)
          have u16 := hU.getD (k - 16)
          have u7 := hU.getD (k - 7)
          have HS : Hid (sch b (k + 1) = sch b k ++ [wx (sch b k) k]) := sch_hi b k hk1
          have HX : Hid (wx (sch b k) k = ad (ad (ad ((sch b k).getD (k - 16) 0) (sg0 ((sch b k).getD (k - 15) 0))) ((sch b k).getD (k - 7) 0)) (sg1 ((sch b k).getD (k - 2) 0))) := rfl
          clear hU
          generalize (sch b k).getD (k - 15) 0 = v15 at *
          generalize (sch b k).getD (k - 2) 0 = v2 at *
          generalize (sch b k).getD (k - 16) 0 = v16 at *
          generalize (sch b k).getD (k - 7) 0 = v7 at *
          have x1 := xr_eq (turn_u 7 u15) (turn_u 18 u15)
          have x2 := xr_eq (xr_u (turn_u 7 u15) (turn_u 18 u15)) (div_u u15 8 (by decide))
          have y1 := xr_eq (turn_u 17 u2) (turn_u 19 u2)
          have y2 := xr_eq (xr_u (turn_u 17 u2) (turn_u 19 u2)) (div_u u2 1024 (by decide))
          have b15 := u15.1
          have b2 := u2.1
          have k16 : (16 : Int) ≤ (k : Int) := by omega
          have k64 : (k : Int) < 64 := by omega
          go_wp2
          go_quiet (fail)
          replace c16 : (wr.drewN nq).cell? ⟨N + 1 + 1, k - 16, none⟩ = some (.int .u32 v16) := c16
          replace c7 : (wr.drewN nq).cell? ⟨N + 1 + 1, k - 7, none⟩ = some (.int .u32 v7) := c7
          replace hkp := hkp.drewN nq
          clear c15 c2
          generalize wr.drewN nq = wq at c16 c7 hkp ⊢
          go_wp2_with fail
          refine (turn_any _ _ _ u15.1 u15.2 (by decide) (by decide)).mono ?_
          rintro e w' ⟨rfl, rfl⟩
          go_wp2_with fail
          refine (turn_any _ _ _ u15.1 u15.2 (by decide) (by decide)).mono ?_
          rintro e w' ⟨rfl, rfl⟩
          go_wp2_with fail
          refine (turn_any _ _ _ u2.1 u2.2 (by decide) (by decide)).mono ?_
          rintro e w' ⟨rfl, rfl⟩
          go_wp2_with fail
          refine (turn_any _ _ _ u2.1 u2.2 (by decide) (by decide)).mono ?_
          rintro e w' ⟨rfl, rfl⟩
          go_wp2
          clear x1 x2 y1 y2
          generalize hX : xr (xr (turnV v15 7) (turnV v15 18)) (v15 / 8) = X
          generalize hY : xr (xr (turnV v2 17) (turnV v2 19)) (v2 / 1024) = Y
          have HXY : Hid (sch b (k + 1) = sch b k ++ [ad (ad (ad v16 X) v7) Y]) := by show _ = _; rw [HS.out, HX.out, ← hX, ← hY]; rfl
          clear hX hY HS HX
          have s1 : IntKind.u32.wrap (v16 + X) = ad v16 X := IntKind.wrap_u32' _
          have s2 : IntKind.u32.wrap (ad v16 X + v7) = ad (ad v16 X) v7 := IntKind.wrap_u32' _
          have s3 : IntKind.u32.wrap (ad (ad v16 X) v7 + Y) = ad (ad (ad v16 X) v7) Y := IntKind.wrap_u32' _
          obtain ⟨c0, hc⟩ := hkp.cellAny hlt
          have hf := hkp.free k
          have k0 : (0 : Int) ≤ (k : Int) := by omega
          have m16 : IntKind.i64.wrap ((k : Int) - 16) = ((k - 16 : Nat) : Int) := by rw [IntWalk.i64_in _ (by omega)]; omega
          have m7 : IntKind.i64.wrap ((k : Int) - 7) = ((k - 7 : Nat) : Int) := by rw [IntWalk.i64_in _ (by omega)]; omega
          have n16 : ((k - 16 : Nat) : Int) < 64 := by omega
          have n7 : ((k - 7 : Nat) : Int) < 64 := by omega
          have z16 : (0 : Int) ≤ ((k - 16 : Nat) : Int) := by omega
          have z7 : (0 : Int) ≤ ((k - 7 : Nat) : Int) := by omega
          go_region
          have hst := (hkp.store _ hlt HXY.out).drewN 1
          clear hkp HXY c16 c7 hc hf s1 s2 s3
          go_wp2
          go_roundw
          case rel => exact ⟨k + 1, by omega, by omega, by go_num, hst⟩
          case measure => simp [intOf]; omega
        · have HK2 : Hid (k = 64) := by show k = 64; omega
          obtain ⟨cs, hcs, hres⟩ := hkp.res
          have ht := there_row hres
          rw [hcs] at ht
          have hrow := hkp.row
          have HE : Bx (schP b k = sch b 64) := ⟨by rw [HK2.out, schP_end]⟩
          rw [HE.out] at hrow
          have HZ : Bx ((uv (sch b 64)).toArray.size = 64) := ⟨by rw [List.size_toArray, uv_length, sch_length]⟩
          have hbl : Below w.heap.size w wr := by rw [← HN.out]; exact hkp.low
          have hNs : w.heap.size ≤ N + 1 := by have := HN.out; omega
          have HST : Bx ((wr.setCells (N + 1) 0 (uv (sch b 64)).toArray.toList).heap[N + 1]? = some (.cells (uv (sch b 64)).toArray 106 (0, 0))) := ⟨heap_stored hres (by rw [hcs, HZ.out])⟩
          have HBS : Bx (Below w.heap.size w (wr.setCells (N + 1) 0 (uv (sch b 64)).toArray.toList)) := ⟨below_setCells hbl (N + 1) hNs _ 0⟩
          have HTH : Bx (wr.there (N + 1) 0 64) := ⟨ht⟩
          have HON : Bx ((uv (sch b 64)).toArray.all (·.oneCell') = true) := ⟨all_oneCell_toArray (uv_one _)⟩
          clear hkp hres ht hbl hNs hcs HE
          generalize hA : (uv (sch b 64)).toArray = A at hrow HZ HST HBS HON
          have HA : Bx (Ending.returned (.agg A) = .returned (.agg (uv (sch b 64)).toArray)) := ⟨by rw [hA]⟩
          clear hA
          have HI : Bx ((Tryd.prog.info? 106).map (·.size) = some A.size) := ⟨by rw [HZ.out]; exact sch_info⟩
          have hrow' : Bx (wr.heap[N + 1 + 1]? = some (.cells A 106 (0, 0))) := ⟨hrow⟩
          have HTH' : Bx (wr.there (N + 1) 0 A.size) := ⟨by rw [HZ.out]; exact HTH.out⟩
          clear hrow HTH
          go_wp2_with (refine wpList_load_row rfl 106 (.tmp 3) rfl (N + 1 + 1) rfl 106 A (0, 0) _ hrow'.out Tryd.underlying106 rfl HI.out ?_; refine wpList_store_mid rfl 106 (.tmp 2) (.tmp 73) rfl (N + 1) 0 A rfl rfl HTH'.out HI.out HON.out ?_)
          exact bodyPost_ret (v := .agg A) (results_cell_row rfl _ _ (N + 1) 106 A (0, 0) _ rfl HST.out Tryd.underlying106 rfl HI.out) rfl ⟨HA.out, HBS.out⟩
end Go.Proofs.YtfkloilbjfleeaaDoor
namespace Go.Proofs.YtfkloilbjfleeaaDoor
open Go.RowKit
set_option linter.unusedVariables false

/-- the package's table holds the numbers k -/
structure Tab (w : World) : Prop where
  pos : 0 < w.heap.size
  cell : ∀ i, i < 64 → w.cell? ⟨0, i, none⟩ = some (.int .u32 (keyL.getD i 0))
theorem Tab.below {w w' : World} (h : Tab w) (hb : Below w.heap.size w w') : Tab w' :=
  ⟨Nat.lt_of_lt_of_le h.pos hb.size, fun i hi => (hb.cell (p := ⟨0, i, none⟩) h.pos).trans (h.cell i hi)⟩
theorem Tab.drewN {w : World} (h : Tab w) (n : Nat) : Tab (w.drewN n) := ⟨h.pos, h.cell⟩

/-- what stays while mix goes on -/
structure MK (N : Nat) (s : St) (l : List Int) (w wr : World) : Prop where
  low : Below N w wr
  size : N + 3 ≤ wr.heap.size
  st : wr.heap[N]? = some (.cells s.cells 76 (0, 0))
  row : wr.heap[N + 1]? = some (.cells (uv l).toArray 106 (0, 0))
  res : ∃ cs : Array Value, cs.size = 8 ∧ wr.heap[N + 1 + 1]? = some (.cells cs 76 (0, 0))
  tab : Tab wr
theorem MK.drewN {N : Nat} {s : St} {l : List Int} {w wr : World} (h : MK N s l w wr) (n : Nat) : MK N s l w (wr.drewN n) := ⟨below_drewN h.low n, h.size, h.st, h.row, h.res, h.tab.drewN n⟩

set_option maxRecDepth 100000 in
set_option maxHeartbeats 1000000 in
theorem mix_any (s : St) (b : List Int) (w : World) (hs : StU s) (hb : Byt b) (htab : Tab w) :
    Calls Tryd.prog 81 #[.agg s.cells, .agg (uv (sch b 64)).toArray] w fun e w' => e = .returned (.agg (rnds b s 64).cells) ∧ Below w.heap.size w w' := by
  have HLn : Hid ((sch b 64).length = 64) := sch_length b 64
  have HLu : Hid (U32s (sch b 64)) := sch_u b 64 hb
  have HR : Hid (∀ j, rnds b s (j + 1) = rnd (keyL.getD j 0) ((sch b 64).getD j 0) (rnds b s j)) := fun j => rfl
  go_enter Tryd.func81, Tryd.ntmps81
  generalize sch b 64 = l at HLn HLu HR ⊢
  go_wp2
  obtain ⟨N, hN⟩ : ∃ N, N = w.heap.size := ⟨_, rfl⟩
  have hkept : MK N s l w (((w.alloc (.cells s.cells 76)).alloc (.cells (uv l).toArray 106)).alloc (.cells #[.int .u32 0, .int .u32 0, .int .u32 0, .int .u32 0, .int .u32 0, .int .u32 0, .int .u32 0, .int .u32 0] 76)) := by
    subst hN
    have hlow : Below w.heap.size w (((w.alloc (.cells s.cells 76)).alloc (.cells (uv l).toArray 106)).alloc (.cells #[.int .u32 0, .int .u32 0, .int .u32 0, .int .u32 0, .int .u32 0, .int .u32 0, .int .u32 0, .int .u32 0] 76)) := (((Below.refl _ _).alloc (Nat.le_refl _) _).alloc (by simp) _).alloc (by simp; omega) _
    refine ⟨hlow, by simp, ?_, ?_, ⟨#[.int .u32 0, .int .u32 0, .int .u32 0, .int .u32 0, .int .u32 0, .int .u32 0, .int .u32 0, .int .u32 0], rfl, ?_⟩, htab.below hlow⟩
    · rw [heap_alloc_old _ _ (by simp; omega), heap_alloc_old _ _ (by simp), heap_alloc_new]
    · rw [heap_alloc_old _ _ (by simp), show w.heap.size + 1 = (w.alloc (.cells s.cells 76)).heap.size from by simp, heap_alloc_new]
    · rw [show w.heap.size + 1 + 1 = ((w.alloc (.cells s.cells 76)).alloc (.cells (uv l).toArray 106)).heap.size from by simp, heap_alloc_new]
  generalize ((w.alloc (.cells s.cells 76)).alloc (.cells (uv l).toArray 106)).alloc (.cells #[.int .u32 0, .int .u32 0, .int .u32 0, .int .u32 0, .int .u32 0, .int .u32 0, .int .u32 0, .int .u32 0] 76) = W0 at hkept ⊢
  rw [← hN]
  have HN : Hid (N = w.heap.size) := hN
  clear hN htab
  obtain ⟨c0, c1, c2, c3, c4, c5, c6, c7⟩ := st_cell hkept.st
  go_quiet (fail)
  go_wp2
  replace hkept := hkept.drewN nq
  clear c0 c1 c2 c3 c4 c5 c6 c7
  generalize W0.drewN nq = wq at hkept ⊢
  go_loopw [5, 6, 7, 8, 9, 10, 11, 12, 32] (fun va vb vc vd ve vf vg vh i wr => ∃ (j : Nat) (t : St), j ≤ 64 ∧ i = .int .i64 j ∧ rnds b s j = t ∧ va = .int .u32 t.a ∧ vb = .int .u32 t.b ∧ vc = .int .u32 t.c ∧ vd = .int .u32 t.d ∧ ve = .int .u32 t.e ∧ vf = .int .u32 t.f ∧ vg = .int .u32 t.g ∧ vh = .int .u32 t.h ∧ MK N s l w wr) (fun _ _ _ _ _ _ _ _ i _ => 64 - (intOf i).toNat)
  case atStart => exact ⟨0, s, Nat.zero_le _, rfl, rfl, rfl, rfl, rfl, rfl, rfl, rfl, rfl, rfl, hkept⟩
  case round =>
    clear hkept
    obtain ⟨j, t, hj, rfl, hrt, rfl, rfl, rfl, rfl, rfl, rfl, rfl, rfl, hkp⟩ := hrel
    have htu : StU t := by rw [← hrt]; exact rnds_u b hs j
    by_cases hjl : j < 64
    ·
      have HRj : Hid (rnds b s (j + 1) = rnd (keyL.getD j 0) (l.getD j 0) t) := by show _ = _; rw [← hrt]; exact HR.out j
      clear hrt
      have hrow := uv_cell hkp.row j (by rw [HLn.out]; exact hjl)
      have htb := hkp.tab.cell j hjl
      have hru := HLu.out.getD j
      have hku := keyL_u.getD j
      obtain ⟨a, b', c, d, e, f, g', hh⟩ := t
      simp only []
      generalize l.getD j 0 = wj at hrow hru HRj
      generalize keyL.getD j 0 = kj at hku HRj htb
      have q1 := xr_eq (turn_u 6 htu.e) (turn_u 11 htu.e)
      have q2 := xr_eq (xr_u (turn_u 6 htu.e) (turn_u 11 htu.e)) (turn_u 25 htu.e)
      have a0 : bits .xor .u32 (if IntKind.u32.signed = true then -1 else IntKind.u32.max) e = nt e := not_eq htu.e
      have a1 := an_eq htu.e htu.f
      have a2 := an_eq (nt_u htu.e) htu.g
      have a3 := xr_eq (an_u htu.e htu.f) (an_u (nt_u htu.e) htu.g)
      have s1 : IntKind.u32.wrap (hh + xr (xr (turnV e 6) (turnV e 11)) (turnV e 25)) = ad hh (thr e 6 11 25) := IntKind.wrap_u32' _
      have s2 : IntKind.u32.wrap (ad hh (thr e 6 11 25) + xr (an e f) (an (nt e) g')) = ad (ad hh (thr e 6 11 25)) (xr (an e f) (an (nt e) g')) := IntKind.wrap_u32' _
      have s3 : IntKind.u32.wrap (ad (ad hh (thr e 6 11 25)) (xr (an e f) (an (nt e) g')) + kj) = ad (ad (ad hh (thr e 6 11 25)) (xr (an e f) (an (nt e) g'))) kj := IntKind.wrap_u32' _
      have s4 : IntKind.u32.wrap (ad (ad (ad hh (thr e 6 11 25)) (xr (an e f) (an (nt e) g'))) kj + wj) = ad (ad (ad (ad hh (thr e 6 11 25)) (xr (an e f) (an (nt e) g'))) kj) wj := IntKind.wrap_u32' _
      have hjk : (j : Int) < 64 := by omega
      have hj0 : (0 : Int) ≤ (j : Int) := by omega
      go_wp2
      go_quiet ((go_at_call 85; exact Calls.quiet_of_same (turn_q _ _ _ htu.e (by decide) (by decide))))
      replace hkp := hkp.drewN nq
      clear q1 q2 a0 a1 a2 a3 s1 s2 s3 s4 hrow htb
      generalize wr.drewN nq = wq at hkp ⊢
      have HT : Hid (ad (ad (ad (ad hh (thr e 6 11 25)) (xr (an e f) (an (nt e) g'))) kj) wj = rT kj wj ⟨a, b', c, d, e, f, g', hh⟩) := rfl
      have hTu : U32 (ad (ad (ad (ad hh (thr e 6 11 25)) (xr (an e f) (an (nt e) g'))) kj) wj) := ad_u _ _
      generalize ad (ad (ad (ad hh (thr e 6 11 25)) (xr (an e f) (an (nt e) g'))) kj) wj = T at HT hTu ⊢
      have p1 := an_eq htu.a htu.b
      have p2 := an_eq htu.a htu.c
      have p3 := xr_eq (an_u htu.a htu.b) (an_u htu.a htu.c)
      have p4 := an_eq htu.b htu.c
      have p5 := xr_eq (xr_u (an_u htu.a htu.b) (an_u htu.a htu.c)) (an_u htu.b htu.c)
      have q1 := xr_eq (turn_u 2 htu.a) (turn_u 13 htu.a)
      have q2 := xr_eq (xr_u (turn_u 2 htu.a) (turn_u 13 htu.a)) (turn_u 22 htu.a)
      go_wp2_with fail
      refine (turn_any _ _ _ htu.a.1 htu.a.2 (by decide) (by decide)).mono ?_
      rintro e1 w1 ⟨rfl, rfl⟩
      go_wp2_with fail
      refine (turn_any _ _ _ htu.a.1 htu.a.2 (by decide) (by decide)).mono ?_
      rintro e1 w1 ⟨rfl, rfl⟩
      go_wp2_with fail
      refine (turn_any _ _ _ htu.a.1 htu.a.2 (by decide) (by decide)).mono ?_
      rintro e1 w1 ⟨rfl, rfl⟩
      go_wp2
      go_roundw
      case rel => exact ⟨j + 1, rnd kj wj ⟨a, b', c, d, e, f, g', hh⟩, by omega, by go_num, HRj.out, by unfold rnd; rw [← HT.out]; rfl, rfl, rfl, rfl, by unfold rnd; rw [← HT.out]; rfl, rfl, rfl, rfl, hkp⟩
      case measure => simp [intOf]; omega
    · have HJ : Hid (j = 64) := by show j = 64; omega
      have HF : Bx (Ending.returned (.agg t.cells) = .returned (.agg (rnds b s 64).cells)) := ⟨by rw [← hrt, HJ.out]⟩
      clear hrt
      obtain ⟨cs, hcs, hres⟩ := hkp.res
      have ht := there_row hres
      rw [hcs] at ht
      have hbl : Below w.heap.size w wr := by rw [← HN.out]; exact hkp.low
      have hNs : w.heap.size ≤ N + 1 + 1 := by have := HN.out; omega
      have HST : Bx ((wr.setCells (N + 1 + 1) 0 t.cells.toList).heap[N + 1 + 1]? = some (.cells t.cells 76 (0, 0))) := ⟨heap_stored (vs := t.cells) hres (by rw [hcs]; rfl)⟩
      have HBS : Bx (Below w.heap.size w (wr.setCells (N + 1 + 1) 0 t.cells.toList)) := ⟨below_setCells hbl (N + 1 + 1) hNs t.cells.toList 0⟩
      have HTH : Bx (wr.there (N + 1 + 1) 0 8) := ⟨ht⟩
      clear hkp hres ht hbl hNs hcs
      go_wp2_with (refine wpList_store_mid rfl 76 (.tmp 4) (.tmp 103) rfl (N + 1 + 1) 0 t.cells rfl rfl HTH.out (cells_info _) (cells_one _) ?_)
      exact bodyPost_ret (v := .agg t.cells) (results_cell_row rfl _ _ (N + 1 + 1) 76 t.cells (0, 0) _ rfl HST.out Tryd.underlying76 rfl (cells_info _)) rfl ⟨HF.out, HBS.out⟩
end Go.Proofs.YtfkloilbjfleeaaDoor
namespace Go.Proofs.YtfkloilbjfleeaaDoor
open Go.RowKit
set_option linter.unusedVariables false

set_option maxHeartbeats 400000 in
theorem first_any (w : World) :
    Calls Tryd.prog 69 #[] w fun e w' => e = .returned (.agg st0.cells) ∧ Below w.heap.size w w' := by
  go_enter Tryd.func69, Tryd.ntmps69
  go_wp2
  exact bodyPost_ret (v := .agg #[.int .u32 1779033703, .int .u32 3144134277, .int .u32 1013904242, .int .u32 2773480762, .int .u32 1359893119, .int .u32 2600822924, .int .u32 528734635, .int .u32 1541459225]) (by simp [results, Tryd.results69, go_sem]) rfl ⟨rfl, (Below.refl _ _).alloc (Nat.le_refl _) _⟩

/-- what stays while Block goes on, the state's row being l -/
structure BK (N : Nat) (l : List Int) (b : List Int) (w wr : World) : Prop where
  low : Below N w wr
  size : N + 3 ≤ wr.heap.size
  st : wr.heap[N]? = some (.cells (uv l).toArray 76 (0, 0))
  inp : wr.heap[N + 1]? = some (.cells (bv b).toArray 78 (0, 0))
  res : ∃ cs : Array Value, cs.size = 8 ∧ wr.heap[N + 1 + 1]? = some (.cells cs 76 (0, 0))
  tab : Tab wr
theorem BK.drewN {N : Nat} {l b : List Int} {w wr : World} (h : BK N l b w wr) (n : Nat) : BK N l b w (wr.drewN n) := ⟨below_drewN h.low n, h.size, h.st, h.inp, h.res, h.tab.drewN n⟩
theorem BK.step {N : Nat} {l b : List Int} {w wr w1 : World} (h : BK N l b w wr) (hb : Below wr.heap.size wr w1) : BK N l b w w1 := by
  have hs := h.size
  exact ⟨h.low.trans (hb.mono (by omega)), Nat.le_trans h.size hb.size, by rw [hb.block _ (by omega)]; exact h.st, by rw [hb.block _ (by omega)]; exact h.inp,
    by obtain ⟨cs, h1, h2⟩ := h.res; exact ⟨cs, h1, by rw [hb.block _ (by omega)]; exact h2⟩, h.tab.below hb⟩
theorem BK.store {N : Nat} {l b : List Int} {w wr : World} (h : BK N l b w wr) (hN : 0 < N) (j : Nat) (x : Int) : BK N (l.set j x) b w (wr.setCell ⟨N, j, none⟩ (.int .u32 x)) := by
  have hlow : Below N wr (wr.setCell ⟨N, j, none⟩ (.int .u32 x)) := (Below.refl N wr).setCell (p := ⟨N, j, none⟩) (Nat.le_refl _) _
  refine ⟨h.low.trans hlow, Nat.le_trans h.size hlow.size, ?_, by rw [heap_setCell_other _ _ _ _ (by show N + 1 ≠ N; omega)]; exact h.inp, ?_, ?_⟩
  · rw [heap_setCell_same _ _ _ _ _ _ h.st, uv_set]
  · obtain ⟨cs, h1, h2⟩ := h.res
    exact ⟨cs, h1, by rw [heap_setCell_other _ _ _ _ (by show N + 1 + 1 ≠ N; omega)]; exact h2⟩
  · exact ⟨Nat.lt_of_lt_of_le h.tab.pos hlow.size, fun i hi => (hlow.cell (p := ⟨0, i, none⟩) hN).trans (h.tab.cell i hi)⟩
theorem range_row {w : World} {g : Nat} {cs : Array Value} {t : TypeId} (h : w.heap[g]? = some (.cells cs t (0, 0))) : w.rangeAt g 0 cs.toList := by
  have := World.rangeAt_of_block h 0 cs.size
  simpa using this
theorem BK.held {N : Nat} {s : St} {b : List Int} {w w' : World} (h : BK N s.list b w w') : w'.cell? ⟨N, 0, none⟩ = some (.int .u32 s.a) ∧ w'.cell? ⟨N, 1, none⟩ = some (.int .u32 s.b) ∧ w'.cell? ⟨N, 2, none⟩ = some (.int .u32 s.c) ∧ w'.cell? ⟨N, 3, none⟩ = some (.int .u32 s.d) ∧ w'.cell? ⟨N, 4, none⟩ = some (.int .u32 s.e) ∧ w'.cell? ⟨N, 5, none⟩ = some (.int .u32 s.f) ∧ w'.cell? ⟨N, 6, none⟩ = some (.int .u32 s.g) ∧ w'.cell? ⟨N, 7, none⟩ = some (.int .u32 s.h) ∧ w'.rangeAt (N + 1) 0 (bv b) ∧ BK N s.list b w w' := by
  obtain ⟨c0, c1, c2, c3, c4, c5, c6, c7⟩ := st_cell (s := s) h.st
  exact ⟨c0, c1, c2, c3, c4, c5, c6, c7, range_row h.inp, h⟩
theorem held_tab {N : Nat} {s : St} {b : List Int} {w w' : World} {p0 p1 p2 p3 p4 p5 p6 p7 p8 : Prop} (h : p0 ∧ p1 ∧ p2 ∧ p3 ∧ p4 ∧ p5 ∧ p6 ∧ p7 ∧ p8 ∧ BK N s.list b w w') : Tab w' := h.2.2.2.2.2.2.2.2.2.tab
theorem held_step {N : Nat} {s : St} {b : List Int} {w w' w1 : World} {p0 p1 p2 p3 p4 p5 p6 p7 p8 : Prop} (h : p0 ∧ p1 ∧ p2 ∧ p3 ∧ p4 ∧ p5 ∧ p6 ∧ p7 ∧ p8 ∧ BK N s.list b w w') (hb : Below w'.heap.size w' w1) : w1.cell? ⟨N, 0, none⟩ = some (.int .u32 s.a) ∧ w1.cell? ⟨N, 1, none⟩ = some (.int .u32 s.b) ∧ w1.cell? ⟨N, 2, none⟩ = some (.int .u32 s.c) ∧ w1.cell? ⟨N, 3, none⟩ = some (.int .u32 s.d) ∧ w1.cell? ⟨N, 4, none⟩ = some (.int .u32 s.e) ∧ w1.cell? ⟨N, 5, none⟩ = some (.int .u32 s.f) ∧ w1.cell? ⟨N, 6, none⟩ = some (.int .u32 s.g) ∧ w1.cell? ⟨N, 7, none⟩ = some (.int .u32 s.h) ∧ w1.rangeAt (N + 1) 0 (bv b) ∧ BK N s.list b w w1 := (h.2.2.2.2.2.2.2.2.2.step hb).held
/-- the row behind j sums -/
def addP (l m : List Int) (j : Nat) : List Int := (List.zipWith ad l m).take j ++ l.drop j
theorem addP_zero (l m : List Int) : addP l m 0 = l := by simp [addP]
theorem addP_length (l m : List Int) (j : Nat) (h : l.length = m.length) (hj : j ≤ l.length) : (addP l m j).length = l.length := by
  unfold addP; rw [List.length_append, List.length_take, List.length_zipWith, List.length_drop]; omega
theorem addP_get (l m : List Int) (j : Nat) (h : l.length = m.length) (hj : j < l.length) : (addP l m j).getD j 0 = l.getD j 0 := by
  unfold addP
  rw [List.getD_eq_getElem?_getD, List.getElem?_append_right (by rw [List.length_take, List.length_zipWith]; omega), List.length_take, List.length_zipWith, List.getElem?_drop, List.getD_eq_getElem?_getD]
  congr 2; omega
theorem addP_set (l m : List Int) (j : Nat) (h : l.length = m.length) (hj : j < l.length) : (addP l m j).set j (ad (l.getD j 0) (m.getD j 0)) = addP l m (j + 1) := by
  unfold addP
  have e : l.drop j = l.getD j 0 :: l.drop (j + 1) := by rw [List.getD_eq_getElem?_getD, List.getElem?_eq_getElem hj]; exact List.drop_eq_getElem_cons hj
  have hz : j < (List.zipWith ad l m).length := by rw [List.length_zipWith]; omega
  rw [List.set_append_right _ _ (by rw [List.length_take]; omega), List.length_take, Nat.min_eq_left (Nat.le_of_lt hz), Nat.sub_self, e, List.set_cons_zero, List.take_succ_eq_append_getElem hz, List.append_assoc]
  congr 1
  rw [List.getElem_zipWith, List.getD_eq_getElem?_getD, List.getD_eq_getElem?_getD, List.getElem?_eq_getElem hj, List.getElem?_eq_getElem (by omega)]
  rfl
theorem addP_end (s t : St) : addP s.list t.list 8 = (s.plus t).list := rfl
theorem idx_u32 (tl : List Int) (j : Nat) (hl : tl.length = 8) (hj : j < 8) (w : World) : (Instr.index 76 (.agg (uv tl).toArray) (.int .i64 (j : Int))).run Tryd.prog w = .ok (.int .u32 (tl.getD j 0)) w := by
  have hx := uv_getD tl j (by omega)
  simp only [Instr.index, asIntOf, go_sem, part]
  simp
  rw [if_pos hj, hx, List.getD_eq_getElem?_getD]; rfl
theorem oct_info : (Tryd.prog.info? 76).map (·.size) = some 8 := by kernel_rfl
theorem in_info : (Tryd.prog.info? 78).map (·.size) = some 64 := by kernel_rfl

set_option maxRecDepth 100000 in
set_option maxHeartbeats 1000000 in
theorem block_any (s : St) (b : List Int) (w : World) (hs : StU s) (hb : Byt b) (hl : b.length = 64) (htab : Tab w) :
    Calls Tryd.prog 70 #[.agg s.cells, .agg (bv b).toArray] w fun e w' => e = .returned (.agg (blk s b).cells) ∧ Below w.heap.size w w' := by
  have HL : Hid (b.length = 64) := hl
  have hNp : Hid (0 < w.heap.size) := htab.pos
  clear hl
  go_enter Tryd.func70, Tryd.ntmps70
  go_wp2
  obtain ⟨N, hN⟩ : ∃ N, N = w.heap.size := ⟨_, rfl⟩
  have hkept : BK N s.list b w (((w.alloc (.cells s.cells 76)).alloc (.cells (bv b).toArray 78)).alloc (.cells #[.int .u32 0, .int .u32 0, .int .u32 0, .int .u32 0, .int .u32 0, .int .u32 0, .int .u32 0, .int .u32 0] 76)) := by
    subst hN
    have hlow : Below w.heap.size w (((w.alloc (.cells s.cells 76)).alloc (.cells (bv b).toArray 78)).alloc (.cells #[.int .u32 0, .int .u32 0, .int .u32 0, .int .u32 0, .int .u32 0, .int .u32 0, .int .u32 0, .int .u32 0] 76)) := (((Below.refl _ _).alloc (Nat.le_refl _) _).alloc (by simp) _).alloc (by simp; omega) _
    refine ⟨hlow, by simp, ?_, ?_, ⟨#[.int .u32 0, .int .u32 0, .int .u32 0, .int .u32 0, .int .u32 0, .int .u32 0, .int .u32 0, .int .u32 0], rfl, ?_⟩, htab.below hlow⟩
    · rw [heap_alloc_old _ _ (by simp; omega), heap_alloc_old _ _ (by simp), heap_alloc_new]; rfl
    · rw [heap_alloc_old _ _ (by simp), show w.heap.size + 1 = (w.alloc (.cells s.cells 76)).heap.size from by simp, heap_alloc_new]
    · rw [show w.heap.size + 1 + 1 = ((w.alloc (.cells s.cells 76)).alloc (.cells (bv b).toArray 78)).heap.size from by simp, heap_alloc_new]
  generalize ((w.alloc (.cells s.cells 76)).alloc (.cells (bv b).toArray 78)).alloc (.cells #[.int .u32 0, .int .u32 0, .int .u32 0, .int .u32 0, .int .u32 0, .int .u32 0, .int .u32 0, .int .u32 0] 76) = W0 at hkept ⊢
  rw [← hN]
  have HN : Hid (N = w.heap.size) := hN
  clear hN htab
  have r1 : W0.rangeAt (N + 1) 0 (bv b) := range_row hkept.inp
  have hu' := Tryd.underlying78
  have hi' : (Tryd.prog.info? 78).map (·.size) = some (bv b).length := by rw [bv_length, HL.out]; exact in_info
  have hn' : (bv b).length = 64 := by rw [bv_length, HL.out]
  have ho' := bv_one b
  have h0 := hkept.drewN 1
  go_region_held3 (fun w' => w'.cell? ⟨N, 0, none⟩ = some (.int .u32 s.a) ∧ w'.cell? ⟨N, 1, none⟩ = some (.int .u32 s.b) ∧ w'.cell? ⟨N, 2, none⟩ = some (.int .u32 s.c) ∧ w'.cell? ⟨N, 3, none⟩ = some (.int .u32 s.d) ∧ w'.cell? ⟨N, 4, none⟩ = some (.int .u32 s.e) ∧ w'.cell? ⟨N, 5, none⟩ = some (.int .u32 s.f) ∧ w'.cell? ⟨N, 6, none⟩ = some (.int .u32 s.g) ∧ w'.cell? ⟨N, 7, none⟩ = some (.int .u32 s.h) ∧ w'.rangeAt (N + 1) 0 (bv b) ∧ BK N s.list b w w') (first | (exact h0.held) | (exact held_step (by assumption) hb1)) (first | (go_at_call 82; refine (sched_any b _ hb HL.out).mono ?_; rintro e1 w1 ⟨rfl, hb1⟩) | (go_at_call 81; refine (mix_any s b _ hs hb ?_).mono ?_; (exact held_tab (by assumption)); rintro e1 w1 ⟨rfl, hb1⟩))
  rename_i hHeld
  have hkp := hHeld.2.2.2.2.2.2.2.2.2
  clear hHeld hb1 h0 hkept r1
  have HtL : Hid ((rnds b s 64).cells = (uv (rnds b s 64).list).toArray) := rfl
  have HtB : Bx (Ending.returned (.agg (s.plus (rnds b s 64)).cells) = .returned (.agg (blk s b).cells)) := ⟨rfl⟩
  have htu := rnds_u b hs 64
  generalize rnds b s 64 = t at HtL HtB htu ⊢
  clear hu' hi' hn' ho'
  have hN0 : 0 < N := by rw [HN.out]; exact hNp.out
  have HLL : Hid (s.list.length = t.list.length) := rfl
  have HAE : Hid (addP s.list t.list 8 = (s.plus t).list) := rfl
  have hsu := St.list_u hs
  have htlu := St.list_u htu
  rw [HtL.out]
  have HL8 : Hid (s.list.length = 8) := rfl
  have HPC : Hid ((s.plus t).cells = (uv (s.plus t).list).toArray) := rfl
  generalize s.list = sl at *
  generalize t.list = tl at *
  go_wp2
  go_loopw [11] (fun i wr => ∃ j : Nat, j ≤ 8 ∧ i = .int .i64 j ∧ BK N (addP sl tl j) b w wr) (fun i _ => 8 - (intOf i).toNat)
  case atStart => exact ⟨0, Nat.zero_le _, rfl, by rw [addP_zero]; exact hkp⟩
  case round =>
    clear hkp
    obtain ⟨j, hj, rfl, hkp⟩ := hrel
    by_cases hlt : j < 8
    · have hcl := uv_cell hkp.st j (by rw [addP_length _ _ _ HLL.out (by rw [HL8.out]; exact hj), HL8.out]; exact hlt)
      rw [addP_get _ _ _ HLL.out (by rw [HL8.out]; exact hlt)] at hcl
      have hfr := frozen_of_row _ _ j _ _ hkp.st
      have hst := hkp.store hN0 j (ad (sl.getD j 0) (tl.getD j 0))
      rw [addP_set _ _ _ HLL.out (by rw [HL8.out]; exact hlt)] at hst
      have hx := idx_u32 tl j (by rw [← HLL.out, HL8.out]) hlt
      have us := hsu.getD j
      have ut := htlu.getD j
      have s1 : IntKind.u32.wrap (sl.getD j 0 + tl.getD j 0) = ad (sl.getD j 0) (tl.getD j 0) := IntKind.wrap_u32' _
      have j0 : (0 : Int) ≤ (j : Int) := by omega
      have j8 : (j : Int) < 8 := by omega
      generalize sl.getD j 0 = x at hcl us s1 hst
      generalize tl.getD j 0 = y at hx ut s1 hst
      go_wp2
      go_roundw
      case rel => exact ⟨j + 1, by omega, by go_num, hst⟩
      case measure => simp [intOf]; omega
    · have HJ : Hid (j = 8) := by show j = 8; omega
      obtain ⟨cs, hcs, hres⟩ := hkp.res
      have ht := there_row hres
      rw [hcs] at ht
      have hst : wr.heap[N]? = some (.cells (s.plus t).cells 76 (0, 0)) := by
        have := hkp.st
        rw [HJ.out, HAE.out, ← HPC.out] at this
        exact this
      have hbl : Below w.heap.size w wr := by rw [← HN.out]; exact hkp.low
      have hNs : w.heap.size ≤ N + 1 + 1 := by have := HN.out; omega
      have HST : Bx ((wr.setCells (N + 1 + 1) 0 (s.plus t).cells.toList).heap[N + 1 + 1]? = some (.cells (s.plus t).cells 76 (0, 0))) := ⟨heap_stored (vs := (s.plus t).cells) hres (by rw [hcs]; rfl)⟩
      have HBS : Bx (Below w.heap.size w (wr.setCells (N + 1 + 1) 0 (s.plus t).cells.toList)) := ⟨below_setCells hbl (N + 1 + 1) hNs (s.plus t).cells.toList 0⟩
      have HTH : Bx (wr.there (N + 1 + 1) 0 8) := ⟨ht⟩
      have HRW : Bx (wr.heap[N]? = some (.cells (s.plus t).cells 76 (0, 0))) := ⟨hst⟩
      clear hkp hres ht hbl hNs hcs hst HAE HPC
      go_wp2_with (refine wpList_load_row rfl 76 (.tmp 2) rfl N rfl 76 (s.plus t).cells (0, 0) _ HRW.out Tryd.underlying76 rfl (cells_info _) ?_; refine wpList_store_mid rfl 76 (.tmp 4) (.tmp 22) rfl (N + 1 + 1) 0 (s.plus t).cells rfl rfl HTH.out (cells_info _) (cells_one _) ?_)
      exact bodyPost_ret (v := .agg (s.plus t).cells) (results_cell_row rfl _ _ (N + 1 + 1) 76 (s.plus t).cells (0, 0) _ rfl HST.out Tryd.underlying76 rfl (cells_info _)) rfl ⟨HtB.out, HBS.out⟩
end Go.Proofs.YtfkloilbjfleeaaDoor
