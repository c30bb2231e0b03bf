/- The first bits of a sum: merkle's Cut, and the document's own. -/
import Derived.Test.YtfkloilbjfleeaaDoorSmd
import Derived.Test.YtfkloilbjfleeaaDoorSmc
namespace Go.Proofs.YtfkloilbjfleeaaDoor
open Go.RowKit
set_option linter.unusedVariables false

/-- what stays while a digest is turned: the row is r, the answer's place is there -/
structure MD (N M : Nat) (r : List Int) (w wr : World) : Prop where
  low : Below N w wr
  row : wr.heap[M]? = some (.cells (bv r).toArray 42 (0, 0))
  len : r.length = 32
theorem MD.store {N M : Nat} {r : List Int} {w wr : World} (h : MD N M r w wr) (hN : N ≤ M) (j : Nat) (v : Value) (r' : List Int) (hl : r'.length = r.length) (hr : (bv r).toArray.setIfInBounds j v = (bv r').toArray) : MD N M r' w (wr.setCell ⟨M, j, none⟩ v) :=
  ⟨h.low.setCell (p := ⟨M, j, none⟩) hN v, by rw [heap_setCell_same _ _ _ _ _ _ h.row, hr], by rw [hl]; exact h.len⟩
theorem MD.drewN {N M : Nat} {r : List Int} {w wr : World} (h : MD N M r w wr) (q : Nat) : MD N M r w (wr.drewN q) := ⟨below_drewN h.low q, h.row, h.len⟩
/-- the digest behind i rounds -/
def cutP (d : List Int) (n i : Nat) : List Int := (List.range 32).map fun j => if j < i then bc (d.getD j 0) (min (n - 8 * j) 8) else d.getD j 0
theorem cutP_length (d : List Int) (n i : Nat) : (cutP d n i).length = 32 := by simp [cutP]
theorem cutP_at (d : List Int) (n i j : Nat) (hj : j < 32) : (cutP d n i)[j]? = some (if j < i then bc (d.getD j 0) (min (n - 8 * j) 8) else d.getD j 0) := by
  unfold cutP; rw [List.getElem?_map, List.getElem?_range hj]; rfl
theorem cutP_get (d : List Int) (n i : Nat) (hi : i < 32) : (cutP d n i).getD i 0 = d.getD i 0 := by
  rw [List.getD_eq_getElem?_getD, cutP_at d n i i hi, if_neg (by omega)]; rfl
theorem cutP_zero (d : List Int) (n : Nat) (hd : d.length = 32) : cutP d n 0 = d := by
  apply List.ext_getElem?
  intro j
  by_cases hj : j < 32
  · rw [cutP_at d n 0 j hj, if_neg (by omega), List.getD_eq_getElem?_getD, List.getElem?_eq_getElem (by omega)]; rfl
  · rw [List.getElem?_eq_none (by rw [cutP_length]; omega), List.getElem?_eq_none (by omega)]
theorem cutP_end (d : List Int) (n i : Nat) (hi : 32 ≤ i) : cutP d n i = cutN d n := by
  unfold cutP cutN
  refine List.map_congr_left (fun j hj => ?_)
  rw [if_pos (by have := List.mem_range.1 hj; omega)]
theorem cutP_set (d : List Int) (n i : Nat) (hi : i < 32) : (cutP d n i).set i (bc (d.getD i 0) (min (n - 8 * i) 8)) = cutP d n (i + 1) := by
  apply List.ext_getElem?
  intro j
  by_cases hj : j < 32
  · rw [List.getElem?_set, cutP_at d n (i + 1) j hj]
    by_cases h : i = j
    · subst h; rw [if_pos rfl, if_pos (by rw [cutP_length]; omega), if_pos (by omega)]
    · rw [if_neg h, cutP_at d n i j hj]
      by_cases h2 : j < i
      · rw [if_pos h2, if_pos (by omega)]
      · rw [if_neg h2, if_neg (by omega)]
  · rw [List.getElem?_eq_none (by rw [List.length_set, cutP_length]; omega), List.getElem?_eq_none (by rw [cutP_length]; omega)]
theorem bv_set (l : List Int) (i : Nat) (c : Int) : (bv l).toArray.setIfInBounds i (.int .u8 c) = (bv (l.set i c)).toArray := by
  rw [List.setIfInBounds_toArray]; unfold bv; rw [List.map_set]

theorem and_bc : ∀ c : Fin 256, ∀ k : Fin 9, bits BinOp.and IntKind.u8 (c.val : Int) (255 * 2 ^ (8 - k.val) % 256) = bc (c.val : Int) k.val := by decide +kernel
theorem MD.drew {N M : Nat} {r : List Int} {w wr : World} (h : MD N M r w wr) : MD N M r w wr.drew := h.drewN 1

set_option maxRecDepth 100000 in
set_option maxHeartbeats 1000000 in
theorem mcut_any (d : List Int) (x : Int) (w : World) (hd : Dg d) :
    Calls Tryd.prog 30 #[.agg (bv d).toArray, .int .i64 x] w fun e w' => e = .returned (.agg (bv (cutL d x)).toArray) ∧ Below w.heap.size w w' := by
  have HL : Hid (d.length = 32) := hd.1
  have hb := hd.2
  obtain ⟨M, hM, hM2⟩ : ∃ M : Int, (if x < 0 then 0 else x) = M ∧ M = max x 0 := ⟨_, rfl, by split <;> omega⟩
  obtain ⟨n, hz, hz2⟩ : ∃ n : Nat, (if 256 < M then 256 else M) = (n : Int) ∧ n = nb x := ⟨nb x, by unfold nb; split <;> omega, rfl⟩
  have hn : n ≤ 256 := by rw [hz2]; exact nb_le x
  have HC : Bx (cutL d x = cutN d n) := ⟨by rw [hz2]; rfl⟩
  clear hz2 hM2
  go_enter Tryd.func30, Tryd.ntmps30
  go_wp2
  clear hM hz
  obtain ⟨N, hN⟩ : ∃ N, N = w.heap.size := ⟨_, rfl⟩
  have hrow : MD N N d w ((w.alloc (.cells (bv d).toArray 42)).alloc (.cells #[.int .u8 0, .int .u8 0, .int .u8 0, .int .u8 0, .int .u8 0, .int .u8 0, .int .u8 0, .int .u8 0, .int .u8 0, .int .u8 0, .int .u8 0, .int .u8 0, .int .u8 0, .int .u8 0, .int .u8 0, .int .u8 0, .int .u8 0, .int .u8 0, .int .u8 0, .int .u8 0, .int .u8 0, .int .u8 0, .int .u8 0, .int .u8 0, .int .u8 0, .int .u8 0, .int .u8 0, .int .u8 0, .int .u8 0, .int .u8 0, .int .u8 0, .int .u8 0] 42)) := by
    subst hN
    refine ⟨((Below.refl _ _).alloc (Nat.le_refl _) _).alloc (by simp) _, ?_, HL.out⟩
    rw [heap_alloc_old _ _ (by simp), heap_alloc_new]
  have hres : ∃ cs : Array Value, cs.size = 32 ∧ ((w.alloc (.cells (bv d).toArray 42)).alloc (.cells #[.int .u8 0, .int .u8 0, .int .u8 0, .int .u8 0, .int .u8 0, .int .u8 0, .int .u8 0, .int .u8 0, .int .u8 0, .int .u8 0, .int .u8 0, .int .u8 0, .int .u8 0, .int .u8 0, .int .u8 0, .int .u8 0, .int .u8 0, .int .u8 0, .int .u8 0, .int .u8 0, .int .u8 0, .int .u8 0, .int .u8 0, .int .u8 0, .int .u8 0, .int .u8 0, .int .u8 0, .int .u8 0, .int .u8 0, .int .u8 0, .int .u8 0, .int .u8 0] 42)).heap[N + 1]? = some (.cells cs 42 (0, 0)) := by
    subst hN
    exact ⟨#[.int .u8 0, .int .u8 0, .int .u8 0, .int .u8 0, .int .u8 0, .int .u8 0, .int .u8 0, .int .u8 0, .int .u8 0, .int .u8 0, .int .u8 0, .int .u8 0, .int .u8 0, .int .u8 0, .int .u8 0, .int .u8 0, .int .u8 0, .int .u8 0, .int .u8 0, .int .u8 0, .int .u8 0, .int .u8 0, .int .u8 0, .int .u8 0, .int .u8 0, .int .u8 0, .int .u8 0, .int .u8 0, .int .u8 0, .int .u8 0, .int .u8 0, .int .u8 0], rfl, by rw [show w.heap.size + 1 = (w.alloc (.cells (bv d).toArray 42)).heap.size from by simp, heap_alloc_new]⟩
  generalize (w.alloc (.cells (bv d).toArray 42)).alloc (.cells #[.int .u8 0, .int .u8 0, .int .u8 0, .int .u8 0, .int .u8 0, .int .u8 0, .int .u8 0, .int .u8 0, .int .u8 0, .int .u8 0, .int .u8 0, .int .u8 0, .int .u8 0, .int .u8 0, .int .u8 0, .int .u8 0, .int .u8 0, .int .u8 0, .int .u8 0, .int .u8 0, .int .u8 0, .int .u8 0, .int .u8 0, .int .u8 0, .int .u8 0, .int .u8 0, .int .u8 0, .int .u8 0, .int .u8 0, .int .u8 0, .int .u8 0, .int .u8 0] 42) = W0 at hrow hres ⊢
  rw [← hN]
  have HN : Hid (N = w.heap.size) := hN
  clear hN
  go_loopw [10] (fun i wr => ∃ j : Nat, j ≤ 32 ∧ i = .int .i64 j ∧ MD N N (cutP d n j) w wr ∧ ∃ cs : Array Value, cs.size = 32 ∧ wr.heap[N + 1]? = some (.cells cs 42 (0, 0))) (fun i _ => 32 - (intOf i).toNat)
  case atStart => exact ⟨0, Nat.zero_le _, rfl, by rw [cutP_zero d n HL.out]; exact hrow, hres⟩
  case round =>
    clear hrow hres
    obtain ⟨j, hj, rfl, hk, cs, hcs, hr⟩ := hrel
    by_cases hlt : j < 32
    · have hc := bv_cell hk.row j (by rw [cutP_length]; exact hlt)
      rw [cutP_get d n j hlt] at hc
      have hf := frozen_of_row _ _ j _ _ hk.row
      obtain ⟨A, hA, hA2⟩ : ∃ A : Int, (if (n : Int) - 8 * (j : Int) < 0 then 0 else (n : Int) - 8 * (j : Int)) = A ∧ A = max ((n : Int) - 8 * (j : Int)) 0 := ⟨_, rfl, by split <;> omega⟩
      obtain ⟨k, hk1, hk2⟩ : ∃ k : Nat, (if 8 < A then 8 else A) = (k : Int) ∧ k = min (n - 8 * j) 8 := ⟨min (n - 8 * j) 8, by split <;> omega, rfl⟩
      have hst := hk.store (Nat.le_refl _) j _ (cutP d n (j + 1)) (by rw [cutP_length, cutP_length]) (by rw [bv_set, cutP_set d n j hlt])
      have hr2 : ∃ cs : Array Value, cs.size = 32 ∧ (wr.setCell ⟨N, j, none⟩ (.int .u8 (bc (d.getD j 0) (min (n - 8 * j) 8)))).heap[N + 1]? = some (.cells cs 42 (0, 0)) := ⟨cs, hcs, by rw [heap_setCell_other _ _ _ _ (by show N + 1 ≠ N; omega)]; exact hr⟩
      rw [← hk2] at hst hr2
      have hk8 : k ≤ 8 := by omega
      have hy := hb.getD j
      generalize d.getD j 0 = y at hc hst hr2 hy
      clear hk2 hA2
      have j0 : (0 : Int) ≤ (j : Int) := by omega
      have j64 : (j : Int) < 32 := by omega
      have h8k : IntKind.i64.wrap (8 - (k : Int)) = 8 - (k : Int) := IntWalk.i64_in _ (by omega)
      have hbc : bits BinOp.and IntKind.u8 y (255 * 2 ^ (8 - k) % 256) = bc y k := by
        have h := and_bc ⟨y.toNat, by omega⟩ ⟨k, by omega⟩
        rw [show ((y.toNat : Nat) : Int) = y from by omega] at h
        exact h
      have hbb := bc_b hy k
      obtain ⟨z, hz⟩ : ∃ z, z = bc y k := ⟨_, rfl⟩
      rw [← hz] at hst hr2 hbc hbb
      clear hz hk hr
      have hst' := hst.drew
      have hr3 : ∃ cs : Array Value, cs.size = 32 ∧ (wr.setCell ⟨N, j, none⟩ (.int .u8 z)).drew.heap[N + 1]? = some (.cells cs 42 (0, 0)) := hr2
      clear hst hr2
      go_wp2_with fail
      go_region
      go_wp2
      go_roundw
      case rel => exact ⟨j + 1, by omega, by go_num, hst', hr3⟩
      case measure => simp [intOf]; omega
    · have HJ : Hid (32 ≤ j) := by show 32 ≤ j; omega
      have hrw : wr.heap[N]? = some (.cells (bv (cutL d x)).toArray 42 (0, 0)) := by
        have := hk.row
        rw [cutP_end d n j HJ.out, ← HC.out] at this
        exact this
      have hbl : Below w.heap.size w wr := by rw [← HN.out]; exact hk.low
      have hNs : w.heap.size ≤ N + 1 := by have := HN.out; omega
      have ht := there_row hr
      rw [hcs] at ht
      have HZ : Bx ((bv (cutL d x)).toArray.size = 32) := ⟨by rw [List.size_toArray, bv_length, (cutL_dg hb x).1]⟩
      have HO : Bx ((bv (cutL d x)).toArray.all (·.oneCell') = true) := ⟨all_oneCell_toArray (bv_one _)⟩
      clear hk HJ
      generalize hD : (bv (cutL d x)).toArray = D at hrw HZ HO
      have HD : Bx (Ending.returned (.agg D) = .returned (.agg (bv (cutL d x)).toArray)) := ⟨by rw [hD]⟩
      clear hD
      have HI : Bx ((Tryd.prog.info? 42).map (·.size) = some D.size) := ⟨by rw [HZ.out]; exact dig_info⟩
      have HST : Bx ((wr.setCells (N + 1) 0 D.toList).heap[N + 1]? = some (.cells D 42 (0, 0))) := ⟨heap_stored (vs := D) hr (by rw [hcs, HZ.out])⟩
      have HBS : Bx (Below w.heap.size w (wr.setCells (N + 1) 0 D.toList)) := ⟨below_setCells hbl (N + 1) hNs D.toList 0⟩
      have HTH : Bx (wr.there (N + 1) 0 D.size) := ⟨by rw [HZ.out]; exact ht⟩
      have HRW : Bx (wr.heap[N]? = some (.cells D 42 (0, 0))) := ⟨hrw⟩
      clear hr ht hbl hNs hcs hrw
      go_wp2_with (refine wpList_load_row rfl 42 (.tmp 2) rfl N rfl 42 D (0, 0) _ HRW.out Tryd.underlying42 rfl HI.out ?_; refine wpList_store_mid rfl 42 (.tmp 4) (.tmp 28) rfl (N + 1) 0 D rfl rfl HTH.out HI.out HO.out ?_)
      exact bodyPost_ret (v := .agg D) (results_cell_row rfl _ _ (N + 1) 42 D (0, 0) _ rfl HST.out Tryd.underlying42 rfl HI.out) rfl ⟨HD.out, HBS.out⟩
end Go.Proofs.YtfkloilbjfleeaaDoor
