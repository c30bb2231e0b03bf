/- What mac's masked and blockOf answer. -/
import Derived.Test.YtbednfacipphhaaDoorAuav
import Derived.Test.YtbednfacipphhaaDoorAuau
namespace Go.Proofs.YtbednfacipphhaaDoor
open Go.RowKit
set_option linter.unusedVariables false

/-- what stays while a block of 64 bytes is turned: the row is r, the answer's place is there -/
structure MB (N M : Nat) (r : List Int) (w wr : World) : Prop where
  low : Below N w wr
  row : wr.heap[M]? = some (.cells (bv r).toArray 105 (0, 0))
  len : r.length = 64
set_option maxRecDepth 100000 in
theorem MB.store {N M : Nat} {r : List Int} {w wr : World} (h : MB N M r w wr) (hN : N ≤ M) (j : Nat) (v : Value) (r' : List Int) (hl : r'.length = r.length) (hr : (bv r).toArray.setIfInBounds j v = (bv r').toArray) : MB N M r' w (wr.setCell ⟨M, j, none⟩ v) :=
  ⟨h.low.setCell (p := ⟨M, j, none⟩) hN v, by rw [heap_setCell_same _ _ _ _ _ _ h.row, hr], by rw [hl]; exact h.len⟩

set_option maxRecDepth 100000 in
set_option maxHeartbeats 1000000 in
theorem masked_any (b : List Int) (x : Int) (w : World) (hb : Byt b) (hl : b.length = 64) (hx : 0 ≤ x ∧ x ≤ 255) :
    Calls Tryd.prog 78 #[.agg (bv b).toArray, .int .u8 x] w fun e w' => e = .returned (.agg (bv (xorB b x)).toArray) ∧ Below w.heap.size w w' := by
  have HL : Hid (b.length = 64) := hl
  clear hl
  go_enter Tryd.func78, Tryd.ntmps78
  go_wp2
  obtain ⟨N, hN⟩ : ∃ N, N = w.heap.size := ⟨_, rfl⟩
  have hrow : MB N N b w ((w.alloc (.cells (bv b).toArray 105)).alloc (.cells #[.int .u8 0, .int .u8 0, .int .u8 0, .int .u8 0, .int .u8 0, .int .u8 0, .int .u8 0, .int .u8 0, .int .u8 0, .int .u8 0, .int .u8 0, .int .u8 0, .int .u8 0, .int .u8 0, .int .u8 0, .int .u8 0, .int .u8 0, .int .u8 0, .int .u8 0, .int .u8 0, .int .u8 0, .int .u8 0, .int .u8 0, .int .u8 0, .int .u8 0, .int .u8 0, .int .u8 0, .int .u8 0, .int .u8 0, .int .u8 0, .int .u8 0, .int .u8 0, .int .u8 0, .int .u8 0, .int .u8 0, .int .u8 0, .int .u8 0, .int .u8 0, .int .u8 0, .int .u8 0, .int .u8 0, .int .u8 0, .int .u8 0, .int .u8 0, .int .u8 0, .int .u8 0, .int .u8 0, .int .u8 0, .int .u8 0, .int .u8 0, .int .u8 0, .int .u8 0, .int .u8 0, .int .u8 0, .int .u8 0, .int .u8 0, .int .u8 0, .int .u8 0, .int .u8 0, .int .u8 0, .int .u8 0, .int .u8 0, .int .u8 0, .int .u8 0] 105)) := by
    subst hN
    refine ⟨((Below.refl _ _).alloc (Nat.le_refl _) _).alloc (by simp) _, ?_, HL.out⟩
    rw [heap_alloc_old _ _ (by simp), heap_alloc_new]
  have hres : ∃ cs : Array Value, cs.size = 64 ∧ ((w.alloc (.cells (bv b).toArray 105)).alloc (.cells #[.int .u8 0, .int .u8 0, .int .u8 0, .int .u8 0, .int .u8 0, .int .u8 0, .int .u8 0, .int .u8 0, .int .u8 0, .int .u8 0, .int .u8 0, .int .u8 0, .int .u8 0, .int .u8 0, .int .u8 0, .int .u8 0, .int .u8 0, .int .u8 0, .int .u8 0, .int .u8 0, .int .u8 0, .int .u8 0, .int .u8 0, .int .u8 0, .int .u8 0, .int .u8 0, .int .u8 0, .int .u8 0, .int .u8 0, .int .u8 0, .int .u8 0, .int .u8 0, .int .u8 0, .int .u8 0, .int .u8 0, .int .u8 0, .int .u8 0, .int .u8 0, .int .u8 0, .int .u8 0, .int .u8 0, .int .u8 0, .int .u8 0, .int .u8 0, .int .u8 0, .int .u8 0, .int .u8 0, .int .u8 0, .int .u8 0, .int .u8 0, .int .u8 0, .int .u8 0, .int .u8 0, .int .u8 0, .int .u8 0, .int .u8 0, .int .u8 0, .int .u8 0, .int .u8 0, .int .u8 0, .int .u8 0, .int .u8 0, .int .u8 0, .int .u8 0] 105)).heap[N + 1]? = some (.cells cs 105 (0, 0)) := by
    subst hN
    exact ⟨#[.int .u8 0, .int .u8 0, .int .u8 0, .int .u8 0, .int .u8 0, .int .u8 0, .int .u8 0, .int .u8 0, .int .u8 0, .int .u8 0, .int .u8 0, .int .u8 0, .int .u8 0, .int .u8 0, .int .u8 0, .int .u8 0, .int .u8 0, .int .u8 0, .int .u8 0, .int .u8 0, .int .u8 0, .int .u8 0, .int .u8 0, .int .u8 0, .int .u8 0, .int .u8 0, .int .u8 0, .int .u8 0, .int .u8 0, .int .u8 0, .int .u8 0, .int .u8 0, .int .u8 0, .int .u8 0, .int .u8 0, .int .u8 0, .int .u8 0, .int .u8 0, .int .u8 0, .int .u8 0, .int .u8 0, .int .u8 0, .int .u8 0, .int .u8 0, .int .u8 0, .int .u8 0, .int .u8 0, .int .u8 0, .int .u8 0, .int .u8 0, .int .u8 0, .int .u8 0, .int .u8 0, .int .u8 0, .int .u8 0, .int .u8 0, .int .u8 0, .int .u8 0, .int .u8 0, .int .u8 0, .int .u8 0, .int .u8 0, .int .u8 0, .int .u8 0], rfl, by rw [show w.heap.size + 1 = (w.alloc (.cells (bv b).toArray 105)).heap.size from by simp, heap_alloc_new]⟩
  generalize (w.alloc (.cells (bv b).toArray 105)).alloc (.cells #[.int .u8 0, .int .u8 0, .int .u8 0, .int .u8 0, .int .u8 0, .int .u8 0, .int .u8 0, .int .u8 0, .int .u8 0, .int .u8 0, .int .u8 0, .int .u8 0, .int .u8 0, .int .u8 0, .int .u8 0, .int .u8 0, .int .u8 0, .int .u8 0, .int .u8 0, .int .u8 0, .int .u8 0, .int .u8 0, .int .u8 0, .int .u8 0, .int .u8 0, .int .u8 0, .int .u8 0, .int .u8 0, .int .u8 0, .int .u8 0, .int .u8 0, .int .u8 0, .int .u8 0, .int .u8 0, .int .u8 0, .int .u8 0, .int .u8 0, .int .u8 0, .int .u8 0, .int .u8 0, .int .u8 0, .int .u8 0, .int .u8 0, .int .u8 0, .int .u8 0, .int .u8 0, .int .u8 0, .int .u8 0, .int .u8 0, .int .u8 0, .int .u8 0, .int .u8 0, .int .u8 0, .int .u8 0, .int .u8 0, .int .u8 0, .int .u8 0, .int .u8 0, .int .u8 0, .int .u8 0, .int .u8 0, .int .u8 0, .int .u8 0, .int .u8 0] 105) = W0 at hrow hres ⊢
  rw [← hN]
  have HN : Hid (N = w.heap.size) := hN
  clear hN
  go_loopw [6] (fun i wr => ∃ j : Nat, j ≤ 64 ∧ i = .int .i64 j ∧ MB N N (mskP b x j) w wr ∧ ∃ cs : Array Value, cs.size = 64 ∧ wr.heap[N + 1]? = some (.cells cs 105 (0, 0))) (fun i _ => 64 - (intOf i).toNat)
  case atStart => exact ⟨0, Nat.zero_le _, rfl, by rw [mskP_zero]; exact hrow, hres⟩
  case round =>
    clear hrow hres
    obtain ⟨j, hj, rfl, hk, cs, hcs, hr⟩ := hrel
    by_cases hlt : j < 64
    · have hc := bv_cell hk.row j (by rw [mskP_length, HL.out]; exact hlt)
      rw [mskP_get b x j (by rw [HL.out]; exact hlt)] at hc
      have hf := frozen_of_row _ _ j _ _ hk.row
      have hst := hk.store (Nat.le_refl _) j _ (mskP b x (j + 1)) (by rw [mskP_length, mskP_length]) (mskP_set b x j (by rw [HL.out]; exact hlt))
      have hr2 : ∃ cs : Array Value, cs.size = 64 ∧ (wr.setCell ⟨N, j, none⟩ (.int .u8 (xr (b.getD j 0) x))).heap[N + 1]? = some (.cells cs 105 (0, 0)) := ⟨cs, hcs, by rw [heap_setCell_other _ _ _ _ (by show N + 1 ≠ N; omega)]; exact hr⟩
      have hy := hb.getD j
      have hxe := xr8_eq hy hx
      have hxb := xr_b hy hx
      generalize b.getD j 0 = y at hc hst hr2 hy hxe hxb
      obtain ⟨z, hz⟩ : ∃ z, z = xr y x := ⟨_, rfl⟩
      rw [← hz] at hst hr2 hxe hxb
      clear hz hk hr
      have j0 : (0 : Int) ≤ (j : Int) := by omega
      have j64 : (j : Int) < 64 := by omega
      go_wp2
      go_roundw
      case rel => exact ⟨j + 1, by omega, by go_num, hst, hr2⟩
      case measure => simp [intOf]; omega
    · have HJ : Hid (b.length ≤ j) := by show b.length ≤ j; rw [HL.out]; omega
      have hrw : wr.heap[N]? = some (.cells (bv (xorB b x)).toArray 105 (0, 0)) := by
        have := hk.row
        rw [mskP_end b x j HJ.out] at this
        exact this
      have hbl : Below w.heap.size w wr := by rw [← HN.out]; exact hk.low
      have hNs : w.heap.size ≤ N + 1 := by have := HN.out; omega
      have ht := there_row hr
      rw [hcs] at ht
      have HZ : Bx ((bv (xorB b x)).toArray.size = 64) := ⟨by rw [List.size_toArray, bv_length, xorB_length, HL.out]⟩
      have HO : Bx ((bv (xorB b x)).toArray.all (·.oneCell') = true) := ⟨all_oneCell_toArray (bv_one _)⟩
      clear hk HJ
      generalize hD : (bv (xorB b x)).toArray = D at hrw HZ HO
      have HD : Bx (Ending.returned (.agg D) = .returned (.agg (bv (xorB b x)).toArray)) := ⟨by rw [hD]⟩
      clear hD
      have HI : Bx ((Tryd.prog.info? 105).map (·.size) = some D.size) := ⟨by rw [HZ.out]; exact in_info⟩
      have HST : Bx ((wr.setCells (N + 1) 0 D.toList).heap[N + 1]? = some (.cells D 105 (0, 0))) := ⟨heap_stored (vs := D) hr (by rw [hcs, HZ.out])⟩
      have HBS : Bx (Below w.heap.size w (wr.setCells (N + 1) 0 D.toList)) := ⟨below_setCells hbl (N + 1) hNs D.toList 0⟩
      have HTH : Bx (wr.there (N + 1) 0 D.size) := ⟨by rw [HZ.out]; exact ht⟩
      have HRW : Bx (wr.heap[N]? = some (.cells D 105 (0, 0))) := ⟨hrw⟩
      clear hr ht hbl hNs hcs hrw
      go_wp2_with (refine wpList_load_row rfl 105 (.tmp 2) rfl N rfl 105 D (0, 0) _ HRW.out Tryd.underlying105 rfl HI.out ?_; refine wpList_store_mid rfl 105 (.tmp 4) (.tmp 16) rfl (N + 1) 0 D rfl rfl HTH.out HI.out HO.out ?_)
      exact bodyPost_ret (v := .agg D) (results_cell_row rfl _ _ (N + 1) 105 D (0, 0) _ rfl HST.out Tryd.underlying105 rfl HI.out) rfl ⟨HD.out, HBS.out⟩

set_option maxRecDepth 100000 in
theorem one_slice (O : Nat) (w : World) : (Instr.sliceAt 105 (.pointer (some ⟨O, 0, none⟩)) none none none).run Tryd.prog w = .ok (.slice (some ⟨O, 0, none⟩) 64 64) w := by
  have hlen : Tryd.prog.arrayLen 105 = 64 := by kernel_rfl
  have ht : Tryd.prog.underlying 105 = some (.array (Tryd.prog.arrayLen 105) (Tryd.prog.elem 105)) := by kernel_rfl
  have hsz : (sizeOf (Tryd.prog.elem 105)).run Tryd.prog w = .ok 1 w := by kernel_rfl
  rw [run_sliceAt_array_all w 105 ⟨O, 0, none⟩ ht, hsz, hlen]
  simp only [Result.andThen_ok, slicedAt]
  rw [if_neg (by decide), Addr.add_lit]
set_option maxRecDepth 100000 in
theorem cp_min {W : World} {a : Option Addr} {len cap : Nat} {kk : List Int} (h : Bts W a len cap kk) (hl : kk.length ≤ 64) : (bv kk).length = Nat.min len 64 := by
  rw [bv_length, show Nat.min len 64 = min len 64 from rfl]; have := h.len_eq; omega
set_option maxRecDepth 100000 in
theorem cp_fit {kk : List Int} (hl : kk.length ≤ 64) : 0 + (bv kk).length ≤ (bv (List.replicate 64 0)).length := by
  rw [bv_length, bv_length, List.length_replicate]; omega
set_option maxRecDepth 100000 in
theorem cp_pos {W : World} {M : Nat} {a : Option Addr} {len cap : Nat} {kk : List Int} (h : Bts W a len cap kk) : 0 < (bv kk).length → some (⟨M, 0, none⟩ : Addr) = some ⟨M, 0, none⟩ ∧ ∃ ad, a = some ad ∧ ∀ j v, (bv kk)[j]? = some v → W.cell? (ad.add j) = some v := by
  intro hp
  have hp' : 0 < len := by rw [bv_length, h.len_eq] at hp; exact hp
  obtain ⟨sb, so, e, _, _⟩ := h.spot hp'
  exact ⟨rfl, _, e, by rw [e] at h; exact h.cells⟩

set_option maxRecDepth 100000 in
set_option maxHeartbeats 1000000 in
theorem blockOf_any (a : Option Addr) (len cap : Nat) (k : List Int) (w : World) (hk : Bts w a len cap k) (htab : Tab w) (hbd : len ≤ 2305843009213693951) :
    Calls Tryd.prog 76 #[.slice a len cap] w fun e w' => e = .returned (.agg (bv (blkK k)).toArray) ∧ Below w.heap.size w w' := by
  have hlen := hk.len_eq
  have h0 : Below w.heap.size w ((w.alloc (.cells #[.int .u8 0, .int .u8 0, .int .u8 0, .int .u8 0, .int .u8 0, .int .u8 0, .int .u8 0, .int .u8 0, .int .u8 0, .int .u8 0, .int .u8 0, .int .u8 0, .int .u8 0, .int .u8 0, .int .u8 0, .int .u8 0, .int .u8 0, .int .u8 0, .int .u8 0, .int .u8 0, .int .u8 0, .int .u8 0, .int .u8 0, .int .u8 0, .int .u8 0, .int .u8 0, .int .u8 0, .int .u8 0, .int .u8 0, .int .u8 0, .int .u8 0, .int .u8 0, .int .u8 0, .int .u8 0, .int .u8 0, .int .u8 0, .int .u8 0, .int .u8 0, .int .u8 0, .int .u8 0, .int .u8 0, .int .u8 0, .int .u8 0, .int .u8 0, .int .u8 0, .int .u8 0, .int .u8 0, .int .u8 0, .int .u8 0, .int .u8 0, .int .u8 0, .int .u8 0, .int .u8 0, .int .u8 0, .int .u8 0, .int .u8 0, .int .u8 0, .int .u8 0, .int .u8 0, .int .u8 0, .int .u8 0, .int .u8 0, .int .u8 0, .int .u8 0] 105)).alloc (.cells #[.int .u8 0, .int .u8 0, .int .u8 0, .int .u8 0, .int .u8 0, .int .u8 0, .int .u8 0, .int .u8 0, .int .u8 0, .int .u8 0, .int .u8 0, .int .u8 0, .int .u8 0, .int .u8 0, .int .u8 0, .int .u8 0, .int .u8 0, .int .u8 0, .int .u8 0, .int .u8 0, .int .u8 0, .int .u8 0, .int .u8 0, .int .u8 0, .int .u8 0, .int .u8 0, .int .u8 0, .int .u8 0, .int .u8 0, .int .u8 0, .int .u8 0, .int .u8 0, .int .u8 0, .int .u8 0, .int .u8 0, .int .u8 0, .int .u8 0, .int .u8 0, .int .u8 0, .int .u8 0, .int .u8 0, .int .u8 0, .int .u8 0, .int .u8 0, .int .u8 0, .int .u8 0, .int .u8 0, .int .u8 0, .int .u8 0, .int .u8 0, .int .u8 0, .int .u8 0, .int .u8 0, .int .u8 0, .int .u8 0, .int .u8 0, .int .u8 0, .int .u8 0, .int .u8 0, .int .u8 0, .int .u8 0, .int .u8 0, .int .u8 0, .int .u8 0] 105)) := ((Below.refl _ _).alloc (Nat.le_refl _) _).alloc (by simp) _
  obtain ⟨cs, hcs, hres0⟩ : ∃ cs : Array Value, cs.size = 64 ∧ ((w.alloc (.cells #[.int .u8 0, .int .u8 0, .int .u8 0, .int .u8 0, .int .u8 0, .int .u8 0, .int .u8 0, .int .u8 0, .int .u8 0, .int .u8 0, .int .u8 0, .int .u8 0, .int .u8 0, .int .u8 0, .int .u8 0, .int .u8 0, .int .u8 0, .int .u8 0, .int .u8 0, .int .u8 0, .int .u8 0, .int .u8 0, .int .u8 0, .int .u8 0, .int .u8 0, .int .u8 0, .int .u8 0, .int .u8 0, .int .u8 0, .int .u8 0, .int .u8 0, .int .u8 0, .int .u8 0, .int .u8 0, .int .u8 0, .int .u8 0, .int .u8 0, .int .u8 0, .int .u8 0, .int .u8 0, .int .u8 0, .int .u8 0, .int .u8 0, .int .u8 0, .int .u8 0, .int .u8 0, .int .u8 0, .int .u8 0, .int .u8 0, .int .u8 0, .int .u8 0, .int .u8 0, .int .u8 0, .int .u8 0, .int .u8 0, .int .u8 0, .int .u8 0, .int .u8 0, .int .u8 0, .int .u8 0, .int .u8 0, .int .u8 0, .int .u8 0, .int .u8 0] 105)).alloc (.cells #[.int .u8 0, .int .u8 0, .int .u8 0, .int .u8 0, .int .u8 0, .int .u8 0, .int .u8 0, .int .u8 0, .int .u8 0, .int .u8 0, .int .u8 0, .int .u8 0, .int .u8 0, .int .u8 0, .int .u8 0, .int .u8 0, .int .u8 0, .int .u8 0, .int .u8 0, .int .u8 0, .int .u8 0, .int .u8 0, .int .u8 0, .int .u8 0, .int .u8 0, .int .u8 0, .int .u8 0, .int .u8 0, .int .u8 0, .int .u8 0, .int .u8 0, .int .u8 0, .int .u8 0, .int .u8 0, .int .u8 0, .int .u8 0, .int .u8 0, .int .u8 0, .int .u8 0, .int .u8 0, .int .u8 0, .int .u8 0, .int .u8 0, .int .u8 0, .int .u8 0, .int .u8 0, .int .u8 0, .int .u8 0, .int .u8 0, .int .u8 0, .int .u8 0, .int .u8 0, .int .u8 0, .int .u8 0, .int .u8 0, .int .u8 0, .int .u8 0, .int .u8 0, .int .u8 0, .int .u8 0, .int .u8 0, .int .u8 0, .int .u8 0, .int .u8 0] 105)).heap[w.heap.size]? = some (.cells cs 105 (0, 0)) :=
    ⟨#[.int .u8 0, .int .u8 0, .int .u8 0, .int .u8 0, .int .u8 0, .int .u8 0, .int .u8 0, .int .u8 0, .int .u8 0, .int .u8 0, .int .u8 0, .int .u8 0, .int .u8 0, .int .u8 0, .int .u8 0, .int .u8 0, .int .u8 0, .int .u8 0, .int .u8 0, .int .u8 0, .int .u8 0, .int .u8 0, .int .u8 0, .int .u8 0, .int .u8 0, .int .u8 0, .int .u8 0, .int .u8 0, .int .u8 0, .int .u8 0, .int .u8 0, .int .u8 0, .int .u8 0, .int .u8 0, .int .u8 0, .int .u8 0, .int .u8 0, .int .u8 0, .int .u8 0, .int .u8 0, .int .u8 0, .int .u8 0, .int .u8 0, .int .u8 0, .int .u8 0, .int .u8 0, .int .u8 0, .int .u8 0, .int .u8 0, .int .u8 0, .int .u8 0, .int .u8 0, .int .u8 0, .int .u8 0, .int .u8 0, .int .u8 0, .int .u8 0, .int .u8 0, .int .u8 0, .int .u8 0, .int .u8 0, .int .u8 0, .int .u8 0, .int .u8 0], rfl, by rw [heap_alloc_old _ _ (by simp), heap_alloc_new]⟩
  have hblk0 : ((w.alloc (.cells #[.int .u8 0, .int .u8 0, .int .u8 0, .int .u8 0, .int .u8 0, .int .u8 0, .int .u8 0, .int .u8 0, .int .u8 0, .int .u8 0, .int .u8 0, .int .u8 0, .int .u8 0, .int .u8 0, .int .u8 0, .int .u8 0, .int .u8 0, .int .u8 0, .int .u8 0, .int .u8 0, .int .u8 0, .int .u8 0, .int .u8 0, .int .u8 0, .int .u8 0, .int .u8 0, .int .u8 0, .int .u8 0, .int .u8 0, .int .u8 0, .int .u8 0, .int .u8 0, .int .u8 0, .int .u8 0, .int .u8 0, .int .u8 0, .int .u8 0, .int .u8 0, .int .u8 0, .int .u8 0, .int .u8 0, .int .u8 0, .int .u8 0, .int .u8 0, .int .u8 0, .int .u8 0, .int .u8 0, .int .u8 0, .int .u8 0, .int .u8 0, .int .u8 0, .int .u8 0, .int .u8 0, .int .u8 0, .int .u8 0, .int .u8 0, .int .u8 0, .int .u8 0, .int .u8 0, .int .u8 0, .int .u8 0, .int .u8 0, .int .u8 0, .int .u8 0] 105)).alloc (.cells #[.int .u8 0, .int .u8 0, .int .u8 0, .int .u8 0, .int .u8 0, .int .u8 0, .int .u8 0, .int .u8 0, .int .u8 0, .int .u8 0, .int .u8 0, .int .u8 0, .int .u8 0, .int .u8 0, .int .u8 0, .int .u8 0, .int .u8 0, .int .u8 0, .int .u8 0, .int .u8 0, .int .u8 0, .int .u8 0, .int .u8 0, .int .u8 0, .int .u8 0, .int .u8 0, .int .u8 0, .int .u8 0, .int .u8 0, .int .u8 0, .int .u8 0, .int .u8 0, .int .u8 0, .int .u8 0, .int .u8 0, .int .u8 0, .int .u8 0, .int .u8 0, .int .u8 0, .int .u8 0, .int .u8 0, .int .u8 0, .int .u8 0, .int .u8 0, .int .u8 0, .int .u8 0, .int .u8 0, .int .u8 0, .int .u8 0, .int .u8 0, .int .u8 0, .int .u8 0, .int .u8 0, .int .u8 0, .int .u8 0, .int .u8 0, .int .u8 0, .int .u8 0, .int .u8 0, .int .u8 0, .int .u8 0, .int .u8 0, .int .u8 0, .int .u8 0] 105)).heap[w.heap.size + 1]? = some (.cells (bv (List.replicate 64 0)).toArray 105 (0, 0)) := by
    rw [show w.heap.size + 1 = (w.alloc (.cells #[.int .u8 0, .int .u8 0, .int .u8 0, .int .u8 0, .int .u8 0, .int .u8 0, .int .u8 0, .int .u8 0, .int .u8 0, .int .u8 0, .int .u8 0, .int .u8 0, .int .u8 0, .int .u8 0, .int .u8 0, .int .u8 0, .int .u8 0, .int .u8 0, .int .u8 0, .int .u8 0, .int .u8 0, .int .u8 0, .int .u8 0, .int .u8 0, .int .u8 0, .int .u8 0, .int .u8 0, .int .u8 0, .int .u8 0, .int .u8 0, .int .u8 0, .int .u8 0, .int .u8 0, .int .u8 0, .int .u8 0, .int .u8 0, .int .u8 0, .int .u8 0, .int .u8 0, .int .u8 0, .int .u8 0, .int .u8 0, .int .u8 0, .int .u8 0, .int .u8 0, .int .u8 0, .int .u8 0, .int .u8 0, .int .u8 0, .int .u8 0, .int .u8 0, .int .u8 0, .int .u8 0, .int .u8 0, .int .u8 0, .int .u8 0, .int .u8 0, .int .u8 0, .int .u8 0, .int .u8 0, .int .u8 0, .int .u8 0, .int .u8 0, .int .u8 0] 105)).heap.size from by simp, heap_alloc_new]; rfl
  have hs0 : ((w.alloc (.cells #[.int .u8 0, .int .u8 0, .int .u8 0, .int .u8 0, .int .u8 0, .int .u8 0, .int .u8 0, .int .u8 0, .int .u8 0, .int .u8 0, .int .u8 0, .int .u8 0, .int .u8 0, .int .u8 0, .int .u8 0, .int .u8 0, .int .u8 0, .int .u8 0, .int .u8 0, .int .u8 0, .int .u8 0, .int .u8 0, .int .u8 0, .int .u8 0, .int .u8 0, .int .u8 0, .int .u8 0, .int .u8 0, .int .u8 0, .int .u8 0, .int .u8 0, .int .u8 0, .int .u8 0, .int .u8 0, .int .u8 0, .int .u8 0, .int .u8 0, .int .u8 0, .int .u8 0, .int .u8 0, .int .u8 0, .int .u8 0, .int .u8 0, .int .u8 0, .int .u8 0, .int .u8 0, .int .u8 0, .int .u8 0, .int .u8 0, .int .u8 0, .int .u8 0, .int .u8 0, .int .u8 0, .int .u8 0, .int .u8 0, .int .u8 0, .int .u8 0, .int .u8 0, .int .u8 0, .int .u8 0, .int .u8 0, .int .u8 0, .int .u8 0, .int .u8 0] 105)).alloc (.cells #[.int .u8 0, .int .u8 0, .int .u8 0, .int .u8 0, .int .u8 0, .int .u8 0, .int .u8 0, .int .u8 0, .int .u8 0, .int .u8 0, .int .u8 0, .int .u8 0, .int .u8 0, .int .u8 0, .int .u8 0, .int .u8 0, .int .u8 0, .int .u8 0, .int .u8 0, .int .u8 0, .int .u8 0, .int .u8 0, .int .u8 0, .int .u8 0, .int .u8 0, .int .u8 0, .int .u8 0, .int .u8 0, .int .u8 0, .int .u8 0, .int .u8 0, .int .u8 0, .int .u8 0, .int .u8 0, .int .u8 0, .int .u8 0, .int .u8 0, .int .u8 0, .int .u8 0, .int .u8 0, .int .u8 0, .int .u8 0, .int .u8 0, .int .u8 0, .int .u8 0, .int .u8 0, .int .u8 0, .int .u8 0, .int .u8 0, .int .u8 0, .int .u8 0, .int .u8 0, .int .u8 0, .int .u8 0, .int .u8 0, .int .u8 0, .int .u8 0, .int .u8 0, .int .u8 0, .int .u8 0, .int .u8 0, .int .u8 0, .int .u8 0, .int .u8 0] 105)).heap.size = w.heap.size + 1 + 1 := by simp
  obtain ⟨N, hN⟩ : ∃ N, N = w.heap.size := ⟨_, rfl⟩
  obtain ⟨M, hM⟩ : ∃ M, M = w.heap.size + 1 := ⟨_, rfl⟩
  have HN : Hid (N = w.heap.size) := hN
  have HM : Hid (M = N + 1) := by show M = N + 1; omega
  have hk0 := hk.below h0
  have ht0 := htab.below h0
  go_enter Tryd.func76, Tryd.ntmps76
  by_cases hlong : 64 < len
  · have hgt : (64 : Int) < (len : Int) := by omega
    go_wp2_with fail
    generalize (w.alloc (.cells #[.int .u8 0, .int .u8 0, .int .u8 0, .int .u8 0, .int .u8 0, .int .u8 0, .int .u8 0, .int .u8 0, .int .u8 0, .int .u8 0, .int .u8 0, .int .u8 0, .int .u8 0, .int .u8 0, .int .u8 0, .int .u8 0, .int .u8 0, .int .u8 0, .int .u8 0, .int .u8 0, .int .u8 0, .int .u8 0, .int .u8 0, .int .u8 0, .int .u8 0, .int .u8 0, .int .u8 0, .int .u8 0, .int .u8 0, .int .u8 0, .int .u8 0, .int .u8 0, .int .u8 0, .int .u8 0, .int .u8 0, .int .u8 0, .int .u8 0, .int .u8 0, .int .u8 0, .int .u8 0, .int .u8 0, .int .u8 0, .int .u8 0, .int .u8 0, .int .u8 0, .int .u8 0, .int .u8 0, .int .u8 0, .int .u8 0, .int .u8 0, .int .u8 0, .int .u8 0, .int .u8 0, .int .u8 0, .int .u8 0, .int .u8 0, .int .u8 0, .int .u8 0, .int .u8 0, .int .u8 0, .int .u8 0, .int .u8 0, .int .u8 0, .int .u8 0] 105)).alloc (.cells #[.int .u8 0, .int .u8 0, .int .u8 0, .int .u8 0, .int .u8 0, .int .u8 0, .int .u8 0, .int .u8 0, .int .u8 0, .int .u8 0, .int .u8 0, .int .u8 0, .int .u8 0, .int .u8 0, .int .u8 0, .int .u8 0, .int .u8 0, .int .u8 0, .int .u8 0, .int .u8 0, .int .u8 0, .int .u8 0, .int .u8 0, .int .u8 0, .int .u8 0, .int .u8 0, .int .u8 0, .int .u8 0, .int .u8 0, .int .u8 0, .int .u8 0, .int .u8 0, .int .u8 0, .int .u8 0, .int .u8 0, .int .u8 0, .int .u8 0, .int .u8 0, .int .u8 0, .int .u8 0, .int .u8 0, .int .u8 0, .int .u8 0, .int .u8 0, .int .u8 0, .int .u8 0, .int .u8 0, .int .u8 0, .int .u8 0, .int .u8 0, .int .u8 0, .int .u8 0, .int .u8 0, .int .u8 0, .int .u8 0, .int .u8 0, .int .u8 0, .int .u8 0, .int .u8 0, .int .u8 0, .int .u8 0, .int .u8 0, .int .u8 0, .int .u8 0] 105) = W0 at h0 hres0 hblk0 hs0 hk0 ht0 ⊢
    refine (sum_any a len cap k _ hk0 ht0 (by omega)).mono ?_
    rintro e w1 ⟨rfl, hb1⟩
    have HKK0 : Hid (sumL k = keyP k) := by show _ = _; rw [keyP_long (by omega)]
    have hkl := sumL_length k
    have hkby := sumL_byt k
    generalize sumL k = kk at HKK0 hkl hkby ⊢
    have HKK : Hid (kk = keyP k) := HKK0.out
    generalize hDD : (bv kk).toArray = D0
    obtain ⟨hdv, hth, hinf, hone⟩ := dig_var w1 kk hkl D0 hDD.symm
    clear hDD HKK0
    have HTH0 : Bx ((w1.alloc (.cells #[.int .u8 0, .int .u8 0, .int .u8 0, .int .u8 0, .int .u8 0, .int .u8 0, .int .u8 0, .int .u8 0, .int .u8 0, .int .u8 0, .int .u8 0, .int .u8 0, .int .u8 0, .int .u8 0, .int .u8 0, .int .u8 0, .int .u8 0, .int .u8 0, .int .u8 0, .int .u8 0, .int .u8 0, .int .u8 0, .int .u8 0, .int .u8 0, .int .u8 0, .int .u8 0, .int .u8 0, .int .u8 0, .int .u8 0, .int .u8 0, .int .u8 0, .int .u8 0] 30)).there w1.heap.size 0 D0.size) := ⟨hth⟩
    have HDV : Bx (DV w1 ((w1.alloc (.cells #[.int .u8 0, .int .u8 0, .int .u8 0, .int .u8 0, .int .u8 0, .int .u8 0, .int .u8 0, .int .u8 0, .int .u8 0, .int .u8 0, .int .u8 0, .int .u8 0, .int .u8 0, .int .u8 0, .int .u8 0, .int .u8 0, .int .u8 0, .int .u8 0, .int .u8 0, .int .u8 0, .int .u8 0, .int .u8 0, .int .u8 0, .int .u8 0, .int .u8 0, .int .u8 0, .int .u8 0, .int .u8 0, .int .u8 0, .int .u8 0, .int .u8 0, .int .u8 0] 30)).setCells w1.heap.size 0 D0.toList) kk) := ⟨hdv⟩
    have HINF : Bx ((Tryd.prog.info? 30).map (·.size) = some D0.size) := ⟨hinf⟩
    have HONE : Bx (D0.all (·.oneCell') = true) := ⟨hone⟩
    have hda := dig_all w1.heap.size
    clear hdv hth hinf hone
    have hlow1 := h0.trans (hb1.mono (by omega))
    have hres1 := (hb1.block w.heap.size (by omega)).trans hres0
    have hblk1 := (hb1.block (w.heap.size + 1) (by omega)).trans hblk0
    have hsz1 := hb1.size
    rw [← hN] at hres1 ⊢
    rw [show N + 1 = M from by omega]
    rw [← hM] at hblk1
    clear hk0 ht0 h0 hres0 hblk0 hb1 hlong hM hN
    have HLK : Hid (kk.length ≤ 64) := by show kk.length ≤ 64; omega
    have HSP : Hid (splice (bv (List.replicate 64 0)) 0 (bv kk) = bv (blkK k)) := by show _ = _; rw [fil_splice kk HLK.out, HKK.out]; rfl
    go_wp2_with (first
      | (refine wpList_store_mid rfl 30 (.tmp 4) (.tmp 9) rfl w1.heap.size 0 D0 rfl rfl HTH0.out HINF.out HONE.out ?_; have hdv := HDV.out; generalize (w1.alloc (.cells #[.int .u8 0, .int .u8 0, .int .u8 0, .int .u8 0, .int .u8 0, .int .u8 0, .int .u8 0, .int .u8 0, .int .u8 0, .int .u8 0, .int .u8 0, .int .u8 0, .int .u8 0, .int .u8 0, .int .u8 0, .int .u8 0, .int .u8 0, .int .u8 0, .int .u8 0, .int .u8 0, .int .u8 0, .int .u8 0, .int .u8 0, .int .u8 0, .int .u8 0, .int .u8 0, .int .u8 0, .int .u8 0, .int .u8 0, .int .u8 0, .int .u8 0, .int .u8 0] 30)).setCells w1.heap.size 0 D0.toList = W at hdv ⊢; have hkb := hdv.bts hkby hkl; have hlow := hlow1.trans (hdv.low.mono (by omega)); have hres := (hdv.low.block N (by have := HN.out; omega)).trans hres1; have hblk := (hdv.low.block M (by have := HN.out; have := HM.out; omega)).trans hblk1; clear hdv HDV HTH0 HINF HONE hlow1 hres1 hblk1 hsz1)
      | (
        refine wpList_copy_splice rfl (.tmp 11) (.tmp 12) 22 22 rfl 5 Tryd.underlying22 Tryd.size5 _ _ _ _ _ _ rfl rfl M 0 (bv (List.replicate 64 0)) 105 hblk (bv kk) (cp_min hkb HLK.out) (cp_pos hkb) (cp_fit HLK.out) (bv_one kk) M W (Below.refl _ _) (Nat.le_refl _) ?_
        intro w4 hg4 hb4
        clear hkb hblk
        have hrw : w4.heap[M]? = some (.cells (bv (blkK k)).toArray 105 (0, 0)) := by
          have := hg4.out; rw [HSP.out] at this; exact this
        have hbl : Below w.heap.size w w4 := hlow.trans (hb4.mono (by have := HN.out; have := HM.out; omega))
        have hr := (hb4.block N (by have := HM.out; omega)).trans hres
        have ht := there_row hr
        rw [hcs] at ht
        have HZ : Bx ((bv (blkK k)).toArray.size = 64) := ⟨by rw [List.size_toArray, bv_length, blkK_len]⟩
        have HO : Bx ((bv (blkK k)).toArray.all (·.oneCell') = true) := ⟨all_oneCell_toArray (bv_one _)⟩
        clear hg4 hb4 HSP hlow hres
        generalize hD : (bv (blkK k)).toArray = D at hrw HZ HO
        have HD : Bx (Ending.returned (.agg D) = .returned (.agg (bv (blkK k)).toArray)) := ⟨by rw [hD]⟩
        clear hD
        have HI : Bx ((Tryd.prog.info? 105).map (·.size) = some D.size) := ⟨by rw [HZ.out]; exact in_info⟩
        have HST : Bx ((w4.setCells N 0 D.toList).heap[N]? = some (.cells D 105 (0, 0))) := ⟨heap_stored (vs := D) hr (by rw [hcs, HZ.out])⟩
        have HBS : Bx (Below w.heap.size w (w4.setCells N 0 D.toList)) := ⟨below_setCells hbl N (by have := HN.out; omega) D.toList 0⟩
        have HTH : Bx (w4.there N 0 D.size) := ⟨by rw [HZ.out]; exact ht⟩
        have HRW : Bx (w4.heap[M]? = some (.cells D 105 (0, 0))) := ⟨hrw⟩
        clear hr ht hbl hcs hrw)
      | (refine wpList_load_row rfl 105 (.tmp 3) rfl M rfl 105 D (0, 0) _ HRW.out Tryd.underlying105 rfl HI.out ?_; refine wpList_store_mid rfl 105 (.tmp 2) (.tmp 14) rfl N 0 D rfl rfl HTH.out HI.out HO.out ?_))
    exact bodyPost_ret (v := .agg D) (results_cell_row rfl _ _ N 105 D (0, 0) _ rfl HST.out Tryd.underlying105 rfl HI.out) rfl ⟨HD.out, HBS.out⟩
  · have hgt : ¬ (64 : Int) < (len : Int) := by omega
    have HKK : Hid (k = keyP k) := by show _ = _; rw [keyP_short (by omega)]
    have HLK : Hid (k.length ≤ 64) := by show k.length ≤ 64; omega
    have HSP : Hid (splice (bv (List.replicate 64 0)) 0 (bv k) = bv (blkK k)) := by show _ = _; rw [fil_splice k HLK.out]; unfold blkK; rw [← HKK.out]
    have HPOST : Bx (∀ W, Below w.heap.size w W → Below w.heap.size w W) := ⟨fun _ h => h⟩
    clear htab ht0
    subst hN
    subst hM
    go_wp2_with (first
      | (
        refine wpList_copy_splice rfl (.tmp 11) (.tmp 12) 22 22 rfl 5 Tryd.underlying22 Tryd.size5 _ _ _ _ _ _ rfl rfl (w.heap.size + 1) 0 (bv (List.replicate 64 0)) 105 hblk0 (bv k) (cp_min hk0 HLK.out) (cp_pos hk0) (cp_fit HLK.out) (bv_one k) (w.heap.size + 1) _ (Below.refl _ _) (Nat.le_refl _) ?_
        intro w4 hg4 hb4
        have hlow := h0
        have hres := hres0
        clear hk0 hblk0 hk hs0
        have hrw : w4.heap[(w.heap.size + 1)]? = some (.cells (bv (blkK k)).toArray 105 (0, 0)) := by
          have := hg4.out; rw [HSP.out] at this; exact this
        have hbl : Below w.heap.size w w4 := hlow.trans (hb4.mono (by have := HN.out; have := HM.out; omega))
        have hr := (hb4.block w.heap.size (by have := HM.out; omega)).trans hres
        have ht := there_row hr
        rw [hcs] at ht
        have HZ : Bx ((bv (blkK k)).toArray.size = 64) := ⟨by rw [List.size_toArray, bv_length, blkK_len]⟩
        have HO : Bx ((bv (blkK k)).toArray.all (·.oneCell') = true) := ⟨all_oneCell_toArray (bv_one _)⟩
        clear hg4 hb4 HSP hlow hres
        generalize hD : (bv (blkK k)).toArray = D at hrw HZ HO
        have HD : Bx (Ending.returned (.agg D) = .returned (.agg (bv (blkK k)).toArray)) := ⟨by rw [hD]⟩
        clear hD
        have HI : Bx ((Tryd.prog.info? 105).map (·.size) = some D.size) := ⟨by rw [HZ.out]; exact in_info⟩
        have HST : Bx ((w4.setCells w.heap.size 0 D.toList).heap[w.heap.size]? = some (.cells D 105 (0, 0))) := ⟨heap_stored (vs := D) hr (by rw [hcs, HZ.out])⟩
        have HBS : Bx (Below w.heap.size w (w4.setCells w.heap.size 0 D.toList)) := ⟨below_setCells hbl w.heap.size (by have := HN.out; omega) D.toList 0⟩
        have HTH : Bx (w4.there w.heap.size 0 D.size) := ⟨by rw [HZ.out]; exact ht⟩
        have HRW : Bx (w4.heap[(w.heap.size + 1)]? = some (.cells D 105 (0, 0))) := ⟨hrw⟩
        clear hr ht hbl hcs hrw)
      | (refine wpList_load_row rfl 105 (.tmp 3) rfl (w.heap.size + 1) rfl 105 D (0, 0) _ HRW.out Tryd.underlying105 rfl HI.out ?_; refine wpList_store_mid rfl 105 (.tmp 2) (.tmp 14) rfl w.heap.size 0 D rfl rfl HTH.out HI.out HO.out ?_))
    exact bodyPost_ret (v := .agg D) (results_cell_row rfl _ _ w.heap.size 105 D (0, 0) _ rfl HST.out Tryd.underlying105 rfl HI.out) rfl ⟨HD.out, HBS.out⟩
end Go.Proofs.YtbednfacipphhaaDoor
