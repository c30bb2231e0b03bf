/- The first bits of a sum, bit by bit: the document's own Cut. -/
import Derived.Test.YtfkloilbjfleeaaDoorMCut
namespace Go.Proofs.YtfkloilbjfleeaaDoor
open Go.RowKit
set_option linter.unusedVariables false

theorem bit_yes : ∀ c : Fin 256, ∀ r : Fin 8, (bits BinOp.and IntKind.u8 (c.val : Int) (128 / 2 ^ r.val) != 0) = true → bc (c.val : Int) (r.val + 1) = bc (c.val : Int) r.val + 128 / 2 ^ r.val := by decide +kernel
theorem bit_no : ∀ c : Fin 256, ∀ r : Fin 8, (bits BinOp.and IntKind.u8 (c.val : Int) (128 / 2 ^ r.val) != 0) = false → bc (c.val : Int) (r.val + 1) = bc (c.val : Int) r.val := by decide +kernel
theorem bit_b : ∀ r : Fin 8, (0 : Int) ≤ 128 / 2 ^ r.val ∧ (128 : Int) / 2 ^ r.val ≤ 128 := by decide +kernel

set_option maxRecDepth 100000 in
set_option maxHeartbeats 1000000 in
theorem refmcut_any (d : List Int) (x : Int) (w : World) (hd : Dg d) :
    Calls Tryd.prog 32 #[.agg (bv d).toArray, .int .i64 x] w fun e w' => e = .returned (.agg (bv (cutL d x)).toArray) ∧ Below w.heap.size w w' := by
  have HL : Hid (d.length = 32) := hd.1
  have hb := hd.2
  have hnx : nb x ≤ 256 := nb_le x
  have HX : Hid ((nb x : Int) = min (max x 0) 256) := by show _ = _; unfold nb; omega
  have HC : Bx (cutL d x = cutN d (nb x)) := ⟨rfl⟩
  generalize nb x = n at hnx HX HC
  have HZ0 : Bx (cutN d 0 = List.replicate 32 0) := ⟨cutN_zero d hd⟩
  go_enter Tryd.func32, Tryd.ntmps32
  go_wp2
  obtain ⟨N, hN⟩ : ∃ N, N = w.heap.size := ⟨_, rfl⟩
  have hrow : MD N (N + 1 + 1) (cutN d 0) w (((w.alloc (.cells (bv d).toArray 42)).alloc (.cells #[.int .u8 0, .int .u8 0, .int .u8 0, .int .u8 0, .int .u8 0, .int .u8 0, .int .u8 0, .int .u8 0, .int .u8 0, .int .u8 0, .int .u8 0, .int .u8 0, .int .u8 0, .int .u8 0, .int .u8 0, .int .u8 0, .int .u8 0, .int .u8 0, .int .u8 0, .int .u8 0, .int .u8 0, .int .u8 0, .int .u8 0, .int .u8 0, .int .u8 0, .int .u8 0, .int .u8 0, .int .u8 0, .int .u8 0, .int .u8 0, .int .u8 0, .int .u8 0] 42)).alloc (.cells #[.int .u8 0, .int .u8 0, .int .u8 0, .int .u8 0, .int .u8 0, .int .u8 0, .int .u8 0, .int .u8 0, .int .u8 0, .int .u8 0, .int .u8 0, .int .u8 0, .int .u8 0, .int .u8 0, .int .u8 0, .int .u8 0, .int .u8 0, .int .u8 0, .int .u8 0, .int .u8 0, .int .u8 0, .int .u8 0, .int .u8 0, .int .u8 0, .int .u8 0, .int .u8 0, .int .u8 0, .int .u8 0, .int .u8 0, .int .u8 0, .int .u8 0, .int .u8 0] 42)) := by
    subst hN
    refine ⟨(((Below.refl _ _).alloc (Nat.le_refl _) _).alloc (by simp) _).alloc (by simp; omega) _, ?_, cutN_length d 0⟩
    rw [HZ0.out, show w.heap.size + 1 + 1 = ((w.alloc (.cells (bv d).toArray 42)).alloc (.cells #[.int .u8 0, .int .u8 0, .int .u8 0, .int .u8 0, .int .u8 0, .int .u8 0, .int .u8 0, .int .u8 0, .int .u8 0, .int .u8 0, .int .u8 0, .int .u8 0, .int .u8 0, .int .u8 0, .int .u8 0, .int .u8 0, .int .u8 0, .int .u8 0, .int .u8 0, .int .u8 0, .int .u8 0, .int .u8 0, .int .u8 0, .int .u8 0, .int .u8 0, .int .u8 0, .int .u8 0, .int .u8 0, .int .u8 0, .int .u8 0, .int .u8 0, .int .u8 0] 42)).heap.size from by simp, heap_alloc_new]; rfl
  have hdr : (((w.alloc (.cells (bv d).toArray 42)).alloc (.cells #[.int .u8 0, .int .u8 0, .int .u8 0, .int .u8 0, .int .u8 0, .int .u8 0, .int .u8 0, .int .u8 0, .int .u8 0, .int .u8 0, .int .u8 0, .int .u8 0, .int .u8 0, .int .u8 0, .int .u8 0, .int .u8 0, .int .u8 0, .int .u8 0, .int .u8 0, .int .u8 0, .int .u8 0, .int .u8 0, .int .u8 0, .int .u8 0, .int .u8 0, .int .u8 0, .int .u8 0, .int .u8 0, .int .u8 0, .int .u8 0, .int .u8 0, .int .u8 0] 42)).alloc (.cells #[.int .u8 0, .int .u8 0, .int .u8 0, .int .u8 0, .int .u8 0, .int .u8 0, .int .u8 0, .int .u8 0, .int .u8 0, .int .u8 0, .int .u8 0, .int .u8 0, .int .u8 0, .int .u8 0, .int .u8 0, .int .u8 0, .int .u8 0, .int .u8 0, .int .u8 0, .int .u8 0, .int .u8 0, .int .u8 0, .int .u8 0, .int .u8 0, .int .u8 0, .int .u8 0, .int .u8 0, .int .u8 0, .int .u8 0, .int .u8 0, .int .u8 0, .int .u8 0] 42)).heap[N]? = some (.cells (bv d).toArray 42 (0, 0)) := by
    subst hN
    rw [heap_alloc_old _ _ (by simp; omega), heap_alloc_old _ _ (by simp), heap_alloc_new]
  have hres : ∃ cs : Array Value, cs.size = 32 ∧ (((w.alloc (.cells (bv d).toArray 42)).alloc (.cells #[.int .u8 0, .int .u8 0, .int .u8 0, .int .u8 0, .int .u8 0, .int .u8 0, .int .u8 0, .int .u8 0, .int .u8 0, .int .u8 0, .int .u8 0, .int .u8 0, .int .u8 0, .int .u8 0, .int .u8 0, .int .u8 0, .int .u8 0, .int .u8 0, .int .u8 0, .int .u8 0, .int .u8 0, .int .u8 0, .int .u8 0, .int .u8 0, .int .u8 0, .int .u8 0, .int .u8 0, .int .u8 0, .int .u8 0, .int .u8 0, .int .u8 0, .int .u8 0] 42)).alloc (.cells #[.int .u8 0, .int .u8 0, .int .u8 0, .int .u8 0, .int .u8 0, .int .u8 0, .int .u8 0, .int .u8 0, .int .u8 0, .int .u8 0, .int .u8 0, .int .u8 0, .int .u8 0, .int .u8 0, .int .u8 0, .int .u8 0, .int .u8 0, .int .u8 0, .int .u8 0, .int .u8 0, .int .u8 0, .int .u8 0, .int .u8 0, .int .u8 0, .int .u8 0, .int .u8 0, .int .u8 0, .int .u8 0, .int .u8 0, .int .u8 0, .int .u8 0, .int .u8 0] 42)).heap[N + 1]? = some (.cells cs 42 (0, 0)) := by
    subst hN
    exact ⟨#[.int .u8 0, .int .u8 0, .int .u8 0, .int .u8 0, .int .u8 0, .int .u8 0, .int .u8 0, .int .u8 0, .int .u8 0, .int .u8 0, .int .u8 0, .int .u8 0, .int .u8 0, .int .u8 0, .int .u8 0, .int .u8 0, .int .u8 0, .int .u8 0, .int .u8 0, .int .u8 0, .int .u8 0, .int .u8 0, .int .u8 0, .int .u8 0, .int .u8 0, .int .u8 0, .int .u8 0, .int .u8 0, .int .u8 0, .int .u8 0, .int .u8 0, .int .u8 0], rfl, by rw [heap_alloc_old _ _ (by simp), show w.heap.size + 1 = (w.alloc (.cells (bv d).toArray 42)).heap.size from by simp, heap_alloc_new]⟩
  generalize ((w.alloc (.cells (bv d).toArray 42)).alloc (.cells #[.int .u8 0, .int .u8 0, .int .u8 0, .int .u8 0, .int .u8 0, .int .u8 0, .int .u8 0, .int .u8 0, .int .u8 0, .int .u8 0, .int .u8 0, .int .u8 0, .int .u8 0, .int .u8 0, .int .u8 0, .int .u8 0, .int .u8 0, .int .u8 0, .int .u8 0, .int .u8 0, .int .u8 0, .int .u8 0, .int .u8 0, .int .u8 0, .int .u8 0, .int .u8 0, .int .u8 0, .int .u8 0, .int .u8 0, .int .u8 0, .int .u8 0, .int .u8 0] 42)).alloc (.cells #[.int .u8 0, .int .u8 0, .int .u8 0, .int .u8 0, .int .u8 0, .int .u8 0, .int .u8 0, .int .u8 0, .int .u8 0, .int .u8 0, .int .u8 0, .int .u8 0, .int .u8 0, .int .u8 0, .int .u8 0, .int .u8 0, .int .u8 0, .int .u8 0, .int .u8 0, .int .u8 0, .int .u8 0, .int .u8 0, .int .u8 0, .int .u8 0, .int .u8 0, .int .u8 0, .int .u8 0, .int .u8 0, .int .u8 0, .int .u8 0, .int .u8 0, .int .u8 0] 42) = W0 at hrow hres hdr ⊢
  rw [← hN]
  have HN : Hid (N = w.heap.size) := hN
  clear hN HZ0
  go_loopw [6] (fun i wr => ∃ j : Nat, j ≤ n ∧ i = .int .i64 j ∧ MD N (N + 1 + 1) (cutN d j) w wr ∧ wr.heap[N]? = some (.cells (bv d).toArray 42 (0, 0)) ∧ ∃ cs : Array Value, cs.size = 32 ∧ wr.heap[N + 1]? = some (.cells cs 42 (0, 0))) (fun i _ => 256 - (intOf i).toNat)
  case atStart => exact ⟨0, Nat.zero_le _, rfl, hrow, hdr, hres⟩
  case round =>
    clear hrow hres hdr
    obtain ⟨j, hj, rfl, hk, hdr, cs, hcs, hr⟩ := hrel
    by_cases hlt : j < n
    · have h1 : decide ((j : Int) < 256) = true := by simp; omega
      have h2 : decide ((j : Int) < x) = true := by have := HX.out; simp; omega
      obtain ⟨q, hq⟩ : ∃ q, q = j / 8 := ⟨_, rfl⟩
      obtain ⟨r, hr8⟩ : ∃ r, r = j % 8 := ⟨_, rfl⟩
      have q1 : (j : Int) / 8 = (q : Int) := by omega
      have r1 : (j : Int) % 8 = (r : Int) := by omega
      have hq32 : (q : Int) < 32 := by omega
      have hr7 : (r : Int) < 8 := by omega
      have hc := bv_cell hdr q (by rw [HL.out]; omega)
      have hc2 := bv_cell hk.row q (by rw [cutN_length]; omega)
      have hf := frozen_of_row _ _ q _ _ hk.row
      rw [cutN_getD d j q (by omega), show min (j - 8 * q) 8 = r from by omega] at hc2
      have HQ : Hid (q = j / 8) := hq
      have HR : Hid (r = j % 8) := hr8
      clear hq hr8
      have hy := hb.getD q
      have HS := set_cut d hd j (by omega)
      have HE := cutN_same d j (by omega)
      rw [← HQ.out, ← HR.out] at HS HE
      have hbc := bc_b hy r
      have hbc1 := bc_b hy (r + 1)
      have hyes := bit_yes ⟨(d.getD q 0).toNat, by omega⟩ ⟨r, by omega⟩
      have hno := bit_no ⟨(d.getD q 0).toNat, by omega⟩ ⟨r, by omega⟩
      have hB2 := bit_b ⟨r, by omega⟩
      simp only [show (((d.getD q 0).toNat : Nat) : Int) = d.getD q 0 from by omega] at hyes hno
      simp only at hB2
      generalize d.getD q 0 = y at hc hc2 hy HS HE hbc hbc1 hyes hno
      obtain ⟨B, hB⟩ : ∃ B : Int, (128 : Int) / 2 ^ r = B := ⟨_, rfl⟩
      rw [hB] at hyes hno hB2
      have HNE : Bx (bc y (r + 1) = bc y r → cutN d j = cutN d (j + 1)) := ⟨fun h => HE h hd⟩
      clear HE
      by_cases hbit : (bits BinOp.and IntKind.u8 y B != 0) = true
      · have hz := hyes hbit
        have hst := hk.store (by omega) q (.int .u8 (bc y (r + 1))) (cutN d (j + 1)) (by rw [cutN_length, cutN_length]) (by rw [bv_set, HS])
        have hr2 : ∃ cs : Array Value, cs.size = 32 ∧ (wr.setCell ⟨N + 1 + 1, q, none⟩ (.int .u8 (bc y (r + 1)))).heap[N + 1]? = some (.cells cs 42 (0, 0)) := ⟨cs, hcs, by rw [heap_setCell_other _ _ _ _ (by show N + 1 ≠ N + 1 + 1; omega)]; exact hr⟩
        have hd2 : (wr.setCell ⟨N + 1 + 1, q, none⟩ (.int .u8 (bc y (r + 1)))).heap[N]? = some (.cells (bv d).toArray 42 (0, 0)) := by rw [heap_setCell_other _ _ _ _ (by show N ≠ N + 1 + 1; omega)]; exact hdr
        rw [hz] at hst hr2 hd2 hbc1
        generalize bc y r = z at hc2 hst hr2 hd2 hbc hbc1
        clear hyes hno hz HS HNE hk hdr hr hcs
        go_wp2
        go_roundw
        case rel => exact ⟨j + 1, by omega, by go_num, hst, hd2, hr2⟩
        case measure => simp [intOf]; omega
      · have hbit' : (bits BinOp.and IntKind.u8 y B != 0) = false := by simpa using hbit
        have HK : Bx (cutN d j = cutN d (j + 1)) := ⟨HNE.out (hno hbit')⟩
        have hk2 : MD N (N + 1 + 1) (cutN d (j + 1)) w wr := by rw [← HK.out]; exact hk
        clear hyes hno HS HNE HK hk hbit
        go_wp2
        go_roundw
        case rel => exact ⟨j + 1, by omega, by go_num, hk2, hdr, cs, hcs, hr⟩
        case measure => simp [intOf]; omega
    · have HJ : Hid (j = n) := by show j = n; omega
      have hrw : wr.heap[N + 1 + 1]? = some (.cells (bv (cutL d x)).toArray 42 (0, 0)) := by
        have := hk.row
        rw [HJ.out, ← HC.out] at this
        exact this
      have hg : decide ((j : Int) < 256) = false ∨ decide ((j : Int) < 256) = true ∧ decide ((j : Int) < x) = false := by
        have := HX.out
        have := HJ.out
        by_cases h : (j : Int) < 256
        · exact .inr ⟨by simpa using h, by simp; omega⟩
        · exact .inl (by simpa using h)
      have hbl : Below w.heap.size w wr := by rw [← HN.out]; exact hk.low
      have hNs : w.heap.size ≤ N + 1 := by have := HN.out; omega
      have ht := there_row hr
      rw [hcs] at ht
      have HZ : Bx ((bv (cutL d x)).toArray.size = 32) := ⟨by rw [List.size_toArray, bv_length, (cutL_dg hb x).1]⟩
      have HO : Bx ((bv (cutL d x)).toArray.all (·.oneCell') = true) := ⟨all_oneCell_toArray (bv_one _)⟩
      clear hk HJ
      generalize hD : (bv (cutL d x)).toArray = D at hrw HZ HO
      have HD : Bx (Ending.returned (.agg D) = .returned (.agg (bv (cutL d x)).toArray)) := ⟨by rw [hD]⟩
      clear hD
      have HI : Bx ((Tryd.prog.info? 42).map (·.size) = some D.size) := ⟨by rw [HZ.out]; exact dig_info⟩
      have HST : Bx ((wr.setCells (N + 1) 0 D.toList).heap[N + 1]? = some (.cells D 42 (0, 0))) := ⟨heap_stored (vs := D) hr (by rw [hcs, HZ.out])⟩
      have HBS : Bx (Below w.heap.size w (wr.setCells (N + 1) 0 D.toList)) := ⟨below_setCells hbl (N + 1) hNs D.toList 0⟩
      have HTH : Bx (wr.there (N + 1) 0 D.size) := ⟨by rw [HZ.out]; exact ht⟩
      have HRW : Bx (wr.heap[N + 1 + 1]? = some (.cells D 42 (0, 0))) := ⟨hrw⟩
      clear hr ht hbl hNs hcs hrw hdr hlt hj
      rcases hg with hg | ⟨hg, hg2⟩
      all_goals
        go_wp2_with (refine wpList_load_row rfl 42 (.tmp 5) rfl (N + 1 + 1) rfl 42 D (0, 0) _ HRW.out Tryd.underlying42 rfl HI.out ?_; refine wpList_store_mid rfl 42 (.tmp 4) (.tmp 37) rfl (N + 1) 0 D rfl rfl HTH.out HI.out HO.out ?_)
        exact bodyPost_ret (v := .agg D) (results_cell_row rfl _ _ (N + 1) 42 D (0, 0) _ rfl HST.out Tryd.underlying42 rfl HI.out) rfl ⟨HD.out, HBS.out⟩
end Go.Proofs.YtfkloilbjfleeaaDoor
