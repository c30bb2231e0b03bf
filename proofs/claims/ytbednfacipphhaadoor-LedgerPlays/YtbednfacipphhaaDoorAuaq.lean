/- The first bits of a sum, bit by bit: the document's own Cut. The sum of a leaf and of two sums: the document's own. -/
import Derived.Test.YtbednfacipphhaaDoorAuaf
import Derived.Test.YtbednfacipphhaaDoorAuau
import Derived.Test.YtbednfacipphhaaDoorRefSum
import Derived.Test.YtbednfacipphhaaDoorAuav
namespace Go.Proofs.YtbednfacipphhaaDoor
open Go.RowKit
set_option linter.unusedVariables false

set_option maxRecDepth 100000 in
theorem bit_yes : ∀ c : Fin 256, ∀ r : Fin 8, (bits BinOp.and IntKind.u8 (c.val : Int) (128 / 2 ^ r.val) != 0) = true → bc (c.val : Int) (r.val + 1) = bc (c.val : Int) r.val + 128 / 2 ^ r.val := by decide +kernel
set_option maxRecDepth 100000 in
theorem bit_no : ∀ c : Fin 256, ∀ r : Fin 8, (bits BinOp.and IntKind.u8 (c.val : Int) (128 / 2 ^ r.val) != 0) = false → bc (c.val : Int) (r.val + 1) = bc (c.val : Int) r.val := by decide +kernel
set_option maxRecDepth 100000 in
theorem bit_b : ∀ r : Fin 8, (0 : Int) ≤ 128 / 2 ^ r.val ∧ (128 : Int) / 2 ^ r.val ≤ 128 := by decide +kernel

set_option maxRecDepth 100000 in
set_option maxHeartbeats 1000000 in
theorem refmcut_any (d : List Int) (x : Int) (w : World) (hd : Dg d) :
    Calls Tryd.prog 64 #[.agg (bv d).toArray, .int .i64 x] w fun e w' => e = .returned (.agg (bv (cutL d x)).toArray) ∧ Below w.heap.size w w' := by
  have HL : Hid (d.length = 32) := hd.1
  have hb := hd.2
  have hnx : nb x ≤ 256 := nb_le x
  have HX : Hid ((nb x : Int) = min (max x 0) 256) := by show _ = _; unfold nb; omega
  have HC : Bx (cutL d x = cutN d (nb x)) := ⟨rfl⟩
  generalize nb x = n at hnx HX HC
  have HZ0 : Bx (cutN d 0 = List.replicate 32 0) := ⟨cutN_zero d hd⟩
  go_enter Tryd.func64, Tryd.ntmps64
  go_wp2
  obtain ⟨N, hN⟩ : ∃ N, N = w.heap.size := ⟨_, rfl⟩
  have hrow : MD N (N + 1 + 1) (cutN d 0) w (((w.alloc (.cells (bv d).toArray 30)).alloc (.cells #[.int .u8 0, .int .u8 0, .int .u8 0, .int .u8 0, .int .u8 0, .int .u8 0, .int .u8 0, .int .u8 0, .int .u8 0, .int .u8 0, .int .u8 0, .int .u8 0, .int .u8 0, .int .u8 0, .int .u8 0, .int .u8 0, .int .u8 0, .int .u8 0, .int .u8 0, .int .u8 0, .int .u8 0, .int .u8 0, .int .u8 0, .int .u8 0, .int .u8 0, .int .u8 0, .int .u8 0, .int .u8 0, .int .u8 0, .int .u8 0, .int .u8 0, .int .u8 0] 30)).alloc (.cells #[.int .u8 0, .int .u8 0, .int .u8 0, .int .u8 0, .int .u8 0, .int .u8 0, .int .u8 0, .int .u8 0, .int .u8 0, .int .u8 0, .int .u8 0, .int .u8 0, .int .u8 0, .int .u8 0, .int .u8 0, .int .u8 0, .int .u8 0, .int .u8 0, .int .u8 0, .int .u8 0, .int .u8 0, .int .u8 0, .int .u8 0, .int .u8 0, .int .u8 0, .int .u8 0, .int .u8 0, .int .u8 0, .int .u8 0, .int .u8 0, .int .u8 0, .int .u8 0] 30)) := by
    subst hN
    refine ⟨(((Below.refl _ _).alloc (Nat.le_refl _) _).alloc (by simp) _).alloc (by simp; omega) _, ?_, cutN_length d 0⟩
    rw [HZ0.out, show w.heap.size + 1 + 1 = ((w.alloc (.cells (bv d).toArray 30)).alloc (.cells #[.int .u8 0, .int .u8 0, .int .u8 0, .int .u8 0, .int .u8 0, .int .u8 0, .int .u8 0, .int .u8 0, .int .u8 0, .int .u8 0, .int .u8 0, .int .u8 0, .int .u8 0, .int .u8 0, .int .u8 0, .int .u8 0, .int .u8 0, .int .u8 0, .int .u8 0, .int .u8 0, .int .u8 0, .int .u8 0, .int .u8 0, .int .u8 0, .int .u8 0, .int .u8 0, .int .u8 0, .int .u8 0, .int .u8 0, .int .u8 0, .int .u8 0, .int .u8 0] 30)).heap.size from by simp, heap_alloc_new]; rfl
  have hdr : (((w.alloc (.cells (bv d).toArray 30)).alloc (.cells #[.int .u8 0, .int .u8 0, .int .u8 0, .int .u8 0, .int .u8 0, .int .u8 0, .int .u8 0, .int .u8 0, .int .u8 0, .int .u8 0, .int .u8 0, .int .u8 0, .int .u8 0, .int .u8 0, .int .u8 0, .int .u8 0, .int .u8 0, .int .u8 0, .int .u8 0, .int .u8 0, .int .u8 0, .int .u8 0, .int .u8 0, .int .u8 0, .int .u8 0, .int .u8 0, .int .u8 0, .int .u8 0, .int .u8 0, .int .u8 0, .int .u8 0, .int .u8 0] 30)).alloc (.cells #[.int .u8 0, .int .u8 0, .int .u8 0, .int .u8 0, .int .u8 0, .int .u8 0, .int .u8 0, .int .u8 0, .int .u8 0, .int .u8 0, .int .u8 0, .int .u8 0, .int .u8 0, .int .u8 0, .int .u8 0, .int .u8 0, .int .u8 0, .int .u8 0, .int .u8 0, .int .u8 0, .int .u8 0, .int .u8 0, .int .u8 0, .int .u8 0, .int .u8 0, .int .u8 0, .int .u8 0, .int .u8 0, .int .u8 0, .int .u8 0, .int .u8 0, .int .u8 0] 30)).heap[N]? = some (.cells (bv d).toArray 30 (0, 0)) := by
    subst hN
    rw [heap_alloc_old _ _ (by simp; omega), heap_alloc_old _ _ (by simp), heap_alloc_new]
  have hres : ∃ cs : Array Value, cs.size = 32 ∧ (((w.alloc (.cells (bv d).toArray 30)).alloc (.cells #[.int .u8 0, .int .u8 0, .int .u8 0, .int .u8 0, .int .u8 0, .int .u8 0, .int .u8 0, .int .u8 0, .int .u8 0, .int .u8 0, .int .u8 0, .int .u8 0, .int .u8 0, .int .u8 0, .int .u8 0, .int .u8 0, .int .u8 0, .int .u8 0, .int .u8 0, .int .u8 0, .int .u8 0, .int .u8 0, .int .u8 0, .int .u8 0, .int .u8 0, .int .u8 0, .int .u8 0, .int .u8 0, .int .u8 0, .int .u8 0, .int .u8 0, .int .u8 0] 30)).alloc (.cells #[.int .u8 0, .int .u8 0, .int .u8 0, .int .u8 0, .int .u8 0, .int .u8 0, .int .u8 0, .int .u8 0, .int .u8 0, .int .u8 0, .int .u8 0, .int .u8 0, .int .u8 0, .int .u8 0, .int .u8 0, .int .u8 0, .int .u8 0, .int .u8 0, .int .u8 0, .int .u8 0, .int .u8 0, .int .u8 0, .int .u8 0, .int .u8 0, .int .u8 0, .int .u8 0, .int .u8 0, .int .u8 0, .int .u8 0, .int .u8 0, .int .u8 0, .int .u8 0] 30)).heap[N + 1]? = some (.cells cs 30 (0, 0)) := by
    subst hN
    exact ⟨#[.int .u8 0, .int .u8 0, .int .u8 0, .int .u8 0, .int .u8 0, .int .u8 0, .int .u8 0, .int .u8 0, .int .u8 0, .int .u8 0, .int .u8 0, .int .u8 0, .int .u8 0, .int .u8 0, .int .u8 0, .int .u8 0, .int .u8 0, .int .u8 0, .int .u8 0, .int .u8 0, .int .u8 0, .int .u8 0, .int .u8 0, .int .u8 0, .int .u8 0, .int .u8 0, .int .u8 0, .int .u8 0, .int .u8 0, .int .u8 0, .int .u8 0, .int .u8 0], rfl, by rw [heap_alloc_old _ _ (by simp), show w.heap.size + 1 = (w.alloc (.cells (bv d).toArray 30)).heap.size from by simp, heap_alloc_new]⟩
  generalize ((w.alloc (.cells (bv d).toArray 30)).alloc (.cells #[.int .u8 0, .int .u8 0, .int .u8 0, .int .u8 0, .int .u8 0, .int .u8 0, .int .u8 0, .int .u8 0, .int .u8 0, .int .u8 0, .int .u8 0, .int .u8 0, .int .u8 0, .int .u8 0, .int .u8 0, .int .u8 0, .int .u8 0, .int .u8 0, .int .u8 0, .int .u8 0, .int .u8 0, .int .u8 0, .int .u8 0, .int .u8 0, .int .u8 0, .int .u8 0, .int .u8 0, .int .u8 0, .int .u8 0, .int .u8 0, .int .u8 0, .int .u8 0] 30)).alloc (.cells #[.int .u8 0, .int .u8 0, .int .u8 0, .int .u8 0, .int .u8 0, .int .u8 0, .int .u8 0, .int .u8 0, .int .u8 0, .int .u8 0, .int .u8 0, .int .u8 0, .int .u8 0, .int .u8 0, .int .u8 0, .int .u8 0, .int .u8 0, .int .u8 0, .int .u8 0, .int .u8 0, .int .u8 0, .int .u8 0, .int .u8 0, .int .u8 0, .int .u8 0, .int .u8 0, .int .u8 0, .int .u8 0, .int .u8 0, .int .u8 0, .int .u8 0, .int .u8 0] 30) = W0 at hrow hres hdr ⊢
  rw [← hN]
  have HN : Hid (N = w.heap.size) := hN
  clear hN HZ0
  go_loopw [6] (fun i wr => ∃ j : Nat, j ≤ n ∧ i = .int .i64 j ∧ MD N (N + 1 + 1) (cutN d j) w wr ∧ wr.heap[N]? = some (.cells (bv d).toArray 30 (0, 0)) ∧ ∃ cs : Array Value, cs.size = 32 ∧ wr.heap[N + 1]? = some (.cells cs 30 (0, 0))) (fun i _ => 256 - (intOf i).toNat)
  case atStart => exact ⟨0, Nat.zero_le _, rfl, hrow, hdr, hres⟩
  case round =>
    clear hrow hres hdr
    obtain ⟨j, hj, rfl, hk, hdr, cs, hcs, hr⟩ := hrel
    by_cases hlt : j < n
    · have h1 : decide ((j : Int) < 256) = true := by simp; omega
      have h2 : decide ((j : Int) < x) = true := by have := HX.out; simp; omega
      obtain ⟨q, hq⟩ : ∃ q, q = j / 8 := ⟨_, rfl⟩
      obtain ⟨r, hr8⟩ : ∃ r, r = j % 8 := ⟨_, rfl⟩
      have q1 : (j : Int) / 8 = (q : Int) := by omega
      have r1 : (j : Int) % 8 = (r : Int) := by omega
      have hq32 : (q : Int) < 32 := by omega
      have hr7 : (r : Int) < 8 := by omega
      have hc := bv_cell hdr q (by rw [HL.out]; omega)
      have hc2 := bv_cell hk.row q (by rw [cutN_length]; omega)
      have hf := frozen_of_row _ _ q _ _ hk.row
      rw [cutN_getD d j q (by omega), show min (j - 8 * q) 8 = r from by omega] at hc2
      have HQ : Hid (q = j / 8) := hq
      have HR : Hid (r = j % 8) := hr8
      clear hq hr8
      have hy := hb.getD q
      have HS := set_cut d hd j (by omega)
      have HE := cutN_same d j (by omega)
      rw [← HQ.out, ← HR.out] at HS HE
      have hbc := bc_b hy r
      have hbc1 := bc_b hy (r + 1)
      have hyes := bit_yes ⟨(d.getD q 0).toNat, by omega⟩ ⟨r, by omega⟩
      have hno := bit_no ⟨(d.getD q 0).toNat, by omega⟩ ⟨r, by omega⟩
      have hB2 := bit_b ⟨r, by omega⟩
      simp only [show (((d.getD q 0).toNat : Nat) : Int) = d.getD q 0 from by omega] at hyes hno
      simp only at hB2
      generalize d.getD q 0 = y at hc hc2 hy HS HE hbc hbc1 hyes hno
      obtain ⟨B, hB⟩ : ∃ B : Int, (128 : Int) / 2 ^ r = B := ⟨_, rfl⟩
      rw [hB] at hyes hno hB2
      have HNE : Bx (bc y (r + 1) = bc y r → cutN d j = cutN d (j + 1)) := ⟨fun h => HE h hd⟩
      clear HE
      by_cases hbit : (bits BinOp.and IntKind.u8 y B != 0) = true
      · have hz := hyes hbit
        have hst := hk.store (by omega) q (.int .u8 (bc y (r + 1))) (cutN d (j + 1)) (by rw [cutN_length, cutN_length]) (by rw [byt_set, HS])
        have hr2 : ∃ cs : Array Value, cs.size = 32 ∧ (wr.setCell ⟨N + 1 + 1, q, none⟩ (.int .u8 (bc y (r + 1)))).heap[N + 1]? = some (.cells cs 30 (0, 0)) := ⟨cs, hcs, by rw [heap_setCell_other _ _ _ _ (by show N + 1 ≠ N + 1 + 1; omega)]; exact hr⟩
        have hd2 : (wr.setCell ⟨N + 1 + 1, q, none⟩ (.int .u8 (bc y (r + 1)))).heap[N]? = some (.cells (bv d).toArray 30 (0, 0)) := by rw [heap_setCell_other _ _ _ _ (by show N ≠ N + 1 + 1; omega)]; exact hdr
        rw [hz] at hst hr2 hd2 hbc1
        generalize bc y r = z at hc2 hst hr2 hd2 hbc hbc1
        clear hyes hno hz HS HNE hk hdr hr hcs
        go_wp2
        go_roundw
        case rel => exact ⟨j + 1, by omega, by go_num, hst, hd2, hr2⟩
        case measure => simp [intOf]; omega
      · have hbit' : (bits BinOp.and IntKind.u8 y B != 0) = false := by simpa using hbit
        have HK : Bx (cutN d j = cutN d (j + 1)) := ⟨HNE.out (hno hbit')⟩
        have hk2 : MD N (N + 1 + 1) (cutN d (j + 1)) w wr := by rw [← HK.out]; exact hk
        clear hyes hno HS HNE HK hk hbit
        go_wp2
        go_roundw
        case rel => exact ⟨j + 1, by omega, by go_num, hk2, hdr, cs, hcs, hr⟩
        case measure => simp [intOf]; omega
    · have HJ : Hid (j = n) := by show j = n; omega
      have hrw : wr.heap[N + 1 + 1]? = some (.cells (bv (cutL d x)).toArray 30 (0, 0)) := by
        have := hk.row
        rw [HJ.out, ← HC.out] at this
        exact this
      have hg : decide ((j : Int) < 256) = false ∨ decide ((j : Int) < 256) = true ∧ decide ((j : Int) < x) = false := by
        have := HX.out
        have := HJ.out
        by_cases h : (j : Int) < 256
        · exact .inr ⟨by simpa using h, by simp; omega⟩
        · exact .inl (by simpa using h)
      have hbl : Below w.heap.size w wr := by rw [← HN.out]; exact hk.low
      have hNs : w.heap.size ≤ N + 1 := by have := HN.out; omega
      have ht := there_row hr
      rw [hcs] at ht
      have HZ : Bx ((bv (cutL d x)).toArray.size = 32) := ⟨by rw [List.size_toArray, bv_length, (cutL_dg hb x).1]⟩
      have HO : Bx ((bv (cutL d x)).toArray.all (·.oneCell') = true) := ⟨all_oneCell_toArray (bv_one _)⟩
      clear hk HJ
      generalize hD : (bv (cutL d x)).toArray = D at hrw HZ HO
      have HD : Bx (Ending.returned (.agg D) = .returned (.agg (bv (cutL d x)).toArray)) := ⟨by rw [hD]⟩
      clear hD
      have HI : Bx ((Tryd.prog.info? 30).map (·.size) = some D.size) := ⟨by rw [HZ.out]; exact dig_info⟩
      have HST : Bx ((wr.setCells (N + 1) 0 D.toList).heap[N + 1]? = some (.cells D 30 (0, 0))) := ⟨heap_stored (vs := D) hr (by rw [hcs, HZ.out])⟩
      have HBS : Bx (Below w.heap.size w (wr.setCells (N + 1) 0 D.toList)) := ⟨below_setCells hbl (N + 1) hNs D.toList 0⟩
      have HTH : Bx (wr.there (N + 1) 0 D.size) := ⟨by rw [HZ.out]; exact ht⟩
      have HRW : Bx (wr.heap[N + 1 + 1]? = some (.cells D 30 (0, 0))) := ⟨hrw⟩
      clear hr ht hbl hNs hcs hrw hdr hlt hj
      rcases hg with hg | ⟨hg, hg2⟩
      all_goals
        go_wp2_with (refine wpList_load_row rfl 30 (.tmp 5) rfl (N + 1 + 1) rfl 30 D (0, 0) _ HRW.out Tryd.underlying30 rfl HI.out ?_; refine wpList_store_mid rfl 30 (.tmp 4) (.tmp 37) rfl (N + 1) 0 D rfl rfl HTH.out HI.out HO.out ?_)
        exact bodyPost_ret (v := .agg D) (results_cell_row rfl _ _ (N + 1) 30 D (0, 0) _ rfl HST.out Tryd.underlying30 rfl HI.out) rfl ⟨HD.out, HBS.out⟩
end Go.Proofs.YtbednfacipphhaaDoor
namespace Go.Proofs.YtbednfacipphhaaDoor
open Go.RowKit
set_option linter.unusedVariables false

set_option maxRecDepth 100000 in
set_option maxHeartbeats 1000000 in
theorem refleaf_any (a : Option Addr) (len cap : Nat) (b : List Int) (x : Int) (w : World) (hb : Bts w a len cap b) (hbd : len ≤ 1000000) :
    Calls Tryd.prog 63 #[.slice a len cap, .int .i64 x] w fun e w' => e = .returned (.agg (bv (leafL b x)).toArray) ∧ Below w.heap.size w w' := by
  have hb0 : Below w.heap.size w (w.alloc (.cells #[.int .u8 0, .int .u8 0, .int .u8 0, .int .u8 0, .int .u8 0, .int .u8 0, .int .u8 0, .int .u8 0, .int .u8 0, .int .u8 0, .int .u8 0, .int .u8 0, .int .u8 0, .int .u8 0, .int .u8 0, .int .u8 0, .int .u8 0, .int .u8 0, .int .u8 0, .int .u8 0, .int .u8 0, .int .u8 0, .int .u8 0, .int .u8 0, .int .u8 0, .int .u8 0, .int .u8 0, .int .u8 0, .int .u8 0, .int .u8 0, .int .u8 0, .int .u8 0] 30)) := (Below.refl _ _).alloc (Nat.le_refl _) _
  obtain ⟨cs, hcs, hres0⟩ : ∃ cs : Array Value, cs.size = 32 ∧ (w.alloc (.cells #[.int .u8 0, .int .u8 0, .int .u8 0, .int .u8 0, .int .u8 0, .int .u8 0, .int .u8 0, .int .u8 0, .int .u8 0, .int .u8 0, .int .u8 0, .int .u8 0, .int .u8 0, .int .u8 0, .int .u8 0, .int .u8 0, .int .u8 0, .int .u8 0, .int .u8 0, .int .u8 0, .int .u8 0, .int .u8 0, .int .u8 0, .int .u8 0, .int .u8 0, .int .u8 0, .int .u8 0, .int .u8 0, .int .u8 0, .int .u8 0, .int .u8 0, .int .u8 0] 30)).heap[w.heap.size]? = some (.cells cs 30 (0, 0)) := ⟨#[.int .u8 0, .int .u8 0, .int .u8 0, .int .u8 0, .int .u8 0, .int .u8 0, .int .u8 0, .int .u8 0, .int .u8 0, .int .u8 0, .int .u8 0, .int .u8 0, .int .u8 0, .int .u8 0, .int .u8 0, .int .u8 0, .int .u8 0, .int .u8 0, .int .u8 0, .int .u8 0, .int .u8 0, .int .u8 0, .int .u8 0, .int .u8 0, .int .u8 0, .int .u8 0, .int .u8 0, .int .u8 0, .int .u8 0, .int .u8 0, .int .u8 0, .int .u8 0], rfl, heap_alloc_new _ _⟩
  have hs0 : (w.alloc (.cells #[.int .u8 0, .int .u8 0, .int .u8 0, .int .u8 0, .int .u8 0, .int .u8 0, .int .u8 0, .int .u8 0, .int .u8 0, .int .u8 0, .int .u8 0, .int .u8 0, .int .u8 0, .int .u8 0, .int .u8 0, .int .u8 0, .int .u8 0, .int .u8 0, .int .u8 0, .int .u8 0, .int .u8 0, .int .u8 0, .int .u8 0, .int .u8 0, .int .u8 0, .int .u8 0, .int .u8 0, .int .u8 0, .int .u8 0, .int .u8 0, .int .u8 0, .int .u8 0] 30)).heap.size = w.heap.size + 1 := by simp
  have hown : ((w.alloc (.cells #[.int .u8 0, .int .u8 0, .int .u8 0, .int .u8 0, .int .u8 0, .int .u8 0, .int .u8 0, .int .u8 0, .int .u8 0, .int .u8 0, .int .u8 0, .int .u8 0, .int .u8 0, .int .u8 0, .int .u8 0, .int .u8 0, .int .u8 0, .int .u8 0, .int .u8 0, .int .u8 0, .int .u8 0, .int .u8 0, .int .u8 0, .int .u8 0, .int .u8 0, .int .u8 0, .int .u8 0, .int .u8 0, .int .u8 0, .int .u8 0, .int .u8 0, .int .u8 0] 30)).alloc (.cells #[.int .u8 0] 5)).ownsRow (w.heap.size + 1) 5 1 (.slice (some ⟨w.heap.size + 1, 0, none⟩) 1 1) 1 (bv [0]) := by
    have h := World.ownsRow_lit (base := w.heap.size + 1) (e := 5) (size := 1) (w.alloc (.cells #[.int .u8 0, .int .u8 0, .int .u8 0, .int .u8 0, .int .u8 0, .int .u8 0, .int .u8 0, .int .u8 0, .int .u8 0, .int .u8 0, .int .u8 0, .int .u8 0, .int .u8 0, .int .u8 0, .int .u8 0, .int .u8 0, .int .u8 0, .int .u8 0, .int .u8 0, .int .u8 0, .int .u8 0, .int .u8 0, .int .u8 0, .int .u8 0, .int .u8 0, .int .u8 0, .int .u8 0, .int .u8 0, .int .u8 0, .int .u8 0, .int .u8 0, .int .u8 0] 30)) #[.int .u8 0] 1 (by rw [hs0]; exact Nat.le_refl _) (by unfold maxLen; omega) rfl
    rw [hs0] at h; exact h
  have hb1 : Below (w.heap.size + 1) (w.alloc (.cells #[.int .u8 0, .int .u8 0, .int .u8 0, .int .u8 0, .int .u8 0, .int .u8 0, .int .u8 0, .int .u8 0, .int .u8 0, .int .u8 0, .int .u8 0, .int .u8 0, .int .u8 0, .int .u8 0, .int .u8 0, .int .u8 0, .int .u8 0, .int .u8 0, .int .u8 0, .int .u8 0, .int .u8 0, .int .u8 0, .int .u8 0, .int .u8 0, .int .u8 0, .int .u8 0, .int .u8 0, .int .u8 0, .int .u8 0, .int .u8 0, .int .u8 0, .int .u8 0] 30)) ((w.alloc (.cells #[.int .u8 0, .int .u8 0, .int .u8 0, .int .u8 0, .int .u8 0, .int .u8 0, .int .u8 0, .int .u8 0, .int .u8 0, .int .u8 0, .int .u8 0, .int .u8 0, .int .u8 0, .int .u8 0, .int .u8 0, .int .u8 0, .int .u8 0, .int .u8 0, .int .u8 0, .int .u8 0, .int .u8 0, .int .u8 0, .int .u8 0, .int .u8 0, .int .u8 0, .int .u8 0, .int .u8 0, .int .u8 0, .int .u8 0, .int .u8 0, .int .u8 0, .int .u8 0] 30)).alloc (.cells #[.int .u8 0] 5)) := (Below.refl _ _).alloc (by rw [hs0]; exact Nat.le_refl _) _
  have hB := hb.below (hb0.trans (hb1.mono (by omega)))
  have hs1 : w.heap.size + 1 ≤ ((w.alloc (.cells #[.int .u8 0, .int .u8 0, .int .u8 0, .int .u8 0, .int .u8 0, .int .u8 0, .int .u8 0, .int .u8 0, .int .u8 0, .int .u8 0, .int .u8 0, .int .u8 0, .int .u8 0, .int .u8 0, .int .u8 0, .int .u8 0, .int .u8 0, .int .u8 0, .int .u8 0, .int .u8 0, .int .u8 0, .int .u8 0, .int .u8 0, .int .u8 0, .int .u8 0, .int .u8 0, .int .u8 0, .int .u8 0, .int .u8 0, .int .u8 0, .int .u8 0, .int .u8 0] 30)).alloc (.cells #[.int .u8 0] 5)).heap.size := by simp
  have HA : Bx _ := ⟨hown⟩
  have HB : Bx _ := ⟨hB⟩
  have HL0 : Bx _ := ⟨hb0⟩
  have HL1 : Bx _ := ⟨hb1⟩
  have HS1 : Bx _ := ⟨hs1⟩
  have HR0 : Bx _ := ⟨hres0⟩
  clear hown hB hb0 hb1 hs1 hs0 hres0
  go_enter Tryd.func63, Tryd.ntmps63
  go_wp2_with (at_builtin; refine wpList_append_bts rfl (.tmp 5) (.tmp 6) rfl (w.heap.size + 1) 1 _ [0] rfl HA.out a len cap b rfl HB.out (by omega) HS1.out ?_; intro v2 w2 hown2 hb2 _; have hb02 := HL1.out.trans hb2; have hlow2 := HL0.out.trans (hb02.mono (by omega)); have hres2 := (hb02.block w.heap.size (by omega)).trans HR0.out; clear hb02 hb2 HA HB HL0 HL1 HS1 HR0; obtain ⟨a3, c3, rfl, hB3⟩ := Bts.of_owns hown2 (Byt.append (Byt.cons (by decide) Byt.nil) hb.byt); clear hown2)
  refine (refsum_any a3 (1 + len) c3 ([0] ++ b) _ hB3 (by omega)).mono ?_
  rintro e w4 ⟨rfl, hb4⟩
  have hlow4 := bstep hlow2 hb4
  have hres4 := (hb4.block w.heap.size (Array.getElem?_eq_some_iff.1 hres2).1).trans hres2
  have HE : Bx (leafL b x = cutL (sumL ([0] ++ b)) x) := ⟨rfl⟩
  have hdg : Dg (sumL ([0] ++ b)) := ⟨sumL_length _, sum_byt _⟩
  generalize sumL ([0] ++ b) = d at HE hdg ⊢
  clear hlow2 hB3 hres2 hb4
  go_wp2_with fail
  refine (refmcut_any d x _ hdg).mono ?_
  rintro e w5 ⟨rfl, hb5⟩
  have hlow5 := bstep hlow4 hb5
  have hres5 := (hb5.block w.heap.size (Array.getElem?_eq_some_iff.1 hres4).1).trans hres4
  have hZ := cutL_dg hdg.2 x
  clear hlow4 hres4 hb5
  have hth := there_row hres5
  rw [hcs] at hth
  have HZ2 : Bx ((bv (cutL d x)).toArray.size = 32) := ⟨by rw [List.size_toArray, bv_length, hZ.1]⟩
  have HO2 : Bx ((bv (cutL d x)).toArray.all (·.oneCell') = true) := ⟨all_oneCell_toArray (bv_one _)⟩
  generalize hD : (bv (cutL d x)).toArray = D at HZ2 HO2 ⊢
  have HD : Bx (Ending.returned (.agg D) = .returned (.agg (bv (leafL b x)).toArray)) := ⟨by rw [HE.out, hD]⟩
  clear hD
  have HI2 : Bx ((Tryd.prog.info? 30).map (·.size) = some D.size) := ⟨by rw [HZ2.out]; exact dig_info⟩
  have HST : Bx ((w5.setCells w.heap.size 0 D.toList).heap[w.heap.size]? = some (.cells D 30 (0, 0))) := ⟨heap_stored (vs := D) hres5 (by rw [hcs, HZ2.out])⟩
  have HBS : Bx (Below w.heap.size w (w5.setCells w.heap.size 0 D.toList)) := ⟨below_setCells hlow5 w.heap.size (Nat.le_refl _) D.toList 0⟩
  have HTH : Bx (w5.there w.heap.size 0 D.size) := ⟨by rw [HZ2.out]; exact hth⟩
  clear hres5 hth hlow5 hcs
  go_wp2_with (refine wpList_store_mid rfl 30 (.tmp 4) (.tmp 10) rfl w.heap.size 0 D rfl rfl HTH.out HI2.out HO2.out ?_)
  exact bodyPost_ret (v := .agg D) (results_cell_row rfl _ _ w.heap.size 30 D (0, 0) _ rfl HST.out Tryd.underlying30 rfl HI2.out) rfl ⟨HD.out, HBS.out⟩
/-- what stays while the document's Node goes on -/
structure RN (N : Nat) (y z : List Int) (w wr : World) : Prop where
  low : Below N w wr
  fst : wr.heap[N]? = some (.cells (bv y).toArray 30 (0, 0))
  snd : wr.heap[N + 1]? = some (.cells (bv z).toArray 30 (0, 0))
  res : ∃ cs : Array Value, cs.size = 32 ∧ wr.heap[N + 1 + 1]? = some (.cells cs 30 (0, 0))
set_option maxRecDepth 100000 in
theorem RN.lt {N : Nat} {y z : List Int} {w wr : World} (h : RN N y z w wr) : N + 1 + 1 < wr.heap.size := by
  obtain ⟨cs, _, e⟩ := h.res; exact (Array.getElem?_eq_some_iff.1 e).1
set_option maxRecDepth 100000 in
theorem RN.step {N B : Nat} {y z : List Int} {w wr w1 : World} (h : RN N y z w wr) (hb : Below B wr w1) (hB : N + 1 + 1 + 1 ≤ B) : RN N y z w w1 := by
  have hl := h.lt
  obtain ⟨cs, e1, e2⟩ := h.res
  exact ⟨h.low.trans (hb.mono (by omega)), (hb.block _ (by omega)).trans h.fst, (hb.block _ (by omega)).trans h.snd, ⟨cs, e1, (hb.block _ (by omega)).trans e2⟩⟩

set_option maxRecDepth 100000 in
set_option maxHeartbeats 1000000 in
theorem refnode_any (y z : List Int) (x : Int) (w : World) (hy : Dg y) (hz : Dg z) :
    Calls Tryd.prog 90 #[.agg (bv y).toArray, .agg (bv z).toArray, .int .i64 x] w fun e w' => e = .returned (.agg (bv (nodeL y z x)).toArray) ∧ Below w.heap.size w w' := by
  have hrn : RN w.heap.size y z w (((w.alloc (.cells (bv y).toArray 30)).alloc (.cells (bv z).toArray 30)).alloc (.cells #[.int .u8 0, .int .u8 0, .int .u8 0, .int .u8 0, .int .u8 0, .int .u8 0, .int .u8 0, .int .u8 0, .int .u8 0, .int .u8 0, .int .u8 0, .int .u8 0, .int .u8 0, .int .u8 0, .int .u8 0, .int .u8 0, .int .u8 0, .int .u8 0, .int .u8 0, .int .u8 0, .int .u8 0, .int .u8 0, .int .u8 0, .int .u8 0, .int .u8 0, .int .u8 0, .int .u8 0, .int .u8 0, .int .u8 0, .int .u8 0, .int .u8 0, .int .u8 0] 30)) := by
    have hb1 : Below w.heap.size w (((w.alloc (.cells (bv y).toArray 30)).alloc (.cells (bv z).toArray 30)).alloc (.cells #[.int .u8 0, .int .u8 0, .int .u8 0, .int .u8 0, .int .u8 0, .int .u8 0, .int .u8 0, .int .u8 0, .int .u8 0, .int .u8 0, .int .u8 0, .int .u8 0, .int .u8 0, .int .u8 0, .int .u8 0, .int .u8 0, .int .u8 0, .int .u8 0, .int .u8 0, .int .u8 0, .int .u8 0, .int .u8 0, .int .u8 0, .int .u8 0, .int .u8 0, .int .u8 0, .int .u8 0, .int .u8 0, .int .u8 0, .int .u8 0, .int .u8 0, .int .u8 0] 30)) := (((Below.refl _ _).alloc (Nat.le_refl _) _).alloc (by simp) _).alloc (by simp; omega) _
    refine ⟨hb1, ?_, ?_, ⟨#[.int .u8 0, .int .u8 0, .int .u8 0, .int .u8 0, .int .u8 0, .int .u8 0, .int .u8 0, .int .u8 0, .int .u8 0, .int .u8 0, .int .u8 0, .int .u8 0, .int .u8 0, .int .u8 0, .int .u8 0, .int .u8 0, .int .u8 0, .int .u8 0, .int .u8 0, .int .u8 0, .int .u8 0, .int .u8 0, .int .u8 0, .int .u8 0, .int .u8 0, .int .u8 0, .int .u8 0, .int .u8 0, .int .u8 0, .int .u8 0, .int .u8 0, .int .u8 0], rfl, ?_⟩⟩
    · rw [heap_alloc_old _ _ (by simp; omega), heap_alloc_old _ _ (by simp), heap_alloc_new]
    · rw [heap_alloc_old _ _ (by simp), show w.heap.size + 1 = (w.alloc (.cells (bv y).toArray 30)).heap.size from by simp, heap_alloc_new]
    · rw [show w.heap.size + 1 + 1 = ((w.alloc (.cells (bv y).toArray 30)).alloc (.cells (bv z).toArray 30)).heap.size from by simp, heap_alloc_new]
  have hs0 : (((w.alloc (.cells (bv y).toArray 30)).alloc (.cells (bv z).toArray 30)).alloc (.cells #[.int .u8 0, .int .u8 0, .int .u8 0, .int .u8 0, .int .u8 0, .int .u8 0, .int .u8 0, .int .u8 0, .int .u8 0, .int .u8 0, .int .u8 0, .int .u8 0, .int .u8 0, .int .u8 0, .int .u8 0, .int .u8 0, .int .u8 0, .int .u8 0, .int .u8 0, .int .u8 0, .int .u8 0, .int .u8 0, .int .u8 0, .int .u8 0, .int .u8 0, .int .u8 0, .int .u8 0, .int .u8 0, .int .u8 0, .int .u8 0, .int .u8 0, .int .u8 0] 30)).heap.size = w.heap.size + 1 + 1 + 1 := by simp
  have hown : ((((w.alloc (.cells (bv y).toArray 30)).alloc (.cells (bv z).toArray 30)).alloc (.cells #[.int .u8 0, .int .u8 0, .int .u8 0, .int .u8 0, .int .u8 0, .int .u8 0, .int .u8 0, .int .u8 0, .int .u8 0, .int .u8 0, .int .u8 0, .int .u8 0, .int .u8 0, .int .u8 0, .int .u8 0, .int .u8 0, .int .u8 0, .int .u8 0, .int .u8 0, .int .u8 0, .int .u8 0, .int .u8 0, .int .u8 0, .int .u8 0, .int .u8 0, .int .u8 0, .int .u8 0, .int .u8 0, .int .u8 0, .int .u8 0, .int .u8 0, .int .u8 0] 30)).alloc (.cells #[.int .u8 1] 5)).ownsRow (w.heap.size + 1 + 1 + 1) 5 1 (.slice (some ⟨w.heap.size + 1 + 1 + 1, 0, none⟩) 1 1) 1 (bv [1]) := by
    have h := World.ownsRow_lit (base := w.heap.size + 1 + 1 + 1) (e := 5) (size := 1) (((w.alloc (.cells (bv y).toArray 30)).alloc (.cells (bv z).toArray 30)).alloc (.cells #[.int .u8 0, .int .u8 0, .int .u8 0, .int .u8 0, .int .u8 0, .int .u8 0, .int .u8 0, .int .u8 0, .int .u8 0, .int .u8 0, .int .u8 0, .int .u8 0, .int .u8 0, .int .u8 0, .int .u8 0, .int .u8 0, .int .u8 0, .int .u8 0, .int .u8 0, .int .u8 0, .int .u8 0, .int .u8 0, .int .u8 0, .int .u8 0, .int .u8 0, .int .u8 0, .int .u8 0, .int .u8 0, .int .u8 0, .int .u8 0, .int .u8 0, .int .u8 0] 30)) #[.int .u8 1] 1 (by rw [hs0]; exact Nat.le_refl _) (by unfold maxLen; omega) rfl
    rw [hs0] at h; exact h
  have hr1 := hrn.step ((Below.refl _ _).alloc (Nat.le_refl _) (.cells #[.int .u8 1] 5)) (by rw [hs0]; exact Nat.le_refl _)
  have hB := bts_cells hr1.fst hy.2 hy.1 (by unfold maxLen; omega)
  have hs1 : w.heap.size + 1 + 1 + 1 ≤ ((((w.alloc (.cells (bv y).toArray 30)).alloc (.cells (bv z).toArray 30)).alloc (.cells #[.int .u8 0, .int .u8 0, .int .u8 0, .int .u8 0, .int .u8 0, .int .u8 0, .int .u8 0, .int .u8 0, .int .u8 0, .int .u8 0, .int .u8 0, .int .u8 0, .int .u8 0, .int .u8 0, .int .u8 0, .int .u8 0, .int .u8 0, .int .u8 0, .int .u8 0, .int .u8 0, .int .u8 0, .int .u8 0, .int .u8 0, .int .u8 0, .int .u8 0, .int .u8 0, .int .u8 0, .int .u8 0, .int .u8 0, .int .u8 0, .int .u8 0, .int .u8 0] 30)).alloc (.cells #[.int .u8 1] 5)).heap.size := by simp
  have HA : Bx _ := ⟨hown⟩
  have HB : Bx _ := ⟨hB⟩
  have HR1 : Bx _ := ⟨hr1⟩
  have HS1 : Bx _ := ⟨hs1⟩
  have hda0 := dig_all w.heap.size
  have hda1 := dig_all (w.heap.size + 1)
  clear hown hB hr1 hs1 hs0 hrn
  go_enter Tryd.func90, Tryd.ntmps90
  go_wp2_with (first
    | (at_builtin; refine wpList_append_bts rfl (.tmp 8) (.tmp 9) rfl (w.heap.size + 1 + 1 + 1) 1 _ [1] rfl HA.out _ 32 32 y rfl HB.out (by decide) HS1.out ?_; intro v2 w2 hown2 hb2 _; have hr2 := HR1.out.step hb2 (Nat.le_refl _); have hs2 := Nat.le_trans HS1.out hb2.size; have hB2 := bts_cells hr2.snd hz.2 hz.1 (by unfold maxLen; omega); clear hb2 HA HB HS1 HR1)
    | (at_builtin; refine wpList_append_bts rfl (.tmp 11) (.tmp 12) rfl (w.heap.size + 1 + 1 + 1) (1 + 32) _ ([1] ++ y) rfl hown2 _ 32 32 z rfl hB2 (by decide) hs2 ?_; intro v3 w3 hown3 hb3 _; have hr3 := hr2.step hb3 (Nat.le_refl _); clear hb3 hown2 hB2 hs2 hr2; obtain ⟨a3, c3, rfl, hB3⟩ := Bts.of_owns hown3 (Byt.append (Byt.append (Byt.cons (by decide) Byt.nil) hy.2) hz.2); clear hown3))
  refine (refsum_any a3 (1 + 32 + 32) c3 ([1] ++ y ++ z) _ hB3 (by decide)).mono ?_
  rintro e w4 ⟨rfl, hb4⟩
  have hr4 := hr3.step hb4 hr3.lt
  have HE : Bx (nodeL y z x = cutL (sumL ([1] ++ y ++ z)) x) := ⟨by rw [List.append_assoc]; rfl⟩
  have hdg : Dg (sumL ([1] ++ y ++ z)) := ⟨sumL_length _, sum_byt _⟩
  generalize sumL ([1] ++ y ++ z) = d at HE hdg ⊢
  clear hB3 hr3 hb4 hda0 hda1
  go_wp2_with fail
  refine (refmcut_any d x _ hdg).mono ?_
  rintro e w5 ⟨rfl, hb5⟩
  have hr5 := hr4.step hb5 hr4.lt
  have hlow5 := hr5.low
  obtain ⟨cs, hcs, hres5⟩ := hr5.res
  have hZ := cutL_dg hdg.2 x
  clear hr4 hr5 hb5
  have hth := there_row hres5
  rw [hcs] at hth
  have HZ2 : Bx ((bv (cutL d x)).toArray.size = 32) := ⟨by rw [List.size_toArray, bv_length, hZ.1]⟩
  have HO2 : Bx ((bv (cutL d x)).toArray.all (·.oneCell') = true) := ⟨all_oneCell_toArray (bv_one _)⟩
  generalize hD : (bv (cutL d x)).toArray = D at HZ2 HO2 ⊢
  have HD : Bx (Ending.returned (.agg D) = .returned (.agg (bv (nodeL y z x)).toArray)) := ⟨by rw [HE.out, hD]⟩
  clear hD
  have HI2 : Bx ((Tryd.prog.info? 30).map (·.size) = some D.size) := ⟨by rw [HZ2.out]; exact dig_info⟩
  have HST : Bx ((w5.setCells (w.heap.size + 1 + 1) 0 D.toList).heap[w.heap.size + 1 + 1]? = some (.cells D 30 (0, 0))) := ⟨heap_stored (vs := D) hres5 (by rw [hcs, HZ2.out])⟩
  have HBS : Bx (Below w.heap.size w (w5.setCells (w.heap.size + 1 + 1) 0 D.toList)) := ⟨below_setCells hlow5 (w.heap.size + 1 + 1) (by omega) D.toList 0⟩
  have HTH : Bx (w5.there (w.heap.size + 1 + 1) 0 D.size) := ⟨by rw [HZ2.out]; exact hth⟩
  clear hres5 hth hlow5 hcs
  go_wp2_with (refine wpList_store_mid rfl 30 (.tmp 6) (.tmp 16) rfl (w.heap.size + 1 + 1) 0 D rfl rfl HTH.out HI2.out HO2.out ?_)
  exact bodyPost_ret (v := .agg D) (results_cell_row rfl _ _ (w.heap.size + 1 + 1) 30 D (0, 0) _ rfl HST.out Tryd.underlying30 rfl HI2.out) rfl ⟨HD.out, HBS.out⟩
end Go.Proofs.YtbednfacipphhaaDoor
