/- What merkle's CheckGrowth answers. -/
import Derived.Test.YtbednfacipphhaaDoorReckonG
namespace Go.Proofs.YtbednfacipphhaaDoor
open Go.RowKit
set_option linter.unusedVariables false

set_option maxRecDepth 100000 in
/-- two digests that are put into two new variables -/
theorem two_vars (w : World) (f g : List Int) (hf : f.length = 32) (hg : g.length = 32) (DF DG : Array Value) (hDF : DF = (bv f).toArray) (hDG : DG = (bv g).toArray) :
    Bx (((w.alloc (.cells #[.int .u8 0, .int .u8 0, .int .u8 0, .int .u8 0, .int .u8 0, .int .u8 0, .int .u8 0, .int .u8 0, .int .u8 0, .int .u8 0, .int .u8 0, .int .u8 0, .int .u8 0, .int .u8 0, .int .u8 0, .int .u8 0, .int .u8 0, .int .u8 0, .int .u8 0, .int .u8 0, .int .u8 0, .int .u8 0, .int .u8 0, .int .u8 0, .int .u8 0, .int .u8 0, .int .u8 0, .int .u8 0, .int .u8 0, .int .u8 0, .int .u8 0, .int .u8 0] 30)).alloc (.cells #[.int .u8 0, .int .u8 0, .int .u8 0, .int .u8 0, .int .u8 0, .int .u8 0, .int .u8 0, .int .u8 0, .int .u8 0, .int .u8 0, .int .u8 0, .int .u8 0, .int .u8 0, .int .u8 0, .int .u8 0, .int .u8 0, .int .u8 0, .int .u8 0, .int .u8 0, .int .u8 0, .int .u8 0, .int .u8 0, .int .u8 0, .int .u8 0, .int .u8 0, .int .u8 0, .int .u8 0, .int .u8 0, .int .u8 0, .int .u8 0, .int .u8 0, .int .u8 0] 30)).there w.heap.size 0 DF.size) ∧ Bx ((((w.alloc (.cells #[.int .u8 0, .int .u8 0, .int .u8 0, .int .u8 0, .int .u8 0, .int .u8 0, .int .u8 0, .int .u8 0, .int .u8 0, .int .u8 0, .int .u8 0, .int .u8 0, .int .u8 0, .int .u8 0, .int .u8 0, .int .u8 0, .int .u8 0, .int .u8 0, .int .u8 0, .int .u8 0, .int .u8 0, .int .u8 0, .int .u8 0, .int .u8 0, .int .u8 0, .int .u8 0, .int .u8 0, .int .u8 0, .int .u8 0, .int .u8 0, .int .u8 0, .int .u8 0] 30)).alloc (.cells #[.int .u8 0, .int .u8 0, .int .u8 0, .int .u8 0, .int .u8 0, .int .u8 0, .int .u8 0, .int .u8 0, .int .u8 0, .int .u8 0, .int .u8 0, .int .u8 0, .int .u8 0, .int .u8 0, .int .u8 0, .int .u8 0, .int .u8 0, .int .u8 0, .int .u8 0, .int .u8 0, .int .u8 0, .int .u8 0, .int .u8 0, .int .u8 0, .int .u8 0, .int .u8 0, .int .u8 0, .int .u8 0, .int .u8 0, .int .u8 0, .int .u8 0, .int .u8 0] 30)).setCells w.heap.size 0 DF.toList).there (w.heap.size + 1) 0 DG.size) ∧
    Bx (Below w.heap.size w ((((w.alloc (.cells #[.int .u8 0, .int .u8 0, .int .u8 0, .int .u8 0, .int .u8 0, .int .u8 0, .int .u8 0, .int .u8 0, .int .u8 0, .int .u8 0, .int .u8 0, .int .u8 0, .int .u8 0, .int .u8 0, .int .u8 0, .int .u8 0, .int .u8 0, .int .u8 0, .int .u8 0, .int .u8 0, .int .u8 0, .int .u8 0, .int .u8 0, .int .u8 0, .int .u8 0, .int .u8 0, .int .u8 0, .int .u8 0, .int .u8 0, .int .u8 0, .int .u8 0, .int .u8 0] 30)).alloc (.cells #[.int .u8 0, .int .u8 0, .int .u8 0, .int .u8 0, .int .u8 0, .int .u8 0, .int .u8 0, .int .u8 0, .int .u8 0, .int .u8 0, .int .u8 0, .int .u8 0, .int .u8 0, .int .u8 0, .int .u8 0, .int .u8 0, .int .u8 0, .int .u8 0, .int .u8 0, .int .u8 0, .int .u8 0, .int .u8 0, .int .u8 0, .int .u8 0, .int .u8 0, .int .u8 0, .int .u8 0, .int .u8 0, .int .u8 0, .int .u8 0, .int .u8 0, .int .u8 0] 30)).setCells w.heap.size 0 DF.toList).setCells (w.heap.size + 1) 0 DG.toList)) ∧
    Bx (((((w.alloc (.cells #[.int .u8 0, .int .u8 0, .int .u8 0, .int .u8 0, .int .u8 0, .int .u8 0, .int .u8 0, .int .u8 0, .int .u8 0, .int .u8 0, .int .u8 0, .int .u8 0, .int .u8 0, .int .u8 0, .int .u8 0, .int .u8 0, .int .u8 0, .int .u8 0, .int .u8 0, .int .u8 0, .int .u8 0, .int .u8 0, .int .u8 0, .int .u8 0, .int .u8 0, .int .u8 0, .int .u8 0, .int .u8 0, .int .u8 0, .int .u8 0, .int .u8 0, .int .u8 0] 30)).alloc (.cells #[.int .u8 0, .int .u8 0, .int .u8 0, .int .u8 0, .int .u8 0, .int .u8 0, .int .u8 0, .int .u8 0, .int .u8 0, .int .u8 0, .int .u8 0, .int .u8 0, .int .u8 0, .int .u8 0, .int .u8 0, .int .u8 0, .int .u8 0, .int .u8 0, .int .u8 0, .int .u8 0, .int .u8 0, .int .u8 0, .int .u8 0, .int .u8 0, .int .u8 0, .int .u8 0, .int .u8 0, .int .u8 0, .int .u8 0, .int .u8 0, .int .u8 0, .int .u8 0] 30)).setCells w.heap.size 0 DF.toList).setCells (w.heap.size + 1) 0 DG.toList).heap[w.heap.size]? = some (.cells DF 30 (0, 0))) ∧
    Bx (((((w.alloc (.cells #[.int .u8 0, .int .u8 0, .int .u8 0, .int .u8 0, .int .u8 0, .int .u8 0, .int .u8 0, .int .u8 0, .int .u8 0, .int .u8 0, .int .u8 0, .int .u8 0, .int .u8 0, .int .u8 0, .int .u8 0, .int .u8 0, .int .u8 0, .int .u8 0, .int .u8 0, .int .u8 0, .int .u8 0, .int .u8 0, .int .u8 0, .int .u8 0, .int .u8 0, .int .u8 0, .int .u8 0, .int .u8 0, .int .u8 0, .int .u8 0, .int .u8 0, .int .u8 0] 30)).alloc (.cells #[.int .u8 0, .int .u8 0, .int .u8 0, .int .u8 0, .int .u8 0, .int .u8 0, .int .u8 0, .int .u8 0, .int .u8 0, .int .u8 0, .int .u8 0, .int .u8 0, .int .u8 0, .int .u8 0, .int .u8 0, .int .u8 0, .int .u8 0, .int .u8 0, .int .u8 0, .int .u8 0, .int .u8 0, .int .u8 0, .int .u8 0, .int .u8 0, .int .u8 0, .int .u8 0, .int .u8 0, .int .u8 0, .int .u8 0, .int .u8 0, .int .u8 0, .int .u8 0] 30)).setCells w.heap.size 0 DF.toList).setCells (w.heap.size + 1) 0 DG.toList).heap[w.heap.size + 1]? = some (.cells DG 30 (0, 0))) := by
  have sf : DF.size = 32 := by rw [hDF, List.size_toArray, bv_length, hf]
  have sg : DG.size = 32 := by rw [hDG, List.size_toArray, bv_length, hg]
  have r1 : ((w.alloc (.cells #[.int .u8 0, .int .u8 0, .int .u8 0, .int .u8 0, .int .u8 0, .int .u8 0, .int .u8 0, .int .u8 0, .int .u8 0, .int .u8 0, .int .u8 0, .int .u8 0, .int .u8 0, .int .u8 0, .int .u8 0, .int .u8 0, .int .u8 0, .int .u8 0, .int .u8 0, .int .u8 0, .int .u8 0, .int .u8 0, .int .u8 0, .int .u8 0, .int .u8 0, .int .u8 0, .int .u8 0, .int .u8 0, .int .u8 0, .int .u8 0, .int .u8 0, .int .u8 0] 30)).alloc (.cells #[.int .u8 0, .int .u8 0, .int .u8 0, .int .u8 0, .int .u8 0, .int .u8 0, .int .u8 0, .int .u8 0, .int .u8 0, .int .u8 0, .int .u8 0, .int .u8 0, .int .u8 0, .int .u8 0, .int .u8 0, .int .u8 0, .int .u8 0, .int .u8 0, .int .u8 0, .int .u8 0, .int .u8 0, .int .u8 0, .int .u8 0, .int .u8 0, .int .u8 0, .int .u8 0, .int .u8 0, .int .u8 0, .int .u8 0, .int .u8 0, .int .u8 0, .int .u8 0] 30)).heap[w.heap.size]? = some (.cells #[.int .u8 0, .int .u8 0, .int .u8 0, .int .u8 0, .int .u8 0, .int .u8 0, .int .u8 0, .int .u8 0, .int .u8 0, .int .u8 0, .int .u8 0, .int .u8 0, .int .u8 0, .int .u8 0, .int .u8 0, .int .u8 0, .int .u8 0, .int .u8 0, .int .u8 0, .int .u8 0, .int .u8 0, .int .u8 0, .int .u8 0, .int .u8 0, .int .u8 0, .int .u8 0, .int .u8 0, .int .u8 0, .int .u8 0, .int .u8 0, .int .u8 0, .int .u8 0] 30 (0, 0)) := by rw [heap_alloc_old _ _ (by simp), heap_alloc_new]
  have r2 : ((w.alloc (.cells #[.int .u8 0, .int .u8 0, .int .u8 0, .int .u8 0, .int .u8 0, .int .u8 0, .int .u8 0, .int .u8 0, .int .u8 0, .int .u8 0, .int .u8 0, .int .u8 0, .int .u8 0, .int .u8 0, .int .u8 0, .int .u8 0, .int .u8 0, .int .u8 0, .int .u8 0, .int .u8 0, .int .u8 0, .int .u8 0, .int .u8 0, .int .u8 0, .int .u8 0, .int .u8 0, .int .u8 0, .int .u8 0, .int .u8 0, .int .u8 0, .int .u8 0, .int .u8 0] 30)).alloc (.cells #[.int .u8 0, .int .u8 0, .int .u8 0, .int .u8 0, .int .u8 0, .int .u8 0, .int .u8 0, .int .u8 0, .int .u8 0, .int .u8 0, .int .u8 0, .int .u8 0, .int .u8 0, .int .u8 0, .int .u8 0, .int .u8 0, .int .u8 0, .int .u8 0, .int .u8 0, .int .u8 0, .int .u8 0, .int .u8 0, .int .u8 0, .int .u8 0, .int .u8 0, .int .u8 0, .int .u8 0, .int .u8 0, .int .u8 0, .int .u8 0, .int .u8 0, .int .u8 0] 30)).heap[w.heap.size + 1]? = some (.cells #[.int .u8 0, .int .u8 0, .int .u8 0, .int .u8 0, .int .u8 0, .int .u8 0, .int .u8 0, .int .u8 0, .int .u8 0, .int .u8 0, .int .u8 0, .int .u8 0, .int .u8 0, .int .u8 0, .int .u8 0, .int .u8 0, .int .u8 0, .int .u8 0, .int .u8 0, .int .u8 0, .int .u8 0, .int .u8 0, .int .u8 0, .int .u8 0, .int .u8 0, .int .u8 0, .int .u8 0, .int .u8 0, .int .u8 0, .int .u8 0, .int .u8 0, .int .u8 0] 30 (0, 0)) := by rw [show w.heap.size + 1 = (w.alloc (.cells #[.int .u8 0, .int .u8 0, .int .u8 0, .int .u8 0, .int .u8 0, .int .u8 0, .int .u8 0, .int .u8 0, .int .u8 0, .int .u8 0, .int .u8 0, .int .u8 0, .int .u8 0, .int .u8 0, .int .u8 0, .int .u8 0, .int .u8 0, .int .u8 0, .int .u8 0, .int .u8 0, .int .u8 0, .int .u8 0, .int .u8 0, .int .u8 0, .int .u8 0, .int .u8 0, .int .u8 0, .int .u8 0, .int .u8 0, .int .u8 0, .int .u8 0, .int .u8 0] 30)).heap.size from by simp, heap_alloc_new]
  have hb0 : Below w.heap.size w ((w.alloc (.cells #[.int .u8 0, .int .u8 0, .int .u8 0, .int .u8 0, .int .u8 0, .int .u8 0, .int .u8 0, .int .u8 0, .int .u8 0, .int .u8 0, .int .u8 0, .int .u8 0, .int .u8 0, .int .u8 0, .int .u8 0, .int .u8 0, .int .u8 0, .int .u8 0, .int .u8 0, .int .u8 0, .int .u8 0, .int .u8 0, .int .u8 0, .int .u8 0, .int .u8 0, .int .u8 0, .int .u8 0, .int .u8 0, .int .u8 0, .int .u8 0, .int .u8 0, .int .u8 0] 30)).alloc (.cells #[.int .u8 0, .int .u8 0, .int .u8 0, .int .u8 0, .int .u8 0, .int .u8 0, .int .u8 0, .int .u8 0, .int .u8 0, .int .u8 0, .int .u8 0, .int .u8 0, .int .u8 0, .int .u8 0, .int .u8 0, .int .u8 0, .int .u8 0, .int .u8 0, .int .u8 0, .int .u8 0, .int .u8 0, .int .u8 0, .int .u8 0, .int .u8 0, .int .u8 0, .int .u8 0, .int .u8 0, .int .u8 0, .int .u8 0, .int .u8 0, .int .u8 0, .int .u8 0] 30)) := ((Below.refl _ _).alloc (Nat.le_refl _) _).alloc (by simp) _
  generalize (w.alloc (.cells #[.int .u8 0, .int .u8 0, .int .u8 0, .int .u8 0, .int .u8 0, .int .u8 0, .int .u8 0, .int .u8 0, .int .u8 0, .int .u8 0, .int .u8 0, .int .u8 0, .int .u8 0, .int .u8 0, .int .u8 0, .int .u8 0, .int .u8 0, .int .u8 0, .int .u8 0, .int .u8 0, .int .u8 0, .int .u8 0, .int .u8 0, .int .u8 0, .int .u8 0, .int .u8 0, .int .u8 0, .int .u8 0, .int .u8 0, .int .u8 0, .int .u8 0, .int .u8 0] 30)).alloc (.cells #[.int .u8 0, .int .u8 0, .int .u8 0, .int .u8 0, .int .u8 0, .int .u8 0, .int .u8 0, .int .u8 0, .int .u8 0, .int .u8 0, .int .u8 0, .int .u8 0, .int .u8 0, .int .u8 0, .int .u8 0, .int .u8 0, .int .u8 0, .int .u8 0, .int .u8 0, .int .u8 0, .int .u8 0, .int .u8 0, .int .u8 0, .int .u8 0, .int .u8 0, .int .u8 0, .int .u8 0, .int .u8 0, .int .u8 0, .int .u8 0, .int .u8 0, .int .u8 0] 30) = w0 at r1 r2 hb0 ⊢
  have b1 : But w.heap.size w0 (w0.setCells w.heap.size 0 DF.toList) := (But.refl _ _).setCells _ 0
  have s1 := heap_stored (vs := DF) r1 (by rw [sf]; rfl)
  have k2 := (b1.block _ (Array.getElem?_eq_some_iff.1 r2).1 (by omega)).trans r2
  have b2 : But (w.heap.size + 1) (w0.setCells w.heap.size 0 DF.toList) ((w0.setCells w.heap.size 0 DF.toList).setCells (w.heap.size + 1) 0 DG.toList) := (But.refl _ _).setCells _ 0
  have t1 := there_row r1
  have t2 := there_row k2
  exact ⟨⟨by rw [sf]; exact t1⟩, ⟨by rw [sg]; exact t2⟩, ⟨below_setCells (below_setCells hb0 _ (Nat.le_refl _) _ 0) _ (by omega) _ 0⟩, ⟨(b2.block _ (Array.getElem?_eq_some_iff.1 s1).1 (by omega)).trans s1⟩, ⟨heap_stored (vs := DG) k2 (by rw [sg]; rfl)⟩⟩

set_option maxRecDepth 100000 in
set_option maxHeartbeats 2000000 in
theorem checkgrowth_any (old : List Int) (m : Int) (root : List Int) (n : Int) (a : Option Addr) (len cap : Nat) (P : List (List Int)) (x : Int) (w : World) (hold : Dg old) (hr : Dg root) (hn : n ≤ 9223372036854775807) (hP : Dgs w a len cap P) (htab : Tab w) :
    Calls Tryd.prog 34 #[.agg (bv old).toArray, .int .i64 m, .agg (bv root).toArray, .int .i64 n, .slice a len cap, .int .i64 x] w fun e w' => e = .returned (.bool (chkG old m root n P x)) ∧ Below w.heap.size w w' := by
  have hb0 : Below w.heap.size w ((w.alloc (.cells (bv old).toArray 30)).alloc (.cells (bv root).toArray 30)) := ((Below.refl _ _).alloc (Nat.le_refl _) _).alloc (by simp) _
  have hod0 : ((w.alloc (.cells (bv old).toArray 30)).alloc (.cells (bv root).toArray 30)).heap[w.heap.size]? = some (.cells (bv old).toArray 30 (0, 0)) := by rw [heap_alloc_old _ _ (by simp), heap_alloc_new]
  have hrt0 : ((w.alloc (.cells (bv old).toArray 30)).alloc (.cells (bv root).toArray 30)).heap[w.heap.size + 1]? = some (.cells (bv root).toArray 30 (0, 0)) := by rw [show w.heap.size + 1 = (w.alloc (.cells (bv old).toArray 30)).heap.size from by simp, heap_alloc_new]
  by_cases hin : 1 ≤ m ∧ m ≤ n
  · obtain ⟨j, rfl⟩ : ∃ j : Nat, m = (j : Int) := ⟨m.toNat, by omega⟩
    obtain ⟨q, rfl⟩ : ∃ q : Nat, n = (q : Int) := ⟨n.toNat, by omega⟩
    have h1 : decide ((j : Int) < 1) = false := by simp; omega
    have h1' : ¬ (j : Int) < 1 := by omega
    have h2 : decide (q < j) = false := by simp; omega
    have h2' : decide ((q : Int) < (j : Int)) = false := by simp; omega
    have HCH : Bx (chkG old (j : Int) root (q : Int) P x = (decide (P.length = need true (gstepsL q j)) && (decide ((gres x true (gstepsL q j) P old).1 = old) && decide ((gres x true (gstepsL q j) P old).2 = root)))) := ⟨by
      unfold chkG
      rw [show ((q : Int)).toNat = q from by omega, show ((j : Int)).toNat = j from by omega, decide_eq_true hin, Bool.true_and]⟩
    have HRK : Bx (∀ W, Below w.heap.size w W → Calls Tryd.prog 61 #[.agg (bv old).toArray, .int .i64 j, .int .i64 q, .bool true, .slice a len cap, .int .i64 x] W fun e w' => ∃ f g, e = .returned (.tuple #[.agg (bv f).toArray, .agg (bv g).toArray, .bool (decide (P.length = need true (gstepsL q j)))]) ∧ Dg f ∧ Dg g ∧ (P.length = need true (gstepsL q j) → (f, g) = gres x true (gstepsL q j) P old) ∧ Below W.heap.size W w') :=
      ⟨fun W hW => reckong_any q j true old a len cap P x W (by omega) (by omega) (by omega) hold (hP.below hW) (htab.below hW)⟩
    obtain ⟨HIO, _, _⟩ := dgi hold.1
    obtain ⟨HIR, _, _⟩ := dgi hr.1
    have hs0 : ((w.alloc (.cells (bv old).toArray 30)).alloc (.cells (bv root).toArray 30)).heap.size = w.heap.size + 1 + 1 := by simp
    have HB0 : Bx _ := ⟨hb0⟩
    have HOD0 : Bx _ := ⟨hod0⟩
    have HRT0 : Bx _ := ⟨hrt0⟩
    have HSZ0 : Bx _ := ⟨hs0⟩
    clear hb0 hod0 hrt0 hs0 hP htab hin
    go_enter Tryd.func34, Tryd.ntmps34
    go_wp2_with (refine wpList_load_row rfl 30 (.tmp 6) rfl w.heap.size rfl 30 (bv old).toArray (0, 0) _ HOD0.out Tryd.underlying30 rfl HIO.out ?_)
    have hb0 := HB0.out
    have hod0 := HOD0.out
    have hrt0 := HRT0.out
    have hs0 := HSZ0.out
    clear HB0 HOD0 HRT0 HSZ0
    generalize (w.alloc (.cells (bv old).toArray 30)).alloc (.cells (bv root).toArray 30) = w0 at hb0 hod0 hrt0 hs0 ⊢
    refine (HRK.out _ hb0).mono ?_
    rintro e w1 ⟨f, g, rfl, hf, hg, hup, hb1⟩
    have hlow1 := bstep hb0 hb1
    have hod1 := (hb1.block w.heap.size (by omega)).trans hod0
    have hrt1 := (hb1.block (w.heap.size + 1) (by omega)).trans hrt0
    have hN2 : w.heap.size + 1 < w1.heap.size := by have := hb1.size; omega
    obtain ⟨ok, hok⟩ : ∃ ok, ok = decide (P.length = need true (gstepsL q j)) := ⟨_, rfl⟩
    have HUP : Bx (ok = true → (f, g) = gres x true (gstepsL q j) P old) := ⟨fun h => hup (of_decide_eq_true (hok ▸ h))⟩
    have HOK : Bx (ok = decide (P.length = need true (gstepsL q j))) := ⟨hok⟩
    rw [← hok]
    clear hup hok HRK hb0 hb1 hod0 hrt0 hs0
    have hcmp1 := dig_cmp f old hf.1 hold.1
    have hcmp2 := dig_cmp g root hg.1 hr.1
    obtain ⟨DF, hDF⟩ : ∃ DF, DF = (bv f).toArray := ⟨_, rfl⟩
    obtain ⟨DG, hDG⟩ : ∃ DG, DG = (bv g).toArray := ⟨_, rfl⟩
    obtain ⟨DO, hDO⟩ : ∃ DO, DO = (bv old).toArray := ⟨_, rfl⟩
    obtain ⟨DT, hDT⟩ : ∃ DT, DT = (bv root).toArray := ⟨_, rfl⟩
    obtain ⟨HT1, HT2, HBL, HRF, HRG⟩ := two_vars w1 f g hf.1 hg.1 DF DG hDF hDG
    obtain ⟨HIF, HOF, _⟩ := dgi hf.1
    obtain ⟨HIG, HOG, _⟩ := dgi hg.1
    rw [← hDF] at HIF HOF
    rw [← hDG] at HIG HOG
    rw [← hDF, ← hDO] at hcmp1
    rw [← hDG, ← hDT] at hcmp2
    rw [← hDO] at hod1 HIO
    rw [← hDT] at hrt1 HIR
    rw [← hDF, ← hDG, ← hDO, ← hDT]
    clear hDF hDG hDO hDT
    cases ok with
    | true =>
      have HC1 : Bx (decide (f = old) = false → false = chkG old (j : Int) root (q : Int) P x) := ⟨fun h => by
        rw [HCH.out, ← HOK.out, ← HUP.out rfl, Bool.true_and]
        show false = (decide (f = old) && decide (g = root))
        rw [h, Bool.false_and]⟩
      have HC2 : Bx (decide (f = old) = true → decide (g = root) = chkG old (j : Int) root (q : Int) P x) := ⟨fun h => by
        rw [HCH.out, ← HOK.out, ← HUP.out rfl, Bool.true_and]
        show decide (g = root) = (decide (f = old) && decide (g = root))
        rw [h, Bool.true_and]⟩
      generalize decide (f = old) = c1 at hcmp1 HC1 HC2
      generalize decide (g = root) = c2 at hcmp2 HC2
      clear HCH HOK HUP
      cases c1 with
      | true =>
        have HU := HC2.out rfl
        have HUB : Bx _ := ⟨HU⟩
        clear HU HC1 HC2
        go_wp2_with (first
          | (refine wpList_store_mid rfl 30 (.tmp 13) (.tmp 30) rfl w1.heap.size 0 DF rfl rfl ?ht HIF.out HOF.out ?_; (case ht => exact HT1.out))
          | (refine wpList_store_mid rfl 30 (.tmp 14) (.tmp 31) rfl (w1.heap.size + 1) 0 DG rfl rfl ?ht HIG.out HOG.out ?_; (case ht => exact HT2.out); have hbl := HBL.out; have HF2 : Bx _ := ⟨HRF.out⟩; have HG2 : Bx _ := ⟨HRG.out⟩; generalize (((w1.alloc (.cells #[.int .u8 0, .int .u8 0, .int .u8 0, .int .u8 0, .int .u8 0, .int .u8 0, .int .u8 0, .int .u8 0, .int .u8 0, .int .u8 0, .int .u8 0, .int .u8 0, .int .u8 0, .int .u8 0, .int .u8 0, .int .u8 0, .int .u8 0, .int .u8 0, .int .u8 0, .int .u8 0, .int .u8 0, .int .u8 0, .int .u8 0, .int .u8 0, .int .u8 0, .int .u8 0, .int .u8 0, .int .u8 0, .int .u8 0, .int .u8 0, .int .u8 0, .int .u8 0] 30)).alloc (.cells #[.int .u8 0, .int .u8 0, .int .u8 0, .int .u8 0, .int .u8 0, .int .u8 0, .int .u8 0, .int .u8 0, .int .u8 0, .int .u8 0, .int .u8 0, .int .u8 0, .int .u8 0, .int .u8 0, .int .u8 0, .int .u8 0, .int .u8 0, .int .u8 0, .int .u8 0, .int .u8 0, .int .u8 0, .int .u8 0, .int .u8 0, .int .u8 0, .int .u8 0, .int .u8 0, .int .u8 0, .int .u8 0, .int .u8 0, .int .u8 0, .int .u8 0, .int .u8 0] 30)).setCells w1.heap.size 0 DF.toList).setCells (w1.heap.size + 1) 0 DG.toList = w2 at hbl HF2 HG2 ⊢; clear HBL HRF HRG HT1 HT2; have HO2 : Bx _ := ⟨(hbl.block w.heap.size (by omega)).trans hod1⟩; have HR2 : Bx _ := ⟨(hbl.block (w.heap.size + 1) hN2).trans hrt1⟩)
          | (refine wpList_load_guarded (b := w1.heap.size) (D := DF) rfl (.tmp 13) rfl rfl HF2.out HIF.out ?_)
          | (refine wpList_load_guarded (b := w.heap.size) (D := DO) rfl (.tmp 6) rfl rfl HO2.out HIO.out ?_)
          | (refine wpList_load_guarded (b := w1.heap.size + 1) (D := DG) rfl (.tmp 14) rfl rfl HG2.out HIG.out ?_)
          | (refine wpList_load_guarded (b := w.heap.size + 1) (D := DT) rfl (.tmp 8) rfl rfl HR2.out HIR.out ?_))
        go_ret
        exact ⟨ret_bool HUB.out, bstep hlow1 hbl⟩
      | false =>
        have HUB : Bx _ := ⟨HC1.out rfl⟩
        clear HC1 HC2
        go_wp2_with (first
          | (refine wpList_store_mid rfl 30 (.tmp 13) (.tmp 30) rfl w1.heap.size 0 DF rfl rfl ?ht HIF.out HOF.out ?_; (case ht => exact HT1.out))
          | (refine wpList_store_mid rfl 30 (.tmp 14) (.tmp 31) rfl (w1.heap.size + 1) 0 DG rfl rfl ?ht HIG.out HOG.out ?_; (case ht => exact HT2.out); have hbl := HBL.out; have HF2 : Bx _ := ⟨HRF.out⟩; have HG2 : Bx _ := ⟨HRG.out⟩; generalize (((w1.alloc (.cells #[.int .u8 0, .int .u8 0, .int .u8 0, .int .u8 0, .int .u8 0, .int .u8 0, .int .u8 0, .int .u8 0, .int .u8 0, .int .u8 0, .int .u8 0, .int .u8 0, .int .u8 0, .int .u8 0, .int .u8 0, .int .u8 0, .int .u8 0, .int .u8 0, .int .u8 0, .int .u8 0, .int .u8 0, .int .u8 0, .int .u8 0, .int .u8 0, .int .u8 0, .int .u8 0, .int .u8 0, .int .u8 0, .int .u8 0, .int .u8 0, .int .u8 0, .int .u8 0] 30)).alloc (.cells #[.int .u8 0, .int .u8 0, .int .u8 0, .int .u8 0, .int .u8 0, .int .u8 0, .int .u8 0, .int .u8 0, .int .u8 0, .int .u8 0, .int .u8 0, .int .u8 0, .int .u8 0, .int .u8 0, .int .u8 0, .int .u8 0, .int .u8 0, .int .u8 0, .int .u8 0, .int .u8 0, .int .u8 0, .int .u8 0, .int .u8 0, .int .u8 0, .int .u8 0, .int .u8 0, .int .u8 0, .int .u8 0, .int .u8 0, .int .u8 0, .int .u8 0, .int .u8 0] 30)).setCells w1.heap.size 0 DF.toList).setCells (w1.heap.size + 1) 0 DG.toList = w2 at hbl HF2 HG2 ⊢; clear HBL HRF HRG HT1 HT2; have HO2 : Bx _ := ⟨(hbl.block w.heap.size (by omega)).trans hod1⟩)
          | (refine wpList_load_guarded (b := w1.heap.size) (D := DF) rfl (.tmp 13) rfl rfl HF2.out HIF.out ?_)
          | (refine wpList_load_guarded (b := w.heap.size) (D := DO) rfl (.tmp 6) rfl rfl HO2.out HIO.out ?_))
        go_ret
        exact ⟨ret_bool HUB.out, bstep hlow1 hbl⟩
    | false =>
      have HUB : Bx (false = chkG old (j : Int) root (q : Int) P x) := ⟨by rw [HCH.out, ← HOK.out, Bool.false_and]⟩
      clear HCH HOK HUP
      go_wp2_with (first
        | (refine wpList_store_mid rfl 30 (.tmp 13) (.tmp 30) rfl w1.heap.size 0 DF rfl rfl ?ht HIF.out HOF.out ?_; (case ht => exact HT1.out))
        | (refine wpList_store_mid rfl 30 (.tmp 14) (.tmp 31) rfl (w1.heap.size + 1) 0 DG rfl rfl ?ht HIG.out HOG.out ?_; (case ht => exact HT2.out); have hbl := HBL.out; generalize (((w1.alloc (.cells #[.int .u8 0, .int .u8 0, .int .u8 0, .int .u8 0, .int .u8 0, .int .u8 0, .int .u8 0, .int .u8 0, .int .u8 0, .int .u8 0, .int .u8 0, .int .u8 0, .int .u8 0, .int .u8 0, .int .u8 0, .int .u8 0, .int .u8 0, .int .u8 0, .int .u8 0, .int .u8 0, .int .u8 0, .int .u8 0, .int .u8 0, .int .u8 0, .int .u8 0, .int .u8 0, .int .u8 0, .int .u8 0, .int .u8 0, .int .u8 0, .int .u8 0, .int .u8 0] 30)).alloc (.cells #[.int .u8 0, .int .u8 0, .int .u8 0, .int .u8 0, .int .u8 0, .int .u8 0, .int .u8 0, .int .u8 0, .int .u8 0, .int .u8 0, .int .u8 0, .int .u8 0, .int .u8 0, .int .u8 0, .int .u8 0, .int .u8 0, .int .u8 0, .int .u8 0, .int .u8 0, .int .u8 0, .int .u8 0, .int .u8 0, .int .u8 0, .int .u8 0, .int .u8 0, .int .u8 0, .int .u8 0, .int .u8 0, .int .u8 0, .int .u8 0, .int .u8 0, .int .u8 0] 30)).setCells w1.heap.size 0 DF.toList).setCells (w1.heap.size + 1) 0 DG.toList = w2 at hbl ⊢; clear HBL HRF HRG HT1 HT2))
      go_ret
      exact ⟨ret_bool HUB.out, bstep hlow1 hbl⟩
  · have HCH : Bx (chkG old m root n P x = false) := ⟨by unfold chkG; rw [decide_eq_false hin, Bool.false_and]⟩
    rw [HCH.out]
    clear hod0 hrt0 HCH hP htab
    by_cases h0 : m < 1
    · have h1 : decide (m < 1) = true := by simpa using h0
      clear hin
      go_enter Tryd.func34, Tryd.ntmps34
      go_wp2
      go_ret
      exact ⟨rfl, hb0⟩
    · have h1 : decide (m < 1) = false := by simpa using h0
      have h2 : decide (m > n) = true := by simp; omega
      clear hin
      go_enter Tryd.func34, Tryd.ntmps34
      go_wp2
      go_ret
      exact ⟨rfl, hb0⟩
end Go.Proofs.YtbednfacipphhaaDoor
