/- What Sum answers; and that the law's own question 'is anything summed at all' is answered yes. -/
import Derived.Test.YtaphbenkkicbhaaDoorHSum
namespace Go.Proofs.YtaphbenkkicbhaaDoor
open Go.RowKit
set_option linter.unusedVariables false

set_option maxRecDepth 100000 in
set_option maxHeartbeats 400000 in
theorem sum_any (a : Option Addr) (len cap : Nat) (b : List Int) (w : World) (hb : Bts w a len cap b) (htab : Tab w) (hbd : len ≤ 2305843009213693951) :
    Calls Tryd.prog 33 #[.slice a len cap] w fun e w' => e = .returned (.agg (bv (sumL b)).toArray) ∧ Below w.heap.size w w' := by
  have hlen := hb.len_eq
  have HZ2 : Bx ((bv (sumL b)).toArray.size = 32) := ⟨by rw [List.size_toArray, bv_length, sumL_length]⟩
  have HO2 : Bx ((bv (sumL b)).toArray.all (·.oneCell') = true) := ⟨all_oneCell_toArray (bv_one _)⟩
  go_enter Tryd.func33, Tryd.ntmps33
  go_wp2_with fail
  have hb0 : Below w.heap.size w (w.alloc (.cells #[.int .u8 0, .int .u8 0, .int .u8 0, .int .u8 0, .int .u8 0, .int .u8 0, .int .u8 0, .int .u8 0, .int .u8 0, .int .u8 0, .int .u8 0, .int .u8 0, .int .u8 0, .int .u8 0, .int .u8 0, .int .u8 0, .int .u8 0, .int .u8 0, .int .u8 0, .int .u8 0, .int .u8 0, .int .u8 0, .int .u8 0, .int .u8 0, .int .u8 0, .int .u8 0, .int .u8 0, .int .u8 0, .int .u8 0, .int .u8 0, .int .u8 0, .int .u8 0] 24)) := (Below.refl _ _).alloc (Nat.le_refl _) _
  have hres0 : (w.alloc (.cells #[.int .u8 0, .int .u8 0, .int .u8 0, .int .u8 0, .int .u8 0, .int .u8 0, .int .u8 0, .int .u8 0, .int .u8 0, .int .u8 0, .int .u8 0, .int .u8 0, .int .u8 0, .int .u8 0, .int .u8 0, .int .u8 0, .int .u8 0, .int .u8 0, .int .u8 0, .int .u8 0, .int .u8 0, .int .u8 0, .int .u8 0, .int .u8 0, .int .u8 0, .int .u8 0, .int .u8 0, .int .u8 0, .int .u8 0, .int .u8 0, .int .u8 0, .int .u8 0] 24)).heap[w.heap.size]? = some (.cells #[.int .u8 0, .int .u8 0, .int .u8 0, .int .u8 0, .int .u8 0, .int .u8 0, .int .u8 0, .int .u8 0, .int .u8 0, .int .u8 0, .int .u8 0, .int .u8 0, .int .u8 0, .int .u8 0, .int .u8 0, .int .u8 0, .int .u8 0, .int .u8 0, .int .u8 0, .int .u8 0, .int .u8 0, .int .u8 0, .int .u8 0, .int .u8 0, .int .u8 0, .int .u8 0, .int .u8 0, .int .u8 0, .int .u8 0, .int .u8 0, .int .u8 0, .int .u8 0] 24 (0, 0)) := heap_alloc_new _ _
  obtain ⟨cs, hcs, hres0'⟩ : ∃ cs : Array Value, cs.size = 32 ∧ (w.alloc (.cells #[.int .u8 0, .int .u8 0, .int .u8 0, .int .u8 0, .int .u8 0, .int .u8 0, .int .u8 0, .int .u8 0, .int .u8 0, .int .u8 0, .int .u8 0, .int .u8 0, .int .u8 0, .int .u8 0, .int .u8 0, .int .u8 0, .int .u8 0, .int .u8 0, .int .u8 0, .int .u8 0, .int .u8 0, .int .u8 0, .int .u8 0, .int .u8 0, .int .u8 0, .int .u8 0, .int .u8 0, .int .u8 0, .int .u8 0, .int .u8 0, .int .u8 0, .int .u8 0] 24)).heap[w.heap.size]? = some (.cells cs 24 (0, 0)) := ⟨_, rfl, hres0⟩
  have hs0 : (w.alloc (.cells #[.int .u8 0, .int .u8 0, .int .u8 0, .int .u8 0, .int .u8 0, .int .u8 0, .int .u8 0, .int .u8 0, .int .u8 0, .int .u8 0, .int .u8 0, .int .u8 0, .int .u8 0, .int .u8 0, .int .u8 0, .int .u8 0, .int .u8 0, .int .u8 0, .int .u8 0, .int .u8 0, .int .u8 0, .int .u8 0, .int .u8 0, .int .u8 0, .int .u8 0, .int .u8 0, .int .u8 0, .int .u8 0, .int .u8 0, .int .u8 0, .int .u8 0, .int .u8 0] 24)).heap.size = w.heap.size + 1 := by simp
  clear hres0
  generalize w.alloc (.cells #[.int .u8 0, .int .u8 0, .int .u8 0, .int .u8 0, .int .u8 0, .int .u8 0, .int .u8 0, .int .u8 0, .int .u8 0, .int .u8 0, .int .u8 0, .int .u8 0, .int .u8 0, .int .u8 0, .int .u8 0, .int .u8 0, .int .u8 0, .int .u8 0, .int .u8 0, .int .u8 0, .int .u8 0, .int .u8 0, .int .u8 0, .int .u8 0, .int .u8 0, .int .u8 0, .int .u8 0, .int .u8 0, .int .u8 0, .int .u8 0, .int .u8 0, .int .u8 0] 24) = w0 at hb0 hres0' hs0 ⊢
  refine (new_any _).mono ?_
  rintro e w1 ⟨g, rfl, hash1, hg1, hb1⟩
  have hlow1 := hb0.trans (hb1.mono (by omega))
  have hres1 := (hb1.block w.heap.size (by omega)).trans hres0'
  have hm1 := hb.below hlow1
  have ht1 := htab.below hlow1
  have hap : 0 < len → ∀ p, a = some p → p.block ≠ g := by
    intro hz p hp
    obtain ⟨sb, so, e, hlt, _⟩ := hb.spot hz
    rw [e] at hp; cases hp
    show sb ≠ g; omega
  clear hb1 hres0'
  go_wp2_with fail
  refine (take_any g [] b a len cap _ hash1 hm1 hap (by have := htab.pos; omega) ht1 (by show 0 + len ≤ _; omega)).mono ?_
  rintro e w2 ⟨⟨v, rfl⟩, hash2, hbut⟩
  rw [List.nil_append] at hash2
  have hlow2 := hlow1.trans (hbut.low (B := w.heap.size) (by omega) hlow1.size)
  have hsz1 := hlow1.size
  have hres2 := (hbut.block w.heap.size (Array.getElem?_eq_some_iff.1 hres1).1 (by omega)).trans hres1
  have ht2 := htab.below hlow2
  clear hash1 hm1 hlow1 hres1 ht1 hbut
  go_wp2_with fail
  refine (hsum_any g b _ hash2 ht2 (by omega)).mono ?_
  rintro e w3 ⟨rfl, hb3⟩
  have hlow3 := hlow2.trans (hb3.mono hlow2.size)
  have hres3 := (hb3.block w.heap.size (Array.getElem?_eq_some_iff.1 hres2).1).trans hres2
  clear hash2 hlow2 hres2 ht2 hb3
  have ht := there_row hres3
  rw [hcs] at ht
  have HPost : Bx (∀ W, Below w.heap.size w W → (Ending.returned (.agg (bv (sumL b)).toArray) = .returned (.agg (bv (sumL b)).toArray) ∧ Below w.heap.size w W)) := ⟨fun W h => ⟨rfl, h⟩⟩
  generalize hD : (bv (sumL b)).toArray = D at HZ2 HO2 ⊢
  have HD : Bx (Ending.returned (.agg D) = .returned (.agg (bv (sumL b)).toArray)) := ⟨by rw [hD]⟩
  clear hD HPost
  have HI2 : Bx ((Tryd.prog.info? 24).map (·.size) = some D.size) := ⟨by rw [HZ2.out]; exact dig_info⟩
  have HST : Bx ((w3.setCells w.heap.size 0 D.toList).heap[w.heap.size]? = some (.cells D 24 (0, 0))) := ⟨heap_stored (vs := D) hres3 (by rw [hcs, HZ2.out])⟩
  have HBS : Bx (Below w.heap.size w (w3.setCells w.heap.size 0 D.toList)) := ⟨below_setCells hlow3 w.heap.size (Nat.le_refl _) D.toList 0⟩
  have HTH : Bx (w3.there w.heap.size 0 D.size) := ⟨by rw [HZ2.out]; exact ht⟩
  clear hres3 ht hlow3 hcs
  go_wp2_with (refine wpList_store_mid rfl 24 (.tmp 2) (.tmp 9) rfl w.heap.size 0 D rfl rfl HTH.out HI2.out HO2.out ?_)
  exact bodyPost_ret (v := .agg D) (results_cell_row rfl _ _ w.heap.size 24 D (0, 0) _ rfl HST.out Tryd.underlying24 rfl HI2.out) rfl ⟨HD.out, HBS.out⟩

theorem idx_u8 (l : List Int) (j : Nat) (hl : l.length = 32) (hj : j < 32) (w : World) : (Instr.index 24 (.agg (bv l).toArray) (.int .i64 (j : Int))).run Tryd.prog w = .ok (.int .u8 (l.getD j 0)) w := by
  have hx : (bv l)[j]? = some (.int .u8 (l.getD j 0)) := by
    unfold bv; rw [List.getElem?_map, List.getElem?_eq_getElem (by omega), List.getD_eq_getElem?_getD, List.getElem?_eq_getElem (by omega)]; rfl
  simp only [Instr.index, asIntOf, go_sem, part]
  simp
  rw [if_pos hj, hx, List.getD_eq_getElem?_getD]; rfl
set_option maxRecDepth 100000 in
theorem sum_nil : (sumL []).getD 0 0 = 227 := by decide +kernel
theorem pad_nil : (padL 0).length = 64 := by rw [padL_length]; rfl

end Go.Proofs.YtaphbenkkicbhaaDoor
