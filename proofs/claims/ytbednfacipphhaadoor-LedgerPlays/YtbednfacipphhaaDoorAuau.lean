/- What Sum answers; and that the law's own question 'is anything summed at all' is answered yes. A digest in a variable, and its bytes. A list of digests in memory. What mac's Same answers: whether two lists of bytes are the same. Ledgers: chains, heads, what each call answers. No walk. -/
import Derived.Test.YtbednfacipphhaaDoorHSum
import Derived.Test.YtbednfacipphhaaDoorAuar
import Derived.Test.YtbednfacipphhaaDoorAuav
import Derived.Test.YtbednfacipphhaaDoorAuan
import Derived.Test.YtbednfacipphhaaDoorAuat
import Derived.Test.YtbednfacipphhaaDoorAuae
import Derived.Test.YtbednfacipphhaaDoorAuas
namespace Go.Proofs.YtbednfacipphhaaDoor
open Go.RowKit
set_option linter.unusedVariables false

set_option maxRecDepth 100000 in
set_option maxHeartbeats 400000 in
theorem sum_any (a : Option Addr) (len cap : Nat) (b : List Int) (w : World) (hb : Bts w a len cap b) (htab : Tab w) (hbd : len ≤ 2305843009213693951) :
    Calls Tryd.prog 60 #[.slice a len cap] w fun e w' => e = .returned (.agg (bv (sumL b)).toArray) ∧ Below w.heap.size w w' := by
  have hlen := hb.len_eq
  have HZ2 : Bx ((bv (sumL b)).toArray.size = 32) := ⟨by rw [List.size_toArray, bv_length, sumL_length]⟩
  have HO2 : Bx ((bv (sumL b)).toArray.all (·.oneCell') = true) := ⟨all_oneCell_toArray (bv_one _)⟩
  go_enter Tryd.func60, Tryd.ntmps60
  go_wp2_with fail
  have hb0 : Below w.heap.size w (w.alloc (.cells #[.int .u8 0, .int .u8 0, .int .u8 0, .int .u8 0, .int .u8 0, .int .u8 0, .int .u8 0, .int .u8 0, .int .u8 0, .int .u8 0, .int .u8 0, .int .u8 0, .int .u8 0, .int .u8 0, .int .u8 0, .int .u8 0, .int .u8 0, .int .u8 0, .int .u8 0, .int .u8 0, .int .u8 0, .int .u8 0, .int .u8 0, .int .u8 0, .int .u8 0, .int .u8 0, .int .u8 0, .int .u8 0, .int .u8 0, .int .u8 0, .int .u8 0, .int .u8 0] 30)) := (Below.refl _ _).alloc (Nat.le_refl _) _
  have hres0 : (w.alloc (.cells #[.int .u8 0, .int .u8 0, .int .u8 0, .int .u8 0, .int .u8 0, .int .u8 0, .int .u8 0, .int .u8 0, .int .u8 0, .int .u8 0, .int .u8 0, .int .u8 0, .int .u8 0, .int .u8 0, .int .u8 0, .int .u8 0, .int .u8 0, .int .u8 0, .int .u8 0, .int .u8 0, .int .u8 0, .int .u8 0, .int .u8 0, .int .u8 0, .int .u8 0, .int .u8 0, .int .u8 0, .int .u8 0, .int .u8 0, .int .u8 0, .int .u8 0, .int .u8 0] 30)).heap[w.heap.size]? = some (.cells #[.int .u8 0, .int .u8 0, .int .u8 0, .int .u8 0, .int .u8 0, .int .u8 0, .int .u8 0, .int .u8 0, .int .u8 0, .int .u8 0, .int .u8 0, .int .u8 0, .int .u8 0, .int .u8 0, .int .u8 0, .int .u8 0, .int .u8 0, .int .u8 0, .int .u8 0, .int .u8 0, .int .u8 0, .int .u8 0, .int .u8 0, .int .u8 0, .int .u8 0, .int .u8 0, .int .u8 0, .int .u8 0, .int .u8 0, .int .u8 0, .int .u8 0, .int .u8 0] 30 (0, 0)) := heap_alloc_new _ _
  obtain ⟨cs, hcs, hres0'⟩ : ∃ cs : Array Value, cs.size = 32 ∧ (w.alloc (.cells #[.int .u8 0, .int .u8 0, .int .u8 0, .int .u8 0, .int .u8 0, .int .u8 0, .int .u8 0, .int .u8 0, .int .u8 0, .int .u8 0, .int .u8 0, .int .u8 0, .int .u8 0, .int .u8 0, .int .u8 0, .int .u8 0, .int .u8 0, .int .u8 0, .int .u8 0, .int .u8 0, .int .u8 0, .int .u8 0, .int .u8 0, .int .u8 0, .int .u8 0, .int .u8 0, .int .u8 0, .int .u8 0, .int .u8 0, .int .u8 0, .int .u8 0, .int .u8 0] 30)).heap[w.heap.size]? = some (.cells cs 30 (0, 0)) := ⟨_, rfl, hres0⟩
  have hs0 : (w.alloc (.cells #[.int .u8 0, .int .u8 0, .int .u8 0, .int .u8 0, .int .u8 0, .int .u8 0, .int .u8 0, .int .u8 0, .int .u8 0, .int .u8 0, .int .u8 0, .int .u8 0, .int .u8 0, .int .u8 0, .int .u8 0, .int .u8 0, .int .u8 0, .int .u8 0, .int .u8 0, .int .u8 0, .int .u8 0, .int .u8 0, .int .u8 0, .int .u8 0, .int .u8 0, .int .u8 0, .int .u8 0, .int .u8 0, .int .u8 0, .int .u8 0, .int .u8 0, .int .u8 0] 30)).heap.size = w.heap.size + 1 := by simp
  clear hres0
  generalize w.alloc (.cells #[.int .u8 0, .int .u8 0, .int .u8 0, .int .u8 0, .int .u8 0, .int .u8 0, .int .u8 0, .int .u8 0, .int .u8 0, .int .u8 0, .int .u8 0, .int .u8 0, .int .u8 0, .int .u8 0, .int .u8 0, .int .u8 0, .int .u8 0, .int .u8 0, .int .u8 0, .int .u8 0, .int .u8 0, .int .u8 0, .int .u8 0, .int .u8 0, .int .u8 0, .int .u8 0, .int .u8 0, .int .u8 0, .int .u8 0, .int .u8 0, .int .u8 0, .int .u8 0] 30) = w0 at hb0 hres0' hs0 ⊢
  refine (new_any _).mono ?_
  rintro e w1 ⟨g, rfl, hash1, hg1, hb1⟩
  have hlow1 := hb0.trans (hb1.mono (by omega))
  have hres1 := (hb1.block w.heap.size (by omega)).trans hres0'
  have hm1 := hb.below hlow1
  have ht1 := htab.below hlow1
  have hap : 0 < len → ∀ p, a = some p → p.block ≠ g := by
    intro hz p hp
    obtain ⟨sb, so, e, hlt, _⟩ := hb.spot hz
    rw [e] at hp; cases hp
    show sb ≠ g; omega
  clear hb1 hres0'
  go_wp2_with fail
  refine (take_any g [] b a len cap _ hash1 hm1 hap (by have := htab.pos; omega) ht1 (by show 0 + len ≤ _; omega)).mono ?_
  rintro e w2 ⟨⟨v, rfl⟩, hash2, hbut⟩
  rw [List.nil_append] at hash2
  have hlow2 := hlow1.trans (hbut.low (B := w.heap.size) (by omega) hlow1.size)
  have hsz1 := hlow1.size
  have hres2 := (hbut.block w.heap.size (Array.getElem?_eq_some_iff.1 hres1).1 (by omega)).trans hres1
  have ht2 := htab.below hlow2
  clear hash1 hm1 hlow1 hres1 ht1 hbut
  go_wp2_with fail
  refine (hsum_any g b _ hash2 ht2 (by omega)).mono ?_
  rintro e w3 ⟨rfl, hb3⟩
  have hlow3 := hlow2.trans (hb3.mono hlow2.size)
  have hres3 := (hb3.block w.heap.size (Array.getElem?_eq_some_iff.1 hres2).1).trans hres2
  clear hash2 hlow2 hres2 ht2 hb3
  have ht := there_row hres3
  rw [hcs] at ht
  have HPost : Bx (∀ W, Below w.heap.size w W → (Ending.returned (.agg (bv (sumL b)).toArray) = .returned (.agg (bv (sumL b)).toArray) ∧ Below w.heap.size w W)) := ⟨fun W h => ⟨rfl, h⟩⟩
  generalize hD : (bv (sumL b)).toArray = D at HZ2 HO2 ⊢
  have HD : Bx (Ending.returned (.agg D) = .returned (.agg (bv (sumL b)).toArray)) := ⟨by rw [hD]⟩
  clear hD HPost
  have HI2 : Bx ((Tryd.prog.info? 30).map (·.size) = some D.size) := ⟨by rw [HZ2.out]; exact dig_info⟩
  have HST : Bx ((w3.setCells w.heap.size 0 D.toList).heap[w.heap.size]? = some (.cells D 30 (0, 0))) := ⟨heap_stored (vs := D) hres3 (by rw [hcs, HZ2.out])⟩
  have HBS : Bx (Below w.heap.size w (w3.setCells w.heap.size 0 D.toList)) := ⟨below_setCells hlow3 w.heap.size (Nat.le_refl _) D.toList 0⟩
  have HTH : Bx (w3.there w.heap.size 0 D.size) := ⟨by rw [HZ2.out]; exact ht⟩
  clear hres3 ht hlow3 hcs
  go_wp2_with (refine wpList_store_mid rfl 30 (.tmp 2) (.tmp 9) rfl w.heap.size 0 D rfl rfl HTH.out HI2.out HO2.out ?_)
  exact bodyPost_ret (v := .agg D) (results_cell_row rfl _ _ w.heap.size 30 D (0, 0) _ rfl HST.out Tryd.underlying30 rfl HI2.out) rfl ⟨HD.out, HBS.out⟩

set_option maxRecDepth 100000 in
theorem idx_u8 (l : List Int) (j : Nat) (hl : l.length = 32) (hj : j < 32) (w : World) : (Instr.index 30 (.agg (bv l).toArray) (.int .i64 (j : Int))).run Tryd.prog w = .ok (.int .u8 (l.getD j 0)) w := by
  have hx : (bv l)[j]? = some (.int .u8 (l.getD j 0)) := by
    unfold bv; rw [List.getElem?_map, List.getElem?_eq_getElem (by omega), List.getD_eq_getElem?_getD, List.getElem?_eq_getElem (by omega)]; rfl
  simp only [Instr.index, asIntOf, go_sem, part]
  simp
  rw [if_pos hj, hx, List.getD_eq_getElem?_getD]; rfl
set_option maxRecDepth 100000 in
theorem sum_nil : (sumL []).getD 0 0 = 227 := by decide +kernel
set_option maxRecDepth 100000 in
theorem pad_nil : (padL 0).length = 64 := by rw [padL_length]; rfl

end Go.Proofs.YtbednfacipphhaaDoor
namespace Go.Proofs.YtbednfacipphhaaDoor
open Go.RowKit
set_option linter.unusedVariables false

set_option maxRecDepth 100000 in
theorem dig_all (O : Nat) (w : World) : (Instr.sliceAt 30 (.pointer (some ⟨O, 0, none⟩)) none none none).run Tryd.prog w = .ok (.slice (some ⟨O, 0, none⟩) 32 32) w := by
  have hlen : Tryd.prog.arrayLen 30 = 32 := by kernel_rfl
  have ht : Tryd.prog.underlying 30 = some (.array (Tryd.prog.arrayLen 30) (Tryd.prog.elem 30)) := by kernel_rfl
  have hsz : (sizeOf (Tryd.prog.elem 30)).run Tryd.prog w = .ok 1 w := by kernel_rfl
  rw [run_sliceAt_array_all w 30 ⟨O, 0, none⟩ ht, hsz, hlen]
  simp only [Result.andThen_ok, slicedAt]
  rw [if_neg (by decide), Addr.add_lit]
set_option maxRecDepth 100000 in
theorem bts_cells {w : World} {g n : Nat} {l : List Int} {t : TypeId} (h : w.heap[g]? = some (.cells (bv l).toArray t (0, 0))) (hb : Byt l) (hn : l.length = n) (hm : n ≤ maxLen) : Bts w (some ⟨g, 0, none⟩) n n l := by
  refine ⟨hn, hb, Nat.le_refl _, hm, (fun hh => by cases hh), fun _ => ⟨g, 0, rfl, (Array.getElem?_eq_some_iff.1 h).1, fun i hi => ?_⟩⟩
  rw [Nat.zero_add]; exact bv_cell h i (by omega)
/-- a digest that is put into a new variable -/
structure DV (w W : World) (l : List Int) : Prop where
  low : Below w.heap.size w W
  row : W.heap[w.heap.size]? = some (.cells (bv l).toArray 30 (0, 0))
set_option maxRecDepth 100000 in
theorem dig_var (w : World) (l : List Int) (hl : l.length = 32) (D : Array Value) (hD : D = (bv l).toArray) : DV w ((w.alloc (.cells #[.int .u8 0, .int .u8 0, .int .u8 0, .int .u8 0, .int .u8 0, .int .u8 0, .int .u8 0, .int .u8 0, .int .u8 0, .int .u8 0, .int .u8 0, .int .u8 0, .int .u8 0, .int .u8 0, .int .u8 0, .int .u8 0, .int .u8 0, .int .u8 0, .int .u8 0, .int .u8 0, .int .u8 0, .int .u8 0, .int .u8 0, .int .u8 0, .int .u8 0, .int .u8 0, .int .u8 0, .int .u8 0, .int .u8 0, .int .u8 0, .int .u8 0, .int .u8 0] 30)).setCells w.heap.size 0 D.toList) l ∧ (w.alloc (.cells #[.int .u8 0, .int .u8 0, .int .u8 0, .int .u8 0, .int .u8 0, .int .u8 0, .int .u8 0, .int .u8 0, .int .u8 0, .int .u8 0, .int .u8 0, .int .u8 0, .int .u8 0, .int .u8 0, .int .u8 0, .int .u8 0, .int .u8 0, .int .u8 0, .int .u8 0, .int .u8 0, .int .u8 0, .int .u8 0, .int .u8 0, .int .u8 0, .int .u8 0, .int .u8 0, .int .u8 0, .int .u8 0, .int .u8 0, .int .u8 0, .int .u8 0, .int .u8 0] 30)).there w.heap.size 0 D.size ∧ (Tryd.prog.info? 30).map (·.size) = some D.size ∧ D.all (·.oneCell') = true := by
  have hs : D.size = 32 := by rw [hD, List.size_toArray, bv_length, hl]
  refine ⟨⟨below_setCells ((Below.refl _ _).alloc (Nat.le_refl _) _) _ (Nat.le_refl _) _ _, ?_⟩, by rw [hs]; exact there_new _ _ _, by rw [hs]; exact dig_info, by rw [hD]; exact all_oneCell_toArray (bv_one _)⟩
  rw [← hD]; exact heap_stored (vs := D) (heap_alloc_new _ _) (by rw [hs]; rfl)
set_option maxRecDepth 100000 in
theorem DV.bts {w W : World} {l : List Int} (h : DV w W l) (hb : Byt l) (hl : l.length = 32) : Bts W (some ⟨w.heap.size, 0, none⟩) 32 32 l := bts_cells h.row hb hl (by unfold maxLen; omega)
end Go.Proofs.YtbednfacipphhaaDoor
namespace Go.Proofs.YtbednfacipphhaaDoor
open Go.RowKit
set_option linter.unusedVariables false

/-- the slice reads as the digests L in the world w -/
structure Dgs (w : World) (ao : Option Addr) (len cap : Nat) (L : List (List Int)) : Prop where
  len_eq : L.length = len
  dig : Dgl L
  le_cap : len ≤ cap
  cap_le : cap ≤ maxLen
  nil : ao = none → cap = 0
  spot : 0 < len → ∃ b off, ao = some ⟨b, off, none⟩ ∧ b < w.heap.size ∧ ∀ i, i < len → w.rangeAt b (off + 32 * i) (bv (L.getD i []))
set_option maxRecDepth 100000 in
theorem range_below {w w' : World} {b o : Nat} {vs : List Value} (h : w.rangeAt b o vs) (hb : Below w.heap.size w w') (hlt : b < w.heap.size) : w'.rangeAt b o vs := fun j v hj => (hb.cell hlt).trans (h j v hj)
set_option maxRecDepth 100000 in
theorem Dgs.below {w w' : World} {ao : Option Addr} {len cap : Nat} {L : List (List Int)} (h : Dgs w ao len cap L) (hb : Below w.heap.size w w') : Dgs w' ao len cap L :=
  ⟨h.len_eq, h.dig, h.le_cap, h.cap_le, h.nil, fun hp => by
    obtain ⟨b, off, e, hlt, hc⟩ := h.spot hp
    exact ⟨b, off, e, Nat.lt_of_lt_of_le hlt hb.size, fun i hi => range_below (hc i hi) hb hlt⟩⟩
set_option maxRecDepth 100000 in
theorem Dgs.drewN {w : World} {ao : Option Addr} {len cap : Nat} {L : List (List Int)} (h : Dgs w ao len cap L) (n : Nat) : Dgs (w.drewN n) ao len cap L :=
  ⟨h.len_eq, h.dig, h.le_cap, h.cap_le, h.nil, h.spot⟩
set_option maxRecDepth 100000 in
theorem dgs_nil {w : World} {ao : Option Addr} : Dgs w ao 0 0 [] :=
  ⟨rfl, Dgl.nil, Nat.le_refl _, Nat.zero_le _, fun _ => rfl, fun hp => absurd hp (Nat.lt_irrefl _)⟩
set_option maxRecDepth 100000 in
theorem Dgs.take {w : World} {ao : Option Addr} {len cap : Nat} {L : List (List Int)} (h : Dgs w ao len cap L) (k : Nat) (hk : k ≤ len) : Dgs w ao k cap (L.take k) := by
  have hl := h.len_eq
  have hc := h.le_cap
  refine ⟨by rw [List.length_take]; omega, h.dig.take k, by omega, h.cap_le, h.nil, fun hp => ?_⟩
  obtain ⟨b, off, e, hlt, hcc⟩ := h.spot (by omega)
  refine ⟨b, off, e, hlt, fun i hi => ?_⟩
  rw [List.getD_eq_getElem?_getD, List.getElem?_take, if_pos hi, ← List.getD_eq_getElem?_getD]
  exact hcc i (by omega)
set_option maxRecDepth 100000 in
theorem Dgs.drop {w : World} {b o len cap : Nat} {L : List (List Int)} (h : Dgs w (some ⟨b, o, none⟩) len cap L) (k : Nat) (hk : k ≤ len) : Dgs w (some ⟨b, o + 32 * k, none⟩) (len - k) (cap - k) (L.drop k) := by
  have hl := h.len_eq
  have hc := h.le_cap
  have hm := h.cap_le
  refine ⟨by rw [List.length_drop]; omega, h.dig.drop k, by omega, by omega, (fun hh => by cases hh), fun hp => ?_⟩
  obtain ⟨b', o', e, hlt, hcc⟩ := h.spot (by omega)
  cases e
  refine ⟨b, o + 32 * k, rfl, hlt, fun i hi => ?_⟩
  rw [List.getD_eq_getElem?_getD, List.getElem?_drop, ← List.getD_eq_getElem?_getD, show o + 32 * k + 32 * i = o + 32 * (k + i) from by omega]
  exact hcc (k + i) (by omega)
set_option maxRecDepth 100000 in
theorem Dgs.list {w : World} {ao : Option Addr} {len cap : Nat} {L M : List (List Int)} (h : Dgs w ao len cap L) (e : L = M) : Dgs w ao len cap M := by rw [← e]; exact h
set_option maxRecDepth 100000 in
theorem dgs_info : (Tryd.prog.info? 30).map (fun i => (i.zero, i.size, i.bytes)) = some (some (.agg #[.int .u8 0, .int .u8 0, .int .u8 0, .int .u8 0, .int .u8 0, .int .u8 0, .int .u8 0, .int .u8 0, .int .u8 0, .int .u8 0, .int .u8 0, .int .u8 0, .int .u8 0, .int .u8 0, .int .u8 0, .int .u8 0, .int .u8 0, .int .u8 0, .int .u8 0, .int .u8 0, .int .u8 0, .int .u8 0, .int .u8 0, .int .u8 0, .int .u8 0, .int .u8 0, .int .u8 0, .int .u8 0, .int .u8 0, .int .u8 0, .int .u8 0, .int .u8 0]), 32, 32) := by kernel_rfl
set_option maxRecDepth 100000 in
theorem dgs_size (w : World) : (Go.sizeOf (Tryd.prog.elem 60)).run Tryd.prog w = .ok 32 w := by
  rw [show Tryd.prog.elem 60 = 30 from by kernel_rfl]
  obtain ⟨i0, hi, hz0, hz1, hz2⟩ := info_parts dgs_info
  simp [Go.sizeOf, typeInfo, hi, hz1]
set_option maxRecDepth 100000 in
theorem dgs_under : Tryd.prog.underlying 60 = some (.slice (Tryd.prog.elem 60)) := by kernel_rfl
set_option maxRecDepth 100000 in
/-- l[:k] -/
theorem dgs_cut (b o len cap k : Nat) (hk : k ≤ cap) (w : World) : (Instr.sliceAt 60 (.slice (some ⟨b, o, none⟩) len cap) none (some (.int .i64 (k : Int))) none).run Tryd.prog w = .ok (.slice (some ⟨b, o, none⟩) k cap) w := by
  rw [run_sliceAt_slice w _ _ _ _ _ dgs_under, run_slice_h w _ _ len cap dgs_under .i64 k (by omega) (by omega), dgs_size]
  simp [sliced, Addr.add_lit]
set_option maxRecDepth 100000 in
/-- l[k:] -/
theorem dgs_rest (b o len cap k : Nat) (hk : k ≤ len) (hc : k < cap) (w : World) : (Instr.sliceAt 60 (.slice (some ⟨b, o, none⟩) len cap) (some (.int .i64 (k : Int))) none none).run Tryd.prog w = .ok (.slice (some ⟨b, o + 32 * k, none⟩) (len - k) (cap - k)) w := by
  rw [run_sliceAt_slice w _ _ _ _ _ dgs_under, run_slice_l w _ _ len cap dgs_under .i64 k (by omega) (by omega), dgs_size]
  simp [sliced, Addr.add_lit, show ¬ cap = k by omega, Nat.mul_comm]
set_option maxRecDepth 100000 in
/-- the facts at the end of a function that answers a digest in a variable -/
theorem res_end {w w5 : World} {B R : Nat} {cs : Array Value} {Z : List Int} (hres : w5.heap[R]? = some (.cells cs 30 (0, 0))) (hcs : cs.size = 32) (hlow : Below B w w5) (hB : B ≤ R) (hZ : Z.length = 32) (D : Array Value) (hD : (bv Z).toArray = D) :
    Bx (w5.there R 0 D.size) ∧ Bx ((Tryd.prog.info? 30).map (·.size) = some D.size) ∧ Bx (D.all (·.oneCell') = true) ∧ Bx ((w5.setCells R 0 D.toList).heap[R]? = some (.cells D 30 (0, 0))) ∧ Bx (Below B w (w5.setCells R 0 D.toList)) := by
  have hs : D.size = 32 := by rw [← hD, List.size_toArray, bv_length, hZ]
  have hth := there_row hres
  rw [hcs] at hth
  exact ⟨⟨by rw [hs]; exact hth⟩, ⟨by rw [hs]; exact dig_info⟩, ⟨by rw [← hD]; exact all_oneCell_toArray (bv_one _)⟩, ⟨heap_stored (vs := D) hres (by rw [hcs, hs])⟩, ⟨below_setCells hlow R hB D.toList 0⟩⟩
end Go.Proofs.YtbednfacipphhaaDoor
namespace Go.Proofs.YtbednfacipphhaaDoor
open Go.RowKit
set_option linter.unusedVariables false

def orr (a b : Int) : Int := ((a.toNat ||| b.toNat : Nat) : Int)
set_option maxRecDepth 100000 in
theorem or8_eq {a b : Int} (ha : 0 ≤ a ∧ a ≤ 255) (hb : 0 ≤ b ∧ b ≤ 255) : bits .or .u8 a b = orr a b := by
  have h1 := ha.1; have h2 := ha.2; have h3 := hb.1; have h4 := hb.2
  exact u8_or a b h1 (by omega) h3 (by omega)
set_option maxRecDepth 100000 in
theorem or_b {a b : Int} (ha : 0 ≤ a ∧ a ≤ 255) (hb : 0 ≤ b ∧ b ≤ 255) : 0 ≤ orr a b ∧ orr a b ≤ 255 := by
  have h1 := ha.1; have h2 := ha.2; have h3 := hb.1; have h4 := hb.2
  have := Nat.or_lt_two_pow (x := a.toNat) (y := b.toNat) (n := 8) (by omega) (by omega)
  exact ⟨by unfold orr; omega, by unfold orr; omega⟩
set_option maxRecDepth 100000 in
theorem or_zero {a b : Int} (ha : 0 ≤ a) (hb : 0 ≤ b) : orr a b = 0 ↔ a = 0 ∧ b = 0 := by
  unfold orr
  rw [show ((0 : Int)) = ((0 : Nat) : Int) from rfl, Int.ofNat_inj, Nat.or_eq_zero_iff]
  omega
set_option maxRecDepth 100000 in
theorem xr_zero {a b : Int} (ha : 0 ≤ a) (hb : 0 ≤ b) : xr a b = 0 ↔ a = b := by
  unfold xr
  rw [show ((0 : Int)) = ((0 : Nat) : Int) from rfl, Int.ofNat_inj]
  have e : a.toNat ^^^ b.toNat = 0 ↔ a.toNat = b.toNat := by
    constructor
    · intro h
      have h2 : (a.toNat ^^^ b.toNat) ^^^ b.toNat = 0 ^^^ b.toNat := by rw [h]
      rw [Nat.xor_assoc, Nat.xor_self, Nat.xor_zero, Nat.zero_xor] at h2
      exact h2
    · intro h; rw [h, Nat.xor_self]
  rw [e]
  omega
set_option maxRecDepth 100000 in
theorem take_more {la lb : List Int} {k : Nat} (ha : k < la.length) (hb : k < lb.length) : la.take (k + 1) = lb.take (k + 1) ↔ la.take k = lb.take k ∧ la.getD k 0 = lb.getD k 0 := by
  rw [take_succ_getD la k ha, take_succ_getD lb k hb]
  constructor
  · intro h
    have := List.append_inj h (by rw [List.length_take, List.length_take]; omega)
    exact ⟨this.1, by simpa using this.2⟩
  · rintro ⟨h1, h2⟩; rw [h1, h2]
set_option maxRecDepth 100000 in
theorem unlike_step {la lb : List Int} {k : Nat} {u : Int} (hu : 0 ≤ u ∧ u ≤ 255) (hA : Byt la) (hB : Byt lb) (ha : k < la.length) (hb : k < lb.length) (h : u = 0 ↔ la.take k = lb.take k) : orr u (xr (la.getD k 0) (lb.getD k 0)) = 0 ↔ la.take (k + 1) = lb.take (k + 1) := by
  have h1 := hA.getD k
  have h2 := hB.getD k
  rw [or_zero hu.1 (xr_b h1 h2).1, xr_zero h1.1 h2.1, take_more ha hb, h]

set_option maxHeartbeats 400000 in
theorem msame_any (a b : Option Addr) (n m c d : Nat) (la lb : List Int) (w : World) (ha : Bts w a n c la) (hb : Bts w b m d lb) :
    Calls Tryd.prog 79 #[.slice a n c, .slice b m d] w fun e w' => e = .returned (.bool (decide (la = lb))) ∧ w = w' := by
  have hn := Nat.le_trans ha.le_cap ha.cap_le
  have hm := Nat.le_trans hb.le_cap hb.cap_le
  unfold maxLen at hn hm
  have hla := ha.len_eq
  have hlb := hb.len_eq
  by_cases hne : n = m
  · subst hne
    have hq : ((n : Int) != (n : Int)) = false := by simp
    have HA : Hid (la.length = n) := hla
    have HB : Hid (lb.length = n) := hlb
    clear hla hlb
    go_enter Tryd.func79, Tryd.ntmps79
    go_wp2
    go_loop [5, 15] (fun v i => ∃ k : Nat, ∃ u : Int, k ≤ n ∧ i = .int .i64 k ∧ v = .int .u8 u ∧ (0 ≤ u ∧ u ≤ 255) ∧ (u = 0 ↔ la.take k = lb.take k)) (fun _ i => n - (intOf i).toNat)
    case atStart => exact ⟨0, 0, Nat.zero_le _, rfl, rfl, by decide, by simp⟩
    case round =>
      obtain ⟨k, u, hk, rfl, rfl, hu, ht⟩ := hrel
      have HT : Hid (u = 0 ↔ la.take k = lb.take k) := ht
      clear ht
      by_cases hlt : k < n
      · obtain ⟨b1, o1, rfl, _, hc1⟩ := ha.spot (by omega)
        obtain ⟨b2, o2, rfl, _, hc2⟩ := hb.spot (by omega)
        have hx := hc1 k hlt
        have hy := hc2 k hlt
        clear hc1 hc2
        have hki : (k : Int) < (n : Int) := by omega
        have HS : Hid (orr u (xr (la.getD k 0) (lb.getD k 0)) = 0 ↔ la.take (k + 1) = lb.take (k + 1)) := unlike_step hu ha.byt hb.byt (by rw [HA.out]; omega) (by rw [HB.out]; omega) HT.out
        have b1 := ha.byt.getD k
        have b2 := hb.byt.getD k
        have e1 := xr8_eq b1 b2
        have b3 := xr_b b1 b2
        generalize la.getD k 0 = av at hx HS b1 e1 b3
        generalize lb.getD k 0 = bw at hy HS b2 e1 b3
        generalize xr av bw = z at HS e1 b3
        have e2 := or8_eq hu b3
        have b4 := or_b hu b3
        generalize orr u z = y at HS e2 b4
        clear HT
        go_wp2
        go_round
        case rel => exact ⟨k + 1, y, by omega, by go_num, rfl, b4, HS.out⟩
        case measure => simp [intOf]; omega
      · have HK : Hid (u = 0 ↔ la = lb) := by
          have h1 := HT.out
          rw [List.take_of_length_le (by rw [HA.out]; omega), List.take_of_length_le (by rw [HB.out]; omega)] at h1
          exact h1
        by_cases hz : u = 0
        · have hd : (u == 0) = true := by simp [hz]
          have HR : Hid (decide (la = lb) = true) := by show _ = _; rw [decide_eq_true_iff]; exact HK.out.1 hz
          clear HT HK hz
          go_wp2
          go_ret
          exact ⟨ret_bool HR.out.symm, rfl⟩
        · have hd : (u == 0) = false := by simp [hz]
          have HR : Hid (decide (la = lb) = false) := by show _ = _; rw [decide_eq_false_iff_not]; exact fun h => hz (HK.out.2 h)
          clear HT HK hz
          go_wp2
          go_ret
          exact ⟨ret_bool HR.out.symm, rfl⟩
  · have hq : ((n : Int) != (m : Int)) = true := by simp; omega
    have hf : decide (la = lb) = false := by rw [decide_eq_false_iff_not]; intro h; rw [h] at hla; omega
    rw [hf]
    go_enter Tryd.func79, Tryd.ntmps79
    go_wp2
    go_ret
    exact ⟨rfl, rfl⟩
end Go.Proofs.YtbednfacipphhaaDoor
namespace Go.Proofs.YtbednfacipphhaaDoor
open Go.RowKit
set_option linter.unusedVariables false

def dz : List Int := List.replicate 32 0
set_option maxRecDepth 100000 in
theorem dz_dg : Dg dz := ⟨rfl, fun c hc => by rw [List.eq_of_mem_replicate hc]; decide⟩
/-- the chain along texts -/
def chnT (T : List (List Int)) : List Int := T.foldl (fun d b => nodeL d (leafL b 256) 256) dz
set_option maxRecDepth 100000 in
theorem chnT_nil : chnT [] = dz := rfl
set_option maxRecDepth 100000 in
theorem chnT_snoc (T : List (List Int)) (t : List Int) : chnT (T ++ [t]) = nodeL (chnT T) (leafL t 256) 256 := by unfold chnT; rw [List.foldl_append]; rfl
set_option maxRecDepth 100000 in
theorem takeT (T : List (List Int)) (k : Nat) (h : k < T.length) : T.take (k + 1) = T.take k ++ [T.getD k []] := by
  rw [List.take_add_one, List.getElem?_eq_getElem h, List.getD_eq_getElem?_getD, List.getElem?_eq_getElem h]; rfl
set_option maxRecDepth 100000 in
theorem chnT_more (T : List (List Int)) (k : Nat) (h : k < T.length) : chnT (T.take (k + 1)) = nodeL (chnT (T.take k)) (leafL (T.getD k []) 256) 256 := by rw [takeT T k h, chnT_snoc]
set_option maxRecDepth 100000 in
theorem chnT_dg (T : List (List Int)) : Dg (chnT T) := by
  rcases List.eq_nil_or_concat T with h | ⟨a, t, h⟩
  · rw [h]; exact dz_dg
  · rw [h, List.concat_eq_append, chnT_snoc]; exact nodeL_dg _ _ _
set_option maxRecDepth 100000 in
/-- a whole sum -/
theorem cutL_all {d : List Int} (h : Dg d) : cutL d 256 = d := by
  unfold cutL
  rw [show nb 256 = 256 from rfl]
  apply List.ext_getElem?
  intro j
  by_cases hj : j < 32
  · rw [List.getElem?_eq_getElem (by rw [cutN_length]; exact hj), List.getElem?_eq_getElem (by rw [h.1]; exact hj)]
    have h1 := cutN_getD d 256 j hj
    rw [List.getD_eq_getElem?_getD, List.getElem?_eq_getElem (by rw [cutN_length]; exact hj), Option.getD_some] at h1
    have hb := h.2.getD j
    rw [h1, show min (256 - 8 * j) 8 = 8 from by omega, bc_eight hb, List.getD_eq_getElem?_getD, List.getElem?_eq_getElem (by rw [h.1]; exact hj)]
    rfl
  · rw [List.getElem?_eq_none (by rw [cutN_length]; omega), List.getElem?_eq_none (by rw [h.1]; omega)]
set_option maxRecDepth 100000 in
theorem sum_dg (b : List Int) : Dg (sumL b) := ⟨sumL_length _, sum_byt _⟩
set_option maxRecDepth 100000 in
theorem leaf_all (b : List Int) : leafL b 256 = sumL (0 :: b) := cutL_all (sum_dg _)
set_option maxRecDepth 100000 in
theorem node_all (x y : List Int) : nodeL x y 256 = sumL (1 :: (x ++ y)) := cutL_all (sum_dg _)
/-- a head: how many, the root, the chain, the sign -/
structure Hd where
  n : Int
  R : List Int
  C : List Int
  G : List Int
def hd0 : Hd := ⟨0, dz, dz, dz⟩
/-- its text -/
def headL (h : Hd) : List Int := putL (h.n % 18446744073709551616) 8 ++ h.R ++ h.C
set_option maxRecDepth 100000 in
theorem headL_len {h : Hd} (h1 : Dg h.R) (h2 : Dg h.C) : (headL h).length = 72 := by unfold headL; rw [List.length_append, List.length_append, putL_length, h1.1, h2.1]
set_option maxRecDepth 100000 in
theorem headL_byt {h : Hd} (h1 : Dg h.R) (h2 : Dg h.C) : Byt (headL h) := ((putL_byt _ _).append h1.2).append h2.2
/-- signed -/
def sgn (k : List Int) (h : Hd) : Hd := ⟨h.n, h.R, h.C, macL k (headL h)⟩
set_option maxRecDepth 100000 in
theorem sgn_text (k : List Int) (h : Hd) : headL (sgn k h) = headL h := rfl
/-- the head of texts -/
def hdOf (k : List Int) (T : List (List Int)) : Hd := sgn k ⟨(T.length : Int), rootL (leavesL T 256) 256, chnT T, dz⟩
/-- what Add answers -/
def addT (T : List (List Int)) (e : En) : List (List Int) × Int := if chkN e ≠ 0 then (T, chkN e) else if 64 ≤ T.length then (T, 11) else if e.j ≠ (T.length : Int) then (T, 2) else (T ++ [enL e], 0)
def pathT (T : List (List Int)) (i n : Int) : List (List Int) × Int := if n < 0 ∨ (T.length : Int) < n ∨ i < 0 ∨ n ≤ i then ([], 9) else (pathL (leavesL (T.take n.toNat) 256) i.toNat 256, 0)
def growT (T : List (List Int)) (m n : Int) : List (List Int) × Int := if n < 0 ∨ (T.length : Int) < n ∨ m < 1 ∨ n < m then ([], 9) else (growL (leavesL (T.take n.toNat) 256) m.toNat true 256, 0)
def headT (k : List Int) (T : List (List Int)) (n : Int) : Hd × Int := if n < 0 ∨ (T.length : Int) < n then (hd0, 9) else (hdOf k (T.take n.toNat), 0)
def textT (T : List (List Int)) (i : Int) : List Int × Int := if i < 0 ∨ (T.length : Int) ≤ i then ([], 9) else (T.getD i.toNat [], 0)
set_option maxRecDepth 100000 in
/-- nothing that is added changes what was told -/
theorem addT_pre (T : List (List Int)) (e : En) : (addT T e).1.take T.length = T := by
  unfold addT
  split
  · exact List.take_length
  split
  · exact List.take_length
  split
  · exact List.take_length
  · rw [List.take_append_of_le_length (Nat.le_refl _), List.take_length]
set_option maxRecDepth 100000 in
theorem addT_len (T : List (List Int)) (e : En) : ((addT T e).2 = 0 ∧ (addT T e).1.length = T.length + 1) ∨ ((addT T e).2 ≠ 0 ∧ (addT T e).1 = T) := by
  unfold addT
  split
  · next h => exact .inr ⟨h, rfl⟩
  split
  · exact .inr ⟨show (11 : Int) ≠ 0 by decide, rfl⟩
  split
  · exact .inr ⟨show (2 : Int) ≠ 0 by decide, rfl⟩
  · exact .inl ⟨rfl, by simp⟩
set_option maxRecDepth 100000 in
/-- shown: each entry in each head, each head in each one behind -/
theorem shownP (T : List (List Int)) (i n : Nat) (hi : i < n) (hn : n ≤ T.length) : chkP (rootL (leavesL (T.take n) 256) 256) (n : Int) (i : Int) (leafL (T.getD i []) 256) (pathL (leavesL (T.take n) 256) i 256) 256 = true := by
  have hl : (leavesL (T.take n) 256).length = n := by rw [leavesL_len, List.length_take]; omega
  have h := chkP_yes (leavesL (T.take n) 256) i 256 (by rw [hl]; exact hi)
  rw [hl, leavesL_getD _ _ _ (by rw [List.length_take]; omega)] at h
  rw [show (T.take n).getD i [] = T.getD i [] from by rw [List.getD_eq_getElem?_getD, List.getElem?_take, if_pos hi, ← List.getD_eq_getElem?_getD]] at h
  exact h
set_option maxRecDepth 100000 in
theorem shownG (T : List (List Int)) (m n : Nat) (h1 : 1 ≤ m) (h2 : m ≤ n) (hn : n ≤ T.length) : chkG (rootL (leavesL (T.take m) 256) 256) (m : Int) (rootL (leavesL (T.take n) 256) 256) (n : Int) (growL (leavesL (T.take n) 256) m true 256) 256 = true := by
  have hl : (leavesL (T.take n) 256).length = n := by rw [leavesL_len, List.length_take]; omega
  have h := chkG_yes (leavesL (T.take n) 256) m 256 h1 (by rw [hl]; exact h2)
  rw [hl] at h
  have e : (leavesL (T.take n) 256).take m = leavesL (T.take m) 256 := by unfold leavesL; rw [← List.map_take, List.take_take, Nat.min_eq_left h2]
  rw [e] at h
  exact h
/-- what the last link of a chain is the sum of -/
def linkL (T : List (List Int)) : List Int := 1 :: (chnT (T.take (T.length - 1)) ++ leafL (T.getD (T.length - 1) []) 256)
set_option maxRecDepth 100000 in
theorem link_at (T : List (List Int)) (n : Nat) (h : n < T.length) : linkL (T.take (n + 1)) = 1 :: (chnT (T.take n) ++ leafL (T.getD n []) 256) := by
  have hl : (T.take (n + 1)).length = n + 1 := by rw [List.length_take]; omega
  unfold linkL
  rw [hl, Nat.add_sub_cancel, List.take_take, Nat.min_eq_left (by omega)]
  rw [show (T.take (n + 1)).getD n [] = T.getD n [] from by rw [List.getD_eq_getElem?_getD, List.getElem?_take, if_pos (by omega), ← List.getD_eq_getElem?_getD]]
set_option maxRecDepth 100000 in
theorem link_sum (T : List (List Int)) (n : Nat) (h : n < T.length) : sumL (linkL (T.take (n + 1))) = chnT (T.take (n + 1)) := by rw [link_at T n h, chnT_more T n h, node_all]
/-- going back along two chains that end alike -/
structure Bk (S T : List (List Int)) (n m : Nat) : Prop where
  ns : n ≤ S.length
  mt : m ≤ T.length
  eq : chnT (S.take n) = chnT (T.take m)
  rest : S.drop n = T.drop m
set_option maxRecDepth 100000 in
theorem bk_begin {S T : List (List Int)} (h : chnT S = chnT T) : Bk S T S.length T.length := ⟨Nat.le_refl _, Nat.le_refl _, by rw [List.take_length, List.take_length]; exact h, by rw [List.drop_length, List.drop_length]⟩
set_option maxRecDepth 100000 in
theorem bk_link {S T : List (List Int)} {n m : Nat} (h : Bk S T (n + 1) (m + 1)) (hne : linkL (S.take (n + 1)) ≠ linkL (T.take (m + 1))) : clashB (linkL (S.take (n + 1))) (linkL (T.take (m + 1))) 256 = true := by
  rw [clashB_iff]
  refine ⟨hne, ?_⟩
  rw [link_sum S n (by have := h.ns; omega), link_sum T m (by have := h.mt; omega), h.eq]
set_option maxRecDepth 100000 in
theorem link_parts {S T : List (List Int)} {n m : Nat} (hn : n < S.length) (hm : m < T.length) (h : linkL (S.take (n + 1)) = linkL (T.take (m + 1))) : chnT (S.take n) = chnT (T.take m) ∧ leafL (S.getD n []) 256 = leafL (T.getD m []) 256 := by
  rw [link_at S n hn, link_at T m hm] at h
  have h1 := List.append_inj (List.cons.inj h).2 (by rw [(chnT_dg _).1, (chnT_dg _).1])
  exact h1
set_option maxRecDepth 100000 in
theorem bk_text {S T : List (List Int)} {n m : Nat} (h : Bk S T (n + 1) (m + 1)) (he : linkL (S.take (n + 1)) = linkL (T.take (m + 1))) (hne : S.getD n [] ≠ T.getD m []) : clashB (0 :: S.getD n []) (0 :: T.getD m []) 256 = true := by
  rw [clashB_iff]
  exact ⟨fun e => hne (List.cons.inj e).2, (link_parts (by have := h.ns; omega) (by have := h.mt; omega) he).2⟩
set_option maxRecDepth 100000 in
theorem drop_at (S : List (List Int)) (n : Nat) (h : n < S.length) : S.drop n = S.getD n [] :: S.drop (n + 1) := by
  rw [List.getD_eq_getElem?_getD, List.getElem?_eq_getElem h]; exact List.drop_eq_getElem_cons h
set_option maxRecDepth 100000 in
theorem bk_step {S T : List (List Int)} {n m : Nat} (h : Bk S T (n + 1) (m + 1)) (he : linkL (S.take (n + 1)) = linkL (T.take (m + 1))) (hs : S.getD n [] = T.getD m []) : Bk S T n m := by
  have h1 := h.ns
  have h2 := h.mt
  exact ⟨by omega, by omega, (link_parts (by omega) (by omega) he).1, by rw [drop_at S n (by omega), drop_at T m (by omega), hs, h.rest]⟩
set_option maxRecDepth 100000 in
theorem bk_nought {S T : List (List Int)} {n : Nat} (h : Bk S T (n + 1) 0) : sumL (linkL (S.take (n + 1))) = dz := by
  rw [link_sum S n (by have := h.ns; omega), h.eq]; rfl
set_option maxRecDepth 100000 in
theorem bk_nought' {S T : List (List Int)} {m : Nat} (h : Bk S T 0 (m + 1)) : sumL (linkL (T.take (m + 1))) = dz := by
  rw [link_sum T m (by have := h.mt; omega), ← h.eq]; rfl
set_option maxRecDepth 100000 in
theorem bk_both {S T : List (List Int)} (h : Bk S T 0 0) : S = T := by have := h.rest; rwa [List.drop_zero, List.drop_zero] at this
end Go.Proofs.YtbednfacipphhaaDoor
