/- The law ShaKnown returns true (P2.2): the standard's own examples come to the sums that it gives. The package's table is as the program's text lays it (the card ties it). -/
import Derived.Test.YtegcoilkdnmhoaaDoorDoor
import Derived.Test.YtegcoilkdnmhoaaDoorShaSum
import Derived.Test.YtegcoilkdnmhoaaDoorNobody
import Derived.Lib.SlBytesConst
import Derived.WalkKit
import Derived.ShutString
import Derived.ChangeOld
import Derived.Below
namespace Go.Proofs.YtegcoilkdnmhoaaDoor.shaKnown
open Go.ChangeShapes Go.WideShapes Go.ChangeAt Go.RowKit
open Go.ChangeMaps (open_string shut_string)
set_option linter.unusedVariables false



def longL : List Int := [97, 98, 99, 100, 98, 99, 100, 101, 99, 100, 101, 102, 100, 101, 102, 103, 101, 102, 103, 104, 102, 103, 104, 105, 103, 104, 105, 106, 104, 105, 106, 107, 105, 106, 107, 108, 106, 107, 108, 109, 107, 108, 109, 110, 108, 109, 110, 111, 109, 110, 111, 112, 110, 111, 112, 113]
theorem longL_byt : Byt longL := by
  intro c hc
  have : longL.all (fun c => decide (0 ≤ c) && decide (c ≤ 255)) = true := by decide +kernel
  have := List.all_eq_true.1 this c hc
  simpa using this
set_option maxRecDepth 100000 in
theorem sum_known0 : sumL [] = [227, 176, 196, 66, 152, 252, 28, 20, 154, 251, 244, 200, 153, 111, 185, 36, 39, 174, 65, 228, 100, 155, 147, 76, 164, 149, 153, 27, 120, 82, 184, 85] := by decide +kernel
set_option maxRecDepth 100000 in
theorem sum_known1 : sumL [97, 98, 99] = [186, 120, 22, 191, 143, 1, 207, 234, 65, 65, 64, 222, 93, 174, 34, 35, 176, 3, 97, 163, 150, 23, 122, 156, 180, 16, 255, 97, 242, 0, 21, 173] := by decide +kernel
set_option maxRecDepth 100000 in
theorem sum_known2 : sumL longL = [36, 141, 106, 97, 210, 6, 56, 184, 229, 192, 38, 147, 12, 62, 96, 57, 163, 60, 228, 89, 100, 255, 33, 103, 246, 236, 237, 212, 25, 219, 6, 193] := by decide +kernel
theorem head_slice (g : Nat) (w : World) : (Instr.sliceAt 26 (.pointer (some ⟨g, 0, none⟩)) none (some (.int .i64 4)) none).run Tryd.prog w = .ok (.slice (some ⟨g, 0, none⟩) 4 32) w := by
  have hlen : Tryd.prog.arrayLen 26 = 32 := by kernel_rfl
  have ht : Tryd.prog.underlying 26 = some (.array (Tryd.prog.arrayLen 26) (Tryd.prog.elem 26)) := by kernel_rfl
  have hsz : (sizeOf (Tryd.prog.elem 26)).run Tryd.prog w = .ok 1 w := by kernel_rfl
  rw [run_sliceAt_array_h w 26 ⟨g, 0, none⟩ ht .i64 _ (by omega) (by rw [hlen]; decide), hsz, hlen]
  simp only [Result.andThen_ok, slicedAt]
  rw [if_neg (by omega), Addr.add_lit]
  rfl
theorem tail_slice (g : Nat) (w : World) : (Instr.sliceAt 26 (.pointer (some ⟨g, 0, none⟩)) (some (.int .i64 28)) none none).run Tryd.prog w = .ok (.slice (some ⟨g, 28, none⟩) 4 4) w := by
  have hlen : Tryd.prog.arrayLen 26 = 32 := by kernel_rfl
  have ht : Tryd.prog.underlying 26 = some (.array (Tryd.prog.arrayLen 26) (Tryd.prog.elem 26)) := by kernel_rfl
  have hsz : (sizeOf (Tryd.prog.elem 26)).run Tryd.prog w = .ok 1 w := by kernel_rfl
  rw [run_sliceAt_array_l w 26 ⟨g, 0, none⟩ ht .i64 _ (by omega) (by rw [hlen]; decide), hsz, hlen]
  simp only [Result.andThen_ok, slicedAt]
  rw [if_neg (by decide), Addr.add_lit]
  rfl
/-- four bytes of a row as a string -/
theorem four_str {w : World} {g o cap : Nat} {d : List Int} {t : TypeId} (h : w.heap[g]? = some (.cells (bv d).toArray t (0, 0))) (hl : d.length = 32) (ho : o + 4 ≤ 32) (b0 b1 b2 b3 : UInt8)
    (h0 : d.getD o 0 = b0.toNat) (h1 : d.getD (o + 1) 0 = b1.toNat) (h2 : d.getD (o + 2) 0 = b2.toNat) (h3 : d.getD (o + 3) 0 = b3.toNat) :
    (convert 22 9 (.slice (some ⟨g, o, none⟩) 4 cap)).run Tryd.prog w = .ok (.string ⟨#[b0, b1, b2, b3]⟩) w := by
  refine run_convert_bytes_back w 22 9 5 ⟨g, o, none⟩ cap [b0, b1, b2, b3] Tryd.underlying22 Tryd.underlying5 Tryd.underlying9 ?_
  intro j hj
  have hj4 : j < 4 := hj
  have hc := bv_cell h (o + j) (by omega)
  rw [Addr.add_lit, hc]
  rcases (by omega : j = 0 ∨ j = 1 ∨ j = 2 ∨ j = 3) with rfl | rfl | rfl | rfl
  · rw [Nat.add_zero, h0]; rfl
  · rw [h1]; rfl
  · rw [h2]; rfl
  · rw [h3]; rfl
/-- bytes of a constant string, as they lie -/
theorem bts_const (w : World) (l : List Int) (hb : Byt l) (fr : Nat × Nat) (hm : l.length ≤ maxLen) : Bts (w.alloc (.cells (bv l).toArray 5 fr)) (some ⟨w.heap.size, 0, none⟩) l.length l.length l := by
  refine ⟨rfl, hb, Nat.le_refl _, hm, (fun hh => by cases hh), fun _ => ⟨w.heap.size, 0, rfl, by simp, fun i hi => ?_⟩⟩
  rw [Nat.zero_add, World.cell?_alloc_mark, List.getElem?_toArray]
  unfold bv; rw [List.getElem?_map, List.getElem?_eq_getElem hi, List.getD_eq_getElem?_getD, List.getElem?_eq_getElem hi]; rfl
theorem set_other {w : World} {g k : Nat} (hk : k ≠ g) (vs : List Value) (hl : k < w.heap.size) : (w.setCells g 0 vs).heap[k]? = w.heap[k]? := ((But.refl g w).setCells vs 0).block k hl hk
theorem set_size {w : World} (g : Nat) (vs : List Value) : w.heap.size ≤ (w.setCells g 0 vs).heap.size := ((But.refl g w).setCells vs 0).size
/-- three digests, each in a place of its own -/
structure Three (w W : World) (A B C : Nat) (D0 D1 D2 : Array Value) : Prop where
  low : Below w.heap.size w W
  a : W.heap[A]? = some (.cells D0 26 (0, 0))
  b : W.heap[B]? = some (.cells D1 26 (0, 0))
  c : W.heap[C]? = some (.cells D2 26 (0, 0))
theorem three_there (w6 : World) (A : Nat) (D : Array Value) (h : w6.heap[A]? = some (.cells z32 26 (0, 0))) (hD : D.size = 32) : w6.there A 0 D.size := by
  have := there_row h
  rw [zero_size, ← hD] at this; exact this
theorem three_rows (w w6 w7 w8 : World) (D0 D1 D2 : Array Value) (e6 : w6 = w.alloc (.cells z32 26)) (e7 : w7 = w6.alloc (.cells z32 26)) (e8 : w8 = w7.alloc (.cells z32 26)) (h0 : D0.size = 32) (h1 : D1.size = 32) (h2 : D2.size = 32) :
    w8.there w.heap.size 0 D0.size ∧ (w8.setCells w.heap.size 0 D0.toList).there w6.heap.size 0 D1.size ∧ ((w8.setCells w.heap.size 0 D0.toList).setCells w6.heap.size 0 D1.toList).there w7.heap.size 0 D2.size ∧
    Three w (((w8.setCells w.heap.size 0 D0.toList).setCells w6.heap.size 0 D1.toList).setCells w7.heap.size 0 D2.toList) w.heap.size w6.heap.size w7.heap.size D0 D1 D2 := by
  have s6 : w6.heap.size = w.heap.size + 1 := by rw [e6]; simp
  have s7 : w7.heap.size = w.heap.size + 2 := by rw [e7]; simp [s6]
  have s8 : w8.heap.size = w.heap.size + 3 := by rw [e8]; simp [s7]
  have a8 : w8.heap[w.heap.size]? = some (.cells z32 26 (0, 0)) := by
    rw [e8, heap_alloc_old _ _ (by omega), e7, heap_alloc_old _ _ (by omega), e6, heap_alloc_new]
  have b8 : w8.heap[w6.heap.size]? = some (.cells z32 26 (0, 0)) := by
    rw [e8, heap_alloc_old _ _ (by omega), e7, heap_alloc_new]
  have c8 : w8.heap[w7.heap.size]? = some (.cells z32 26 (0, 0)) := by rw [e8, heap_alloc_new]
  have low8 : Below w.heap.size w w8 := by
    rw [e8, e7, e6]
    exact (((Below.refl _ _).alloc (Nat.le_refl _) _).alloc (by simp) _).alloc (by simp; omega) _
  have z9 := set_size (w := w8) w.heap.size D0.toList
  have z10 := set_size (w := w8.setCells w.heap.size 0 D0.toList) w6.heap.size D1.toList
  have a9 : (w8.setCells w.heap.size 0 D0.toList).heap[w.heap.size]? = some (.cells D0 26 (0, 0)) := heap_stored (vs := D0) a8 (by rw [h0, zero_size])
  have b9 : (w8.setCells w.heap.size 0 D0.toList).heap[w6.heap.size]? = some (.cells z32 26 (0, 0)) := by rw [set_other (by omega) _ (by omega)]; exact b8
  have c9 : (w8.setCells w.heap.size 0 D0.toList).heap[w7.heap.size]? = some (.cells z32 26 (0, 0)) := by rw [set_other (by omega) _ (by omega)]; exact c8
  have a10 : ((w8.setCells w.heap.size 0 D0.toList).setCells w6.heap.size 0 D1.toList).heap[w.heap.size]? = some (.cells D0 26 (0, 0)) := by rw [set_other (by omega) _ (by omega)]; exact a9
  have b10 : ((w8.setCells w.heap.size 0 D0.toList).setCells w6.heap.size 0 D1.toList).heap[w6.heap.size]? = some (.cells D1 26 (0, 0)) := heap_stored (vs := D1) b9 (by rw [h1, zero_size])
  have c10 : ((w8.setCells w.heap.size 0 D0.toList).setCells w6.heap.size 0 D1.toList).heap[w7.heap.size]? = some (.cells z32 26 (0, 0)) := by rw [set_other (by omega) _ (by omega)]; exact c9
  refine ⟨three_there _ _ _ a8 h0, three_there _ _ _ b9 h1, three_there _ _ _ c10 h2, ?_, ?_, ?_, ?_⟩
  · exact below_setCells (below_setCells (below_setCells low8 _ (Nat.le_refl _) _ _) _ (by omega) _ _) _ (by omega) _ _
  · rw [set_other (by omega) _ (by omega)]; exact a10
  · rw [set_other (by omega) _ (by omega)]; exact b10
  · exact heap_stored (vs := D2) c10 (by rw [h2, zero_size])
theorem cat_str (a b c : Array UInt8) : ((({ data := a } : ByteArray) ++ { data := b }) ++ { data := c }).toList = a.toList ++ (b.toList ++ c.toList) := by
  rw [ByteArray.toList_eq]; simp

set_option maxRecDepth 100000 in
set_option maxHeartbeats 1000000 in
theorem walk  (w : World) (htab : Tab w) :
    Calls Tryd.prog 7 #[] w fun e w' => e = .returned (.bool true) ∧ Below w.heap.size w w' := by
  have hb1 : Below w.heap.size w (w.alloc (.cells #[.int .u8 97, .int .u8 98, .int .u8 99, .int .u8 100, .int .u8 98, .int .u8 99, .int .u8 100, .int .u8 101, .int .u8 99, .int .u8 100, .int .u8 101, .int .u8 102, .int .u8 100, .int .u8 101, .int .u8 102, .int .u8 103, .int .u8 101, .int .u8 102, .int .u8 103, .int .u8 104, .int .u8 102, .int .u8 103, .int .u8 104, .int .u8 105, .int .u8 103, .int .u8 104, .int .u8 105, .int .u8 106, .int .u8 104, .int .u8 105, .int .u8 106, .int .u8 107, .int .u8 105, .int .u8 106, .int .u8 107, .int .u8 108, .int .u8 106, .int .u8 107, .int .u8 108, .int .u8 109, .int .u8 107, .int .u8 108, .int .u8 109, .int .u8 110, .int .u8 108, .int .u8 109, .int .u8 110, .int .u8 111, .int .u8 109, .int .u8 110, .int .u8 111, .int .u8 112, .int .u8 110, .int .u8 111, .int .u8 112, .int .u8 113] 5 (56, 57))) := (Below.refl _ _).alloc (Nat.le_refl _) _
  have hm1 : Bts (w.alloc (.cells #[.int .u8 97, .int .u8 98, .int .u8 99, .int .u8 100, .int .u8 98, .int .u8 99, .int .u8 100, .int .u8 101, .int .u8 99, .int .u8 100, .int .u8 101, .int .u8 102, .int .u8 100, .int .u8 101, .int .u8 102, .int .u8 103, .int .u8 101, .int .u8 102, .int .u8 103, .int .u8 104, .int .u8 102, .int .u8 103, .int .u8 104, .int .u8 105, .int .u8 103, .int .u8 104, .int .u8 105, .int .u8 106, .int .u8 104, .int .u8 105, .int .u8 106, .int .u8 107, .int .u8 105, .int .u8 106, .int .u8 107, .int .u8 108, .int .u8 106, .int .u8 107, .int .u8 108, .int .u8 109, .int .u8 107, .int .u8 108, .int .u8 109, .int .u8 110, .int .u8 108, .int .u8 109, .int .u8 110, .int .u8 111, .int .u8 109, .int .u8 110, .int .u8 111, .int .u8 112, .int .u8 110, .int .u8 111, .int .u8 112, .int .u8 113] 5 (56, 57))) (some ⟨w.heap.size, 0, none⟩) 56 56 longL := bts_const w longL longL_byt (56, 57) (by unfold maxLen; decide)
  have ht1 := htab.below hb1
  have hcv : (convert 22 22 (.slice (some ⟨w.heap.size, 0, none⟩) 56 56)).run Tryd.prog (w.alloc (.cells #[.int .u8 97, .int .u8 98, .int .u8 99, .int .u8 100, .int .u8 98, .int .u8 99, .int .u8 100, .int .u8 101, .int .u8 99, .int .u8 100, .int .u8 101, .int .u8 102, .int .u8 100, .int .u8 101, .int .u8 102, .int .u8 103, .int .u8 101, .int .u8 102, .int .u8 103, .int .u8 104, .int .u8 102, .int .u8 103, .int .u8 104, .int .u8 105, .int .u8 103, .int .u8 104, .int .u8 105, .int .u8 106, .int .u8 104, .int .u8 105, .int .u8 106, .int .u8 107, .int .u8 105, .int .u8 106, .int .u8 107, .int .u8 108, .int .u8 106, .int .u8 107, .int .u8 108, .int .u8 109, .int .u8 107, .int .u8 108, .int .u8 109, .int .u8 110, .int .u8 108, .int .u8 109, .int .u8 110, .int .u8 111, .int .u8 109, .int .u8 110, .int .u8 111, .int .u8 112, .int .u8 110, .int .u8 111, .int .u8 112, .int .u8 113] 5)) = .ok (.slice (some ⟨w.heap.size, 0, none⟩) 56 56) (w.alloc (.cells #[.int .u8 97, .int .u8 98, .int .u8 99, .int .u8 100, .int .u8 98, .int .u8 99, .int .u8 100, .int .u8 101, .int .u8 99, .int .u8 100, .int .u8 101, .int .u8 102, .int .u8 100, .int .u8 101, .int .u8 102, .int .u8 103, .int .u8 101, .int .u8 102, .int .u8 103, .int .u8 104, .int .u8 102, .int .u8 103, .int .u8 104, .int .u8 105, .int .u8 103, .int .u8 104, .int .u8 105, .int .u8 106, .int .u8 104, .int .u8 105, .int .u8 106, .int .u8 107, .int .u8 105, .int .u8 106, .int .u8 107, .int .u8 108, .int .u8 106, .int .u8 107, .int .u8 108, .int .u8 109, .int .u8 107, .int .u8 108, .int .u8 109, .int .u8 110, .int .u8 108, .int .u8 109, .int .u8 110, .int .u8 111, .int .u8 109, .int .u8 110, .int .u8 111, .int .u8 112, .int .u8 110, .int .u8 111, .int .u8 112, .int .u8 113] 5 (56, 57))) := Lib.run_convert_bytes_const w 22 5 _ 56 56 Tryd.underlying22 Tryd.underlying5
  go_enter Tryd.func7, Tryd.ntmps7
  go_wp2_with fail
  generalize w.alloc (.cells #[.int .u8 97, .int .u8 98, .int .u8 99, .int .u8 100, .int .u8 98, .int .u8 99, .int .u8 100, .int .u8 101, .int .u8 99, .int .u8 100, .int .u8 101, .int .u8 102, .int .u8 100, .int .u8 101, .int .u8 102, .int .u8 103, .int .u8 101, .int .u8 102, .int .u8 103, .int .u8 104, .int .u8 102, .int .u8 103, .int .u8 104, .int .u8 105, .int .u8 103, .int .u8 104, .int .u8 105, .int .u8 106, .int .u8 104, .int .u8 105, .int .u8 106, .int .u8 107, .int .u8 105, .int .u8 106, .int .u8 107, .int .u8 108, .int .u8 106, .int .u8 107, .int .u8 108, .int .u8 109, .int .u8 107, .int .u8 108, .int .u8 109, .int .u8 110, .int .u8 108, .int .u8 109, .int .u8 110, .int .u8 111, .int .u8 109, .int .u8 110, .int .u8 111, .int .u8 112, .int .u8 110, .int .u8 111, .int .u8 112, .int .u8 113] 5 (56, 57)) = w1 at hb1 hm1 ht1 ⊢
  clear hcv
  refine (sum_any none 0 0 [] _ (Bts.none rfl) ht1 (by omega)).mono ?_
  rintro e w2 ⟨rfl, hb2⟩
  have hm2 := hm1.below hb2
  have ht2 := ht1.below hb2
  have hbb2 := hb1.trans (hb2.mono hb1.size)
  clear hm1 ht1 hb1 hb2
  have hb3 : Below w2.heap.size w2 (w2.alloc (.cells #[.int .u8 97, .int .u8 98, .int .u8 99] 5 (3, 4))) := (Below.refl _ _).alloc (Nat.le_refl _) _
  have hm3 : Bts (w2.alloc (.cells #[.int .u8 97, .int .u8 98, .int .u8 99] 5 (3, 4))) (some ⟨w2.heap.size, 0, none⟩) 3 3 [97, 98, 99] := bts_const w2 [97, 98, 99] (by intro c hc; simp at hc; rcases hc with rfl | rfl | rfl <;> decide) (3, 4) (by unfold maxLen; decide)
  have hcv : (convert 22 22 (.slice (some ⟨w2.heap.size, 0, none⟩) 3 3)).run Tryd.prog (w2.alloc (.cells #[.int .u8 97, .int .u8 98, .int .u8 99] 5)) = .ok (.slice (some ⟨w2.heap.size, 0, none⟩) 3 3) (w2.alloc (.cells #[.int .u8 97, .int .u8 98, .int .u8 99] 5 (3, 4))) := Lib.run_convert_bytes_const w2 22 5 _ 3 3 Tryd.underlying22 Tryd.underlying5
  have hm3' := hm2.below hb3
  have ht3 := ht2.below hb3
  have hbb3 := hbb2.trans (hb3.mono hbb2.size)
  have E0 : Bx (sumL [] = _) := ⟨sum_known0⟩
  have hl0 : (sumL []).length = 32 := sumL_length _
  generalize sumL [] = d0 at E0 hl0 ⊢
  go_wp2_with fail
  generalize w2.alloc (.cells #[.int .u8 97, .int .u8 98, .int .u8 99] 5 (3, 4)) = w3 at hb3 hm3 hm3' ht3 hbb3 ⊢
  clear hcv
  refine (sum_any _ _ _ [97, 98, 99] _ hm3 ht3 (by omega)).mono ?_
  rintro e w4 ⟨rfl, hb4⟩
  have hm4 := hm3'.below hb4
  have ht4 := ht3.below hb4
  have hbb4 := hbb3.trans (hb4.mono hbb3.size)
  clear hm2 ht2 hbb2 hb3 hm3 hm3' ht3 hbb3 hb4
  have E1 : Bx (sumL [97, 98, 99] = _) := ⟨sum_known1⟩
  have hl1 : (sumL [97, 98, 99]).length = 32 := sumL_length _
  generalize sumL [97, 98, 99] = d1 at E1 hl1 ⊢
  go_wp2_with fail
  refine (sum_any _ _ _ longL _ hm4 ht4 (by omega)).mono ?_
  rintro e w5 ⟨rfl, hb5⟩
  have ht5 := ht4.below hb5
  have hbb5 := hbb4.trans (hb5.mono hbb4.size)
  clear hm4 ht4 hbb4 hb5
  have E2 : Bx (sumL longL = _) := ⟨sum_known2⟩
  have hl2 : (sumL longL).length = 32 := sumL_length _
  generalize sumL longL = d2 at E2 hl2 ⊢
  simp only []
  go_step
  have n0 : (bv d0).toArray.size = 32 := by rw [List.size_toArray, bv_length, hl0]
  have n1 : (bv d1).toArray.size = 32 := by rw [List.size_toArray, bv_length, hl1]
  have n2 : (bv d2).toArray.size = 32 := by rw [List.size_toArray, bv_length, hl2]
  have I0 : (Tryd.prog.info? 26).map (·.size) = some (bv d0).toArray.size := by rw [n0]; exact dig_info
  have I1 : (Tryd.prog.info? 26).map (·.size) = some (bv d1).toArray.size := by rw [n1]; exact dig_info
  have I2 : (Tryd.prog.info? 26).map (·.size) = some (bv d2).toArray.size := by rw [n2]; exact dig_info
  refine wpList_runOp rfl (.alloc 26) rfl (.pointer (some ⟨w5.heap.size, 0, none⟩)) (w5.alloc (.cells z32 26)) (by kernel_rfl) ?_
  generalize e6 : w5.alloc (.cells z32 26) = w6
  refine wpList_runOp rfl (.alloc 26) rfl (.pointer (some ⟨w6.heap.size, 0, none⟩)) (w6.alloc (.cells z32 26)) (by kernel_rfl) ?_
  generalize e7 : w6.alloc (.cells z32 26) = w7
  refine wpList_runOp rfl (.alloc 26) rfl (.pointer (some ⟨w7.heap.size, 0, none⟩)) (w7.alloc (.cells z32 26)) (by kernel_rfl) ?_
  generalize e8 : w7.alloc (.cells z32 26) = w8
  obtain ⟨T0, T1, T2, T3⟩ := three_rows w5 w6 w7 w8 (bv d0).toArray (bv d1).toArray (bv d2).toArray e6.symm e7.symm e8.symm n0 n1 n2
  refine wpList_store_mid rfl 26 (.tmp 2) (.tmp 9) rfl w5.heap.size 0 (bv d0).toArray rfl rfl T0 I0 (all_oneCell_toArray (bv_one _)) ?_
  refine wpList_store_mid rfl 26 (.tmp 3) (.tmp 12) rfl w6.heap.size 0 (bv d1).toArray rfl rfl T1 I1 (all_oneCell_toArray (bv_one _)) ?_
  refine wpList_store_mid rfl 26 (.tmp 4) (.tmp 14) rfl w7.heap.size 0 (bv d2).toArray rfl rfl T2 I2 (all_oneCell_toArray (bv_one _)) ?_
  generalize ((w8.setCells w5.heap.size 0 (bv d0).toArray.toList).setCells w6.heap.size 0 (bv d1).toArray.toList).setCells w7.heap.size 0 (bv d2).toArray.toList = W at T3 ⊢
  clear T0 T1 T2 e6 e7 e8 I0 I1 I2 n0 n1 n2
  have ht9 := ht5.below T3.low
  have hlow9 := hbb5.trans (T3.low.mono hbb5.size)
  generalize w5.heap.size = A at T3 ⊢
  generalize w6.heap.size = B at T3 ⊢
  generalize w7.heap.size = C at T3 ⊢
  have sA := head_slice A
  have sB := head_slice B
  have sC := head_slice C
  have vA : ∀ q, (convert 22 9 (.slice (some ⟨A, 0, none⟩) 4 32)).run Tryd.prog (W.drewN q) = .ok (.string ⟨#[227, 176, 196, 66]⟩) (W.drewN q) := fun q => four_str (w := W.drewN q) (o := 0) (cap := 32) T3.a hl0 (by decide) 227 176 196 66 (by rw [E0.out]; rfl) (by rw [E0.out]; rfl) (by rw [E0.out]; rfl) (by rw [E0.out]; rfl)
  have vB : ∀ q, (convert 22 9 (.slice (some ⟨B, 0, none⟩) 4 32)).run Tryd.prog (W.drewN q) = .ok (.string ⟨#[186, 120, 22, 191]⟩) (W.drewN q) := fun q => four_str (w := W.drewN q) (o := 0) (cap := 32) T3.b hl1 (by decide) 186 120 22 191 (by rw [E1.out]; rfl) (by rw [E1.out]; rfl) (by rw [E1.out]; rfl) (by rw [E1.out]; rfl)
  have vC : ∀ q, (convert 22 9 (.slice (some ⟨C, 0, none⟩) 4 32)).run Tryd.prog (W.drewN q) = .ok (.string ⟨#[36, 141, 106, 97]⟩) (W.drewN q) := fun q => four_str (w := W.drewN q) (o := 0) (cap := 32) T3.c hl2 (by decide) 36 141 106 97 (by rw [E2.out]; rfl) (by rw [E2.out]; rfl) (by rw [E2.out]; rfl) (by rw [E2.out]; rfl)
  have wA := vA 1
  have wB := vB 1
  have wC := vC 1
  have xA := vA 0
  have xB := vB 0
  have xC := vC 0
  change (convert 22 9 (.slice (some ⟨A, 0, none⟩) 4 32)).run Tryd.prog W.drew = .ok _ W.drew at wA
  change (convert 22 9 (.slice (some ⟨B, 0, none⟩) 4 32)).run Tryd.prog W.drew = .ok _ W.drew at wB
  change (convert 22 9 (.slice (some ⟨C, 0, none⟩) 4 32)).run Tryd.prog W.drew = .ok _ W.drew at wC
  change (convert 22 9 (.slice (some ⟨A, 0, none⟩) 4 32)).run Tryd.prog W = .ok _ W at xA
  change (convert 22 9 (.slice (some ⟨B, 0, none⟩) 4 32)).run Tryd.prog W = .ok _ W at xB
  change (convert 22 9 (.slice (some ⟨C, 0, none⟩) 4 32)).run Tryd.prog W = .ok _ W at xC
  generalize (bv d0).toArray = G0
  generalize (bv d1).toArray = G1
  generalize (bv d2).toArray = G2
  go_wp2
  go_quiet (fail)
  have S1 := cat_str #[227, 176, 196, 66] #[186, 120, 22, 191] #[36, 141, 106, 97]
  generalize (({ data := #[227, 176, 196, 66] } : ByteArray) ++ { data := #[186, 120, 22, 191] }) ++ { data := #[36, 141, 106, 97] } = s1 at S1 ⊢
  have T4 : Three w5 (W.drewN nq) A B C (bv d0).toArray (bv d1).toArray (bv d2).toArray := ⟨below_drewN T3.low nq, T3.a, T3.b, T3.c⟩
  have ht10 := ht9.drewN nq
  have hlow10 := below_drewN hlow9 nq
  clear vA vB vC wA wB wC xA xB xC T3 ht9 hlow9 sA sB sC
  generalize W.drewN nq = X at T4 ht10 hlow10 ⊢
  have sA := tail_slice A
  have sB := tail_slice B
  have sC := tail_slice C
  have vA : ∀ q, (convert 22 9 (.slice (some ⟨A, 28, none⟩) 4 4)).run Tryd.prog (X.drewN q) = .ok (.string ⟨#[120, 82, 184, 85]⟩) (X.drewN q) := fun q => four_str (w := X.drewN q) (o := 28) (cap := 4) T4.a hl0 (by decide) 120 82 184 85 (by rw [E0.out]; rfl) (by rw [E0.out]; rfl) (by rw [E0.out]; rfl) (by rw [E0.out]; rfl)
  have vB : ∀ q, (convert 22 9 (.slice (some ⟨B, 28, none⟩) 4 4)).run Tryd.prog (X.drewN q) = .ok (.string ⟨#[242, 0, 21, 173]⟩) (X.drewN q) := fun q => four_str (w := X.drewN q) (o := 28) (cap := 4) T4.b hl1 (by decide) 242 0 21 173 (by rw [E1.out]; rfl) (by rw [E1.out]; rfl) (by rw [E1.out]; rfl) (by rw [E1.out]; rfl)
  have vC : ∀ q, (convert 22 9 (.slice (some ⟨C, 28, none⟩) 4 4)).run Tryd.prog (X.drewN q) = .ok (.string ⟨#[25, 219, 6, 193]⟩) (X.drewN q) := fun q => four_str (w := X.drewN q) (o := 28) (cap := 4) T4.c hl2 (by decide) 25 219 6 193 (by rw [E2.out]; rfl) (by rw [E2.out]; rfl) (by rw [E2.out]; rfl) (by rw [E2.out]; rfl)
  have wA := vA 1
  have wB := vB 1
  have wC := vC 1
  have xA := vA 0
  have xB := vB 0
  have xC := vC 0
  change (convert 22 9 (.slice (some ⟨A, 28, none⟩) 4 4)).run Tryd.prog X.drew = .ok _ X.drew at wA
  change (convert 22 9 (.slice (some ⟨B, 28, none⟩) 4 4)).run Tryd.prog X.drew = .ok _ X.drew at wB
  change (convert 22 9 (.slice (some ⟨C, 28, none⟩) 4 4)).run Tryd.prog X.drew = .ok _ X.drew at wC
  change (convert 22 9 (.slice (some ⟨A, 28, none⟩) 4 4)).run Tryd.prog X = .ok _ X at xA
  change (convert 22 9 (.slice (some ⟨B, 28, none⟩) 4 4)).run Tryd.prog X = .ok _ X at xB
  change (convert 22 9 (.slice (some ⟨C, 28, none⟩) 4 4)).run Tryd.prog X = .ok _ X at xC
  go_wp2
  go_quiet (fail)
  have S2 := cat_str #[120, 82, 184, 85] #[242, 0, 21, 173] #[25, 219, 6, 193]
  generalize (({ data := #[120, 82, 184, 85] } : ByteArray) ++ { data := #[242, 0, 21, 173] }) ++ { data := #[25, 219, 6, 193] } = s2 at S2 ⊢
  have ht11 := ht10.drewN nq
  have hlow11 := below_drewN hlow10 nq
  clear vA vB vC wA wB wC xA xB xC T4 ht10 hlow10 sA sB sC
  generalize X.drewN nq = Y at ht11 hlow11 ⊢
  go_wp2_with fail
  refine (lives_any _ ht11).mono ?_
  rintro e w9 ⟨rfl, hb9⟩
  go_wp2
  go_ret
  exact ⟨rfl, hlow11.trans (hb9.mono hlow11.size)⟩

/-- what the walk gives, for every argument and every world that holds the table -/
theorem contract (H : Type) (enc : TypeId × Value → H) (W : World) (base : Nat) (args : Array Value) (ds gs : List (DataW H)) (before : List MemPlace)
    (hval0 : ∀ (j : Nat) t v, Tryd.f7.params[j]? = some t → args[j]? = some v → Value.okWide Tryd.prog W .any base t v)
    (hW : DataW.Whole enc Tryd.prog Tryd.f7.params.toList Rows.shaKnownSpec.vars false W args.toList ds gs before) (hL : laidMetH Tryd.prog Rows.shaKnownRow.laid W) :
    Calls Tryd.prog 7 args W fun e W' => ∃ v, e = .returned v ∧ Rows.shaKnownSpec.post enc Tryd.prog Tryd.f7 false true false false W args v W' := by
  have htab := tab_of_laid hL
  have hval : ∀ (j : Nat) t v, Tryd.f7.params[j]? = some t → args[j]? = some v → Value.okWide Tryd.prog W .any base t v := hval0
  have hW' := hW
  obtain ⟨p, q, hA0, hV, rfl, hfz, hnd⟩ := hW
  have hA : DataW.TrodAll enc Tryd.prog W 0 (fun _ => true) true Tryd.f7.params.toList args.toList ds p := hA0
  rw [Tryd.params7] at hA hval
  obtain ⟨rfl, rfl, rfl⟩ := trodAll_none hA
  obtain ⟨rfl, rfl⟩ := trodVars_none hV
  clear hA0 hval0
  refine (walk W htab).mono fun e W' ⟨he, bel⟩ => ?_
  subst he
  exact ⟨_, rfl, _, _, _, [], _, [], hW', trodAll_mk1 (shut_bool Tryd.underlying4 _), rfl, rfl, bel.frame _, fun h => by cases h⟩

set_option maxRecDepth 100000 in
theorem laid_met (os : Os) : laidMet Tryd.prog Rows.shaKnownRow.laid (({ World.holding Tryd.prog os ⟨#[], #[], []⟩ with heap := (World.holding Tryd.prog os ⟨#[], #[], []⟩).heap.setIfInBounds 0 (.cells (uv keyL).toArray 53) } : World).forCall (fun _ _ => 0) ⟨#[], #[], []⟩).memory :=
  laidMet_of_run' 8 (by kernel_rfl) (by kernel_rfl)
theorem reads (os : Os) {H : Type} (enc : TypeId × Value → H) : ∃ places, DataW.whole enc Tryd.prog (({ World.holding Tryd.prog os ⟨#[], #[], []⟩ with heap := (World.holding Tryd.prog os ⟨#[], #[], []⟩).heap.setIfInBounds 0 (.cells (uv keyL).toArray 53) } : World).forCall (fun _ _ => 0) ⟨#[], #[], []⟩).memory Tryd.f7.params.toList Rows.shaKnownSpec.vars false (#[] : Array Value).toList 8 = some ([], [], places) :=
  ⟨[], by kernel_rfl⟩
set_option maxRecDepth 100000 in
theorem lifted (os : Os) (started : os.Started) (H : Type) (enc : TypeId × Value → H) (F : Stop.Interp) :
    ReturnsInHanded {} Tryd.checked os 7 .any ((OpenSpec.ofChange Rows.shaKnownSpec).preRow enc Tryd.prog Tryd.f7 Rows.shaKnownRow.domain false Rows.shaKnownRow.laid) (((OpenSpec.ofChange Rows.shaKnownSpec).at F).post enc Tryd.prog Tryd.f7 false true false false) := by
  obtain ⟨places, hx⟩ := reads os enc
  refine returnsInHanded_of_row (C := Tryd.checked) (s := OpenSpec.ofChange Rows.shaKnownSpec) own started (by kernel_rfl) Tryd.func7
    (witness_row_at (enc := enc) (C := Tryd.checked) false ({ World.holding Tryd.prog os ⟨#[], #[], []⟩ with heap := (World.holding Tryd.prog os ⟨#[], #[], []⟩).heap.setIfInBounds 0 (.cells (uv keyL).toArray 53) } : World) #[] rfl (by kernel_rfl) (by kernel_rfl) (by kernel_rfl)
      (OpenSpec.preRow_of_cond 8 hx (by kernel_rfl) (fun k hk => by cases hk) (by kernel_rfl) (laid_met os))) ?_
  intro W base args ds gs before hval hW _ _ _ hL _ _
  exact contract H enc W base args ds gs before hval hW hL
theorem said : Rows.ShaKnownSaid :=
  OpenClaim.holds_of_cond 7 Tryd.f7 rfl rfl rfl rfl rfl rfl rfl ⟨rfl, rfl, rfl, rfl, rfl⟩ rfl rfl rfl rfl rfl (by kernel_rfl) Tryd.func7 (by kernel_rfl)
    (of_decide_eq_true (by kernel_rfl)) (by unfold Func.isWrapper; first | (rw [if_pos (by decide +kernel)]; kernel_rfl) | (rw [if_neg (by decide +kernel)]; exact ⟨rfl, rfl⟩))
    (fun os started H enc _ F => by rw [OpenClaim.pre_eq_preRow]; exact lifted os started H enc F)
theorem plain (f : FuncId) (fn : Func) (hf : Tryd.pinned.checked.prog.funcNamed "inquest/inquestlaw02.ShaKnown" = some f) (hfn : Tryd.pinned.checked.prog.funcs[f]? = some fn) :
    false = Tryd.pinned.checked.prog.looks [] ∧ ∀ (j : Nat) t, fn.params[j]? = some t → Tryd.pinned.checked.prog.wantsStandIn t = false := by
  obtain rfl : f = 7 := Option.some.inj ((show Tryd.prog.funcNamed "inquest/inquestlaw02.ShaKnown" = some 7 by kernel_rfl).symm.trans hf) |>.symm
  obtain rfl : fn = Tryd.f7 := (Option.some.inj (Tryd.func7.symm.trans hfn)).symm
  refine ⟨by kernel_rfl, fun j t ht => ?_⟩
  rw [Tryd.params7] at ht
  simp at ht
/-- the tied card -/
theorem card : Rows.ShaKnownCardSaid :=
  Claim7.holds_tied_plain_at .later [] _ _ _ _ said (fun _ h => by cases h) (by kernel_rfl) (fun _ h => by cases h) shaKnown_row_tie rfl ⟨rfl, rfl⟩ (by kernel_rfl) rfl plain (by kernel_rfl)
end Go.Proofs.YtegcoilkdnmhoaaDoor.shaKnown
namespace Go.Proofs.YtegcoilkdnmhoaaDoor
theorem shaKnown_holds : Rows.ShaKnownCardSaid := shaKnown.card
#print axioms shaKnown_holds
end Go.Proofs.YtegcoilkdnmhoaaDoor
