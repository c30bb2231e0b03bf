/- A list of digests in memory. -/
import Derived.Test.YtfkloilbjfleeaaDoorDig
import Derived.Test.YtfkloilbjfleeaaDoorSmd
namespace Go.Proofs.YtfkloilbjfleeaaDoor
open Go.RowKit
set_option linter.unusedVariables false

/-- the slice reads as the digests L in the world w -/
structure Dgs (w : World) (ao : Option Addr) (len cap : Nat) (L : List (List Int)) : Prop where
  len_eq : L.length = len
  dig : Dgl L
  le_cap : len ≤ cap
  cap_le : cap ≤ maxLen
  nil : ao = none → cap = 0
  spot : 0 < len → ∃ b off, ao = some ⟨b, off, none⟩ ∧ b < w.heap.size ∧ ∀ i, i < len → w.rangeAt b (off + 32 * i) (bv (L.getD i []))
theorem range_below {w w' : World} {b o : Nat} {vs : List Value} (h : w.rangeAt b o vs) (hb : Below w.heap.size w w') (hlt : b < w.heap.size) : w'.rangeAt b o vs := fun j v hj => (hb.cell hlt).trans (h j v hj)
theorem Dgs.below {w w' : World} {ao : Option Addr} {len cap : Nat} {L : List (List Int)} (h : Dgs w ao len cap L) (hb : Below w.heap.size w w') : Dgs w' ao len cap L :=
  ⟨h.len_eq, h.dig, h.le_cap, h.cap_le, h.nil, fun hp => by
    obtain ⟨b, off, e, hlt, hc⟩ := h.spot hp
    exact ⟨b, off, e, Nat.lt_of_lt_of_le hlt hb.size, fun i hi => range_below (hc i hi) hb hlt⟩⟩
theorem Dgs.drewN {w : World} {ao : Option Addr} {len cap : Nat} {L : List (List Int)} (h : Dgs w ao len cap L) (n : Nat) : Dgs (w.drewN n) ao len cap L :=
  ⟨h.len_eq, h.dig, h.le_cap, h.cap_le, h.nil, h.spot⟩
theorem dgs_nil {w : World} {ao : Option Addr} : Dgs w ao 0 0 [] :=
  ⟨rfl, Dgl.nil, Nat.le_refl _, Nat.zero_le _, fun _ => rfl, fun hp => absurd hp (Nat.lt_irrefl _)⟩
theorem Dgs.take {w : World} {ao : Option Addr} {len cap : Nat} {L : List (List Int)} (h : Dgs w ao len cap L) (k : Nat) (hk : k ≤ len) : Dgs w ao k cap (L.take k) := by
  have hl := h.len_eq
  have hc := h.le_cap
  refine ⟨by rw [List.length_take]; omega, h.dig.take k, by omega, h.cap_le, h.nil, fun hp => ?_⟩
  obtain ⟨b, off, e, hlt, hcc⟩ := h.spot (by omega)
  refine ⟨b, off, e, hlt, fun i hi => ?_⟩
  rw [List.getD_eq_getElem?_getD, List.getElem?_take, if_pos hi, ← List.getD_eq_getElem?_getD]
  exact hcc i (by omega)
theorem Dgs.drop {w : World} {b o len cap : Nat} {L : List (List Int)} (h : Dgs w (some ⟨b, o, none⟩) len cap L) (k : Nat) (hk : k ≤ len) : Dgs w (some ⟨b, o + 32 * k, none⟩) (len - k) (cap - k) (L.drop k) := by
  have hl := h.len_eq
  have hc := h.le_cap
  have hm := h.cap_le
  refine ⟨by rw [List.length_drop]; omega, h.dig.drop k, by omega, by omega, (fun hh => by cases hh), fun hp => ?_⟩
  obtain ⟨b', o', e, hlt, hcc⟩ := h.spot (by omega)
  cases e
  refine ⟨b, o + 32 * k, rfl, hlt, fun i hi => ?_⟩
  rw [List.getD_eq_getElem?_getD, List.getElem?_drop, ← List.getD_eq_getElem?_getD, show o + 32 * k + 32 * i = o + 32 * (k + i) from by omega]
  exact hcc (k + i) (by omega)
theorem Dgs.list {w : World} {ao : Option Addr} {len cap : Nat} {L M : List (List Int)} (h : Dgs w ao len cap L) (e : L = M) : Dgs w ao len cap M := by rw [← e]; exact h
theorem dgs_info : (Tryd.prog.info? 42).map (fun i => (i.zero, i.size, i.bytes)) = some (some (.agg #[.int .u8 0, .int .u8 0, .int .u8 0, .int .u8 0, .int .u8 0, .int .u8 0, .int .u8 0, .int .u8 0, .int .u8 0, .int .u8 0, .int .u8 0, .int .u8 0, .int .u8 0, .int .u8 0, .int .u8 0, .int .u8 0, .int .u8 0, .int .u8 0, .int .u8 0, .int .u8 0, .int .u8 0, .int .u8 0, .int .u8 0, .int .u8 0, .int .u8 0, .int .u8 0, .int .u8 0, .int .u8 0, .int .u8 0, .int .u8 0, .int .u8 0, .int .u8 0]), 32, 32) := by kernel_rfl
theorem dgs_size (w : World) : (Go.sizeOf (Tryd.prog.elem 30)).run Tryd.prog w = .ok 32 w := by
  rw [show Tryd.prog.elem 30 = 42 from by kernel_rfl]
  obtain ⟨i0, hi, hz0, hz1, hz2⟩ := info_parts dgs_info
  simp [Go.sizeOf, typeInfo, hi, hz1]
theorem dgs_under : Tryd.prog.underlying 30 = some (.slice (Tryd.prog.elem 30)) := by kernel_rfl
/-- l[:k] -/
theorem dgs_cut (b o len cap k : Nat) (hk : k ≤ cap) (w : World) : (Instr.sliceAt 30 (.slice (some ⟨b, o, none⟩) len cap) none (some (.int .i64 (k : Int))) none).run Tryd.prog w = .ok (.slice (some ⟨b, o, none⟩) k cap) w := by
  rw [run_sliceAt_slice w _ _ _ _ _ dgs_under, run_slice_h w _ _ len cap dgs_under .i64 k (by omega) (by omega), dgs_size]
  simp [sliced, Addr.add_lit]
/-- l[k:] -/
theorem dgs_rest (b o len cap k : Nat) (hk : k ≤ len) (hc : k < cap) (w : World) : (Instr.sliceAt 30 (.slice (some ⟨b, o, none⟩) len cap) (some (.int .i64 (k : Int))) none none).run Tryd.prog w = .ok (.slice (some ⟨b, o + 32 * k, none⟩) (len - k) (cap - k)) w := by
  rw [run_sliceAt_slice w _ _ _ _ _ dgs_under, run_slice_l w _ _ len cap dgs_under .i64 k (by omega) (by omega), dgs_size]
  simp [sliced, Addr.add_lit, show ¬ cap = k by omega, Nat.mul_comm]
/-- the facts at the end of a function that answers a digest in a variable -/
theorem res_end {w w5 : World} {B R : Nat} {cs : Array Value} {Z : List Int} (hres : w5.heap[R]? = some (.cells cs 42 (0, 0))) (hcs : cs.size = 32) (hlow : Below B w w5) (hB : B ≤ R) (hZ : Z.length = 32) (D : Array Value) (hD : (bv Z).toArray = D) :
    Bx (w5.there R 0 D.size) ∧ Bx ((Tryd.prog.info? 42).map (·.size) = some D.size) ∧ Bx (D.all (·.oneCell') = true) ∧ Bx ((w5.setCells R 0 D.toList).heap[R]? = some (.cells D 42 (0, 0))) ∧ Bx (Below B w (w5.setCells R 0 D.toList)) := by
  have hs : D.size = 32 := by rw [← hD, List.size_toArray, bv_length, hZ]
  have hth := there_row hres
  rw [hcs] at hth
  exact ⟨⟨by rw [hs]; exact hth⟩, ⟨by rw [hs]; exact dig_info⟩, ⟨by rw [← hD]; exact all_oneCell_toArray (bv_one _)⟩, ⟨heap_stored (vs := D) hres (by rw [hcs, hs])⟩, ⟨below_setCells hlow R hB D.toList 0⟩⟩
end Go.Proofs.YtfkloilbjfleeaaDoor
