/- A copy of bytes: bytes.Clone; a part of bytes, bytes of a constant. -/
import Derived.Test.YtlodbkjjkhpbaaaAppBts
import Derived.Test.YtlodbkjjkhpbaaaAppZeros
import Derived.Laws.Cover3
import Derived.Lib.SlBytesConst
namespace Go.Proofs.Ytlodbkjjkhpbaaa
open Go.RowKit
set_option linter.unusedVariables false

set_option maxRecDepth 100000 in
/-- a part of bytes -/
theorem Bts.part {w : World} {b off len cap : Nat} {l : List Int} (h : Bts w (some ⟨b, off, none⟩) len cap l) (o m cap' : Nat) (hom : o + m ≤ len) (hc : m ≤ cap') (hm : cap' ≤ maxLen) : Bts w (some ⟨b, off + o, none⟩) m cap' ((l.drop o).take m) := by
  have hl := h.len_eq
  refine ⟨by rw [List.length_take, List.length_drop]; omega, fun c hc => h.byt c (List.mem_of_mem_drop (List.mem_of_mem_take hc)), hc, hm, (fun hh => by cases hh), fun hp => ?_⟩
  obtain ⟨b', off', e, hlt, hcell⟩ := h.spot (by omega)
  cases e
  refine ⟨b, off + o, rfl, hlt, fun i hi => ?_⟩
  rw [Nat.add_assoc, hcell (o + i) (by omega), getD_take_drop _ _ _ _ hi]
set_option maxRecDepth 100000 in
theorem owns_row {w : World} {base n : Nat} {l : List Int} {A : Array Value} (hA : A = (bv l).toArray) (hl : l.length = n) (hm : n ≤ maxLen) (hb : base ≤ w.heap.size) :
    (w.alloc (.cells A 5)).ownsRow base 5 1 (.slice (some ⟨w.heap.size, 0, none⟩) n n) n (bv l) := by
  have h := owns_fresh w base n n l #[] hl (by simp) hm hb
  rw [Array.append_empty] at h
  rw [hA]; exact h
set_option maxRecDepth 100000 in
theorem owns_empty (w : World) (base : Nat) (l : List Int) (h : l = []) : w.ownsRow base 5 1 (.slice none 0 0) l.length (bv l) := by
  rw [h]; exact World.ownsRow_nil _ _ _ _

set_option maxRecDepth 100000 in
theorem eql_nil (w : World) (a : Option Addr) (l c : Nat) : (binOp .eql 29 (.slice a l c) (.slice none 0 0)).run Try.prog w = .ok (.bool a.isNone) w := by
  simp only [binOp]
  simp [run_equal_slice_nil w _ _ a l c Try.underlying29]

set_option maxRecDepth 100000 in
/-- bytes of a constant, as they lie -/
theorem bts_const (w : World) (l : List Int) (hb : Byt l) (fr : Nat × Nat) (hm : l.length ≤ maxLen) : Bts (w.alloc (.cells (bv l).toArray 5 fr)) (some ⟨w.heap.size, 0, none⟩) l.length l.length l := by
  refine ⟨rfl, hb, Nat.le_refl _, hm, (fun hh => by cases hh), fun _ => ⟨w.heap.size, 0, rfl, by simp, fun i hi => ?_⟩⟩
  rw [Nat.zero_add, World.cell?_alloc_mark, List.getElem?_toArray]
  unfold bv; rw [List.getElem?_map, List.getElem?_eq_getElem hi, List.getD_eq_getElem?_getD, List.getElem?_eq_getElem hi]; rfl
end Go.Proofs.Ytlodbkjjkhpbaaa
