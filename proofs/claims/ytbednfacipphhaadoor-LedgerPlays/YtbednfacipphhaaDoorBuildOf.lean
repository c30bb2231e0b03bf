/- A list of one element that has many cells, written out. No walk. -/
import Derived.Test.YtbednfacipphhaaDoorBase
import Derived.Laws.Tables
namespace Go.Proofs.YtbednfacipphhaaDoor
open Go.RowKit
set_option linter.unusedVariables false

set_option maxRecDepth 100000 in
theorem fold_set0 : ∀ (l : List Value) (k : Nat) (cs : Array Value), k + l.length ≤ cs.size →
    ((l.zipIdx k).foldl (fun (cs : Array Value) (p : Value × Nat) => cs.setIfInBounds (0 + p.2) p.1) cs).size = cs.size ∧ ∀ j, ((l.zipIdx k).foldl (fun (cs : Array Value) (p : Value × Nat) => cs.setIfInBounds (0 + p.2) p.1) cs)[j]? = if k ≤ j ∧ j < k + l.length then l[j - k]? else cs[j]? := by
  intro l
  induction l with
  | nil => intro k cs _; exact ⟨rfl, fun j => by rw [if_neg (by rw [List.length_nil]; omega)]; rfl⟩
  | cons v r ih =>
    intro k cs hl
    rw [List.length_cons] at hl
    rw [List.zipIdx_cons, List.foldl_cons]
    obtain ⟨h1, h2⟩ := ih (k + 1) (cs.setIfInBounds (0 + k) v) (by simp; omega)
    refine ⟨by rw [h1]; simp, fun j => ?_⟩
    rw [h2 j, List.length_cons]
    by_cases hj : j = k
    · subst hj
      rw [if_neg (by omega), if_pos (by omega), Array.getElem?_setIfInBounds, Nat.zero_add, if_pos rfl, if_pos (by omega), Nat.sub_self]; rfl
    · by_cases hj2 : k + 1 ≤ j ∧ j < k + 1 + r.length
      · rw [if_pos hj2, if_pos (by omega), show j - k = j - (k + 1) + 1 from by omega]; simp
      · rw [if_neg hj2, if_neg (by omega)]
        simp [Ne.symm hj]
set_option maxRecDepth 100000 in
/-- a list of one element that has many cells, written out -/
theorem build_one_of (T E : TypeId) (sz : Nat) (i0 : TypeInfo) (z : Array Value) (hT : Tryd.prog.underlying T = some (.slice E)) (hi : Tryd.prog.info? E = some i0) (hz0 : i0.zero = some (.agg z)) (hz1 : i0.size = sz) (hzb : i0.bytes * 1 ≤ 281474976710656) (hp : 0 < sz) (hp2 : sz ≤ 16777216) (R : List Value) (hR : R.length = sz) (w : World) : (Instr.buildSlice T 1 #[(0, .agg R.toArray)]).run Tryd.prog w = .ok (.slice (some ⟨w.heap.size, 0, none⟩) 1 1) (w.alloc (.cells R.toArray E)) := by
  have hs : R.toArray.size = sz := by rw [List.size_toArray, hR]
  have hz : (zeroValue E).run Tryd.prog w = .ok (.agg z) w := by simp [zeroValue, typeInfo, hi, hz0]
  have hsz : (Go.sizeOf E).run Tryd.prog w = .ok sz w := by simp [Go.sizeOf, typeInfo, hi, hz1]
  have hu := run_underlying (P := Tryd.prog) (w := w) hT
  have hfill : Instr.fill (fun i => some (i * sz, sz)) ((Array.range sz).map ((Value.agg z).cells[· % (Value.agg z).cells.size]!)) [(0, .agg R.toArray)] = some R.toArray := by
    have hc : (Value.agg R.toArray).cells = R.toArray := rfl
    have hm : ((Array.range sz).map ((Value.agg z).cells[· % (Value.agg z).cells.size]!)).size = sz := by simp
    generalize (Array.range sz).map ((Value.agg z).cells[· % (Value.agg z).cells.size]!) = zs at hm
    simp only [Instr.fill, hc, hs, hm]
    rw [if_neg (by simp)]
    congr 1
    obtain ⟨h1, h2⟩ := fold_set0 R 0 zs (by rw [hR, hm]; omega)
    apply Array.ext_getElem?
    intro j
    have h3 := h2 j
    rw [List.size_toArray] at hs
    have hzi : R.toArray.zipIdx = (R.zipIdx).toArray := by simp
    rw [hzi]
    simp only [Nat.zero_mul, List.foldl_toArray]
    rw [h3]
    by_cases hj : j < sz
    · rw [if_pos (by omega), Nat.sub_zero]; simp
    · rw [if_neg (by omega), Array.getElem?_eq_none (by omega), Array.getElem?_eq_none (by rw [List.size_toArray]; omega)]
  simp only [Instr.buildSlice, Sem.run_bind, hu, hsz, Result.andThen_ok]
  rw [if_neg (by omega), if_neg (by omega)]
  simp only [Sem.run_bind, hz, Result.andThen_ok, Nat.one_mul, Sem.run_pure]
  rw [hfill]
  simp [newRow, go_sem]
end Go.Proofs.YtbednfacipphhaaDoor
