/- Digests, and lists of digests, that came in. -/
import Derived.Test.YtfkloilbjfleeaaDoorDgs
import Derived.WalkKit
import Derived.ShutString
import Derived.ChangeOld
import Derived.Below
import Derived.ProofKit
import Derived.OpenShut
import Derived.Deep.DeepHandedRow
namespace Go.Proofs.YtfkloilbjfleeaaDoor
open Go.ChangeShapes Go.WideShapes Go.ChangeAt Go.RowKit

set_option maxRecDepth 100000 in
/-- the cells of a digest, opened -/
theorem open_cells {H : Type} {enc : TypeId × Value → H} {W : World} {cs : List Value} {x : DataW H × List MemPlace} {sp : Nat → Bool} {held : Bool} {bs fuel : Nat}
    (h : DataW.trod enc Tryd.prog W bs sp held fuel 42 cs = some x) : ∃ d, cs = bv d ∧ Dg d := by
  obtain ⟨xs, m, _, _, hlen, hn, hel⟩ := DataW.trod_array Tryd.underlying42 h
  have hct : Tryd.prog.cellsOf 42 = 32 := by kernel_rfl
  have hce : Tryd.prog.cellsOf 5 = 1 := by kernel_rfl
  rw [hct] at hlen
  have hcell : ∀ i, i < 32 → ∃ z, cs[i]? = some (.int .u8 z) ∧ (Lit.int .u8 z).wf = true := by
    intro i hi
    have h1 := hel i hi
    rw [List.getElem?_eq_getElem (by omega)] at h1
    obtain ⟨z, hc, _, hw⟩ := DataW.trod_int Tryd.underlying5 h1
    refine ⟨z, ?_, hw⟩
    have := congrArg (·[0]?) hc
    simpa [hce, List.getElem?_take, List.getElem?_drop] using this
  refine ⟨cs.map intOf, ?_, by rw [List.length_map]; exact hlen, ?_⟩
  · apply List.ext_getElem?
    intro i
    unfold bv
    rw [List.getElem?_map, List.getElem?_map]
    by_cases hi : i < 32
    · obtain ⟨z, hz, _⟩ := hcell i hi
      rw [hz]; rfl
    · rw [List.getElem?_eq_none (by omega)]; rfl
  · intro z hz
    obtain ⟨v, hv, rfl⟩ := List.mem_map.1 hz
    obtain ⟨i, hi, e⟩ := List.mem_iff_getElem.1 hv
    obtain ⟨z', hz', hw⟩ := hcell i (by omega)
    rw [List.getElem?_eq_getElem hi, e] at hz'
    cases hz'
    exact bounds_u8 hw
set_option maxRecDepth 100000 in
/-- a digest that came in -/
theorem open_dig {H : Type} {enc : TypeId × Value → H} {W : World} {base : Nat} {v : Value} {d : DataW H} {p : List MemPlace} {sp : Nat → Bool} {held : Bool} {bs : Nat}
    (hv : Value.okWide Tryd.prog W .any base 42 v) (h : DataW.Trod enc Tryd.prog W bs sp held 42 v d p) : ∃ z, v = .agg (bv z).toArray ∧ Dg z := by
  simp only [Value.okWide, Tryd.underlying42] at hv
  obtain ⟨cs, rfl, hsz, _⟩ := hv
  obtain ⟨fuel, hf⟩ := h
  obtain ⟨z, hz, hd⟩ := open_cells hf
  refine ⟨z, ?_, hd⟩
  have : cs.toList = bv z := by simpa [Value.cells] using hz
  rw [← this]
set_option maxRecDepth 100000 in
/-- a list of digests that came in -/
theorem open_dgs {H : Type} {enc : TypeId × Value → H} {W : World} {a : Option Addr} {len cap : Nat} {d : DataW H} {p : List MemPlace} {sp : Nat → Bool} {held : Bool} {bs : Nat}
    (h : DataW.Trod enc Tryd.prog W bs sp held 30 (.slice a len cap) d p) : ∃ L, Dgs W a len cap L := by
  obtain ⟨fuel, hf⟩ := h
  have hct : Tryd.prog.cellsOf 42 = 32 := by kernel_rfl
  rcases DataW.trod_slice (e := 42) Tryd.underlying30 hf with ⟨hcs, _⟩ | ⟨ad, l, c, elems, rest, n, _, hcs, _, hb, hl, hm, hel, hE, _⟩
  · simp [Value.cells] at hcs
    obtain ⟨rfl, rfl, rfl⟩ := hcs
    exact ⟨[], dgs_nil⟩
  · simp [Value.cells] at hcs
    obtain ⟨rfl, rfl, rfl⟩ := hcs
    have hone : ∀ i, i < len → ∃ z, Dg z ∧ ad.block < W.heap.size ∧ ∀ j v, (bv z)[j]? = some v → W.cell? ((ad.add (i * 32)).add j) = some v := by
      intro i hi
      have h1 := hE i hi
      rw [List.getElem?_eq_getElem (by omega), hct] at h1
      obtain ⟨cs, hc, ht⟩ := Option.bind_eq_some_iff.1 h1
      obtain ⟨z, rfl, hd⟩ := open_cells ht
      obtain ⟨_, hlen, hcell⟩ := World.cells?_some hc
      refine ⟨z, hd, ?_, fun j v hj => ?_⟩
      · have := World.cells?_block hc (by decide)
        unfold Addr.add at this
        split at this <;> exact this
      · have hj2 : j < 32 := by have := (List.getElem?_eq_some_iff.1 hj).1; omega
        rw [hcell j hj2, hj]
    obtain ⟨L, hL, hLe⟩ : ∃ L : List (List Int), L.length = len ∧ ∀ i, i < len → Dg (L.getD i []) ∧ ad.block < W.heap.size ∧ ∀ j v, (bv (L.getD i []))[j]? = some v → W.cell? ((ad.add (i * 32)).add j) = some v := by
      have hgen : ∀ m, m ≤ len → ∃ L : List (List Int), L.length = m ∧ ∀ i, i < m → Dg (L.getD i []) ∧ ad.block < W.heap.size ∧ ∀ j v, (bv (L.getD i []))[j]? = some v → W.cell? ((ad.add (i * 32)).add j) = some v := by
        intro m
        induction m with
        | zero => intro _; exact ⟨[], rfl, fun i hi => absurd hi (Nat.not_lt_zero _)⟩
        | succ m ih =>
          intro hm
          obtain ⟨L, hL, hLe⟩ := ih (by omega)
          obtain ⟨z, hz⟩ := hone m (by omega)
          refine ⟨L ++ [z], by simp [hL], fun i hi => ?_⟩
          by_cases him : i = m
          · subst him
            rw [List.getD_eq_getElem?_getD, List.getElem?_append_right (by omega), hL, Nat.sub_self]
            exact hz
          · rw [List.getD_eq_getElem?_getD, List.getElem?_append_left (by omega), ← List.getD_eq_getElem?_getD]
            exact hLe i (by omega)
      exact hgen len (Nat.le_refl _)
    refine ⟨L, hL, fun z hz => ?_, hl, hm, (fun hh => by cases hh), fun hp => ?_⟩
    · obtain ⟨i, hi, e⟩ := List.mem_iff_getElem.1 hz
      have := (hLe i (by omega)).1
      rw [List.getD_eq_getElem?_getD, List.getElem?_eq_getElem hi, e] at this
      exact this
    · obtain ⟨b, off, sp2⟩ := ad
      have h0 := hLe 0 (by omega)
      have h00 : ∃ v, (bv (L.getD 0 []))[0]? = some v := ⟨_, List.getElem?_eq_getElem (by rw [bv_length, h0.1.1]; decide)⟩
      obtain ⟨v0, hv0⟩ := h00
      have hsp : sp2 = none := by simpa [Addr.add] using World.cell?_spot (h0.2.2 0 v0 hv0)
      subst hsp
      refine ⟨b, off, rfl, h0.2.1, fun i hi j v hj => ?_⟩
      have h1 := (hLe i hi).2.2 j v hj
      rw [Addr.add_lit, Addr.add_lit, Nat.mul_comm i 32] at h1
      exact h1
set_option maxRecDepth 100000 in
/-- a number that came in -/
theorem open_i64 {H : Type} {enc : TypeId × Value → H} {W : World} {base : Nat} {v : Value} {d : DataW H} {p : List MemPlace} {sp : Nat → Bool} {held : Bool} {bs : Nat}
    (hv : Value.okWide Tryd.prog W .any base 3 v) (h : DataW.Trod enc Tryd.prog W bs sp held 3 v d p) : ∃ x, v = .int .i64 x ∧ (-9223372036854775808 ≤ x ∧ x ≤ 9223372036854775807) := by
  obtain ⟨x, e, _, _, hw⟩ := open_int Tryd.underlying3 hv h
  exact ⟨x, e, bounds_i64 hw⟩
set_option maxRecDepth 100000 in
/-- bytes that came in -/
theorem open_bytes {H : Type} {enc : TypeId × Value → H} {W : World} {a : Option Addr} {len cap : Nat} {d : DataW H} {p : List MemPlace} {held : Bool} {bs : Nat}
    (h : DataW.Trod enc Tryd.prog W bs (fun _ => true) held 22 (.slice a len cap) d p) : ∃ l, Bts W a len cap l := by
  obtain ⟨fuel, hf⟩ := h
  rcases open_ints Tryd.underlying22 Tryd.underlying5 (by kernel_rfl) hf with ⟨hcs, _⟩ | ⟨x, l2, c2, zs, hcs, _, hl2, hm2, hz2, _, hcell, hwz⟩
  · simp [Value.cells] at hcs
    obtain ⟨rfl, rfl, rfl⟩ := hcs
    exact ⟨_, Bts.of_row (zs := []) (.inl ⟨rfl, rfl, rfl, rfl⟩)⟩
  · simp [Value.cells] at hcs
    obtain ⟨rfl, rfl, rfl⟩ := hcs
    exact ⟨_, Bts.of_row (.inr ⟨x, rfl, hl2, hm2, by simpa using hz2, hcell, hwz⟩)⟩
end Go.Proofs.YtfkloilbjfleeaaDoor
