/- Requests that came in. -/
import Derived.Test.YtdameoejigpnhaaGreatDoorWrj
import Derived.ShutString
import Derived.ChangeOld
import Derived.Below
import Derived.Deep.Slices
import Derived.Lib.SmallJoins
namespace Go.Proofs.YtdameoejigpnhaaGreatDoor
open Go.ChangeShapes Go.WideShapes Go.ChangeAt Go.RowKit

/-- numbers that fit -/
def I64 (x : Int) : Prop := -9223372036854775808 ≤ x ∧ x ≤ 9223372036854775807
/-- a request that came in -/
structure Rqs (w : World) (x : WX) (a : Option Addr) (n c : Nat) : Prop where
  b : Bts w a n c x.b
  m : x.m.size ≤ 9223372036854775807
  t : x.t.size ≤ 9223372036854775807
  k : x.k.size ≤ 9223372036854775807
set_option maxRecDepth 100000 in
theorem Rqs.below {w w' : World} {x : WX} {a : Option Addr} {n c : Nat} (h : Rqs w x a n c) (hb : Below w.heap.size w w') : Rqs w' x a n c := ⟨h.b.below hb, h.m, h.t, h.k⟩
section
variable {H : Type} {enc : TypeId × Value → H} {W : World} {held : Bool} {bs : Nat}
set_option maxRecDepth 100000 in
theorem cell_bytes {fuel : Nat} {v : Value} {x : DataW H × List MemPlace} (h : DataW.trod enc Tryz.prog W bs (fun _ => true) held fuel 22 [v] = some x) : ∃ a l c z, v = .slice a l c ∧ Bts W a l c z := by
  rcases open_ints Tryz.underlying22 Tryz.underlying5 (by kernel_rfl) h with ⟨hcs, _⟩ | ⟨x, l2, c2, zs, hcs, _, hl2, hm2, hz2, _, hcell, hwz⟩
  · exact ⟨none, 0, 0, _, by simpa using hcs, Bts.of_row (zs := []) (.inl ⟨rfl, rfl, rfl, rfl⟩)⟩
  · exact ⟨some x, l2, c2, _, by simpa using hcs, Bts.of_row (.inr ⟨x, rfl, hl2, hm2, by simpa using hz2, hcell, hwz⟩)⟩
set_option maxRecDepth 100000 in
theorem cell_str {fuel : Nat} {v : Value} {x : DataW H × List MemPlace} {sp : Nat → Bool} (h : DataW.trod enc Tryz.prog W bs sp held fuel 9 [v] = some x) : ∃ s : ByteArray, v = .string s ∧ s.size ≤ 9223372036854775807 := by
  obtain ⟨s, h1, _, h3⟩ := DataW.trod_string Tryz.underlying9 h
  exact ⟨s, by simpa using h1, h3⟩
set_option maxRecDepth 100000 in
theorem open_i64 {base : Nat} {v : Value} {d : DataW H} {p : List MemPlace} {sp : Nat → Bool}
    (hv : Value.okWide Tryz.prog W .any base 3 v) (h : DataW.Trod enc Tryz.prog W bs sp held 3 v d p) : ∃ x, v = .int .i64 x ∧ I64 x := by
  obtain ⟨x, e, _, _, hw⟩ := open_int Tryz.underlying3 hv h
  exact ⟨x, e, bounds_i64 hw⟩
set_option maxRecDepth 100000 in
theorem open_byt {a : Option Addr} {len cap : Nat} {d : DataW H} {p : List MemPlace} (h : DataW.Trod enc Tryz.prog W bs (fun _ => true) held 22 (.slice a len cap) d p) : ∃ l, Bts W a len cap l := by
  obtain ⟨fuel, hf⟩ := h
  obtain ⟨a', l', c', z, e, hz⟩ := cell_bytes (v := .slice a len cap) (by simpa [Value.cells] using hf)
  cases e
  exact ⟨z, hz⟩
set_option maxRecDepth 100000 in
theorem open_req {base : Nat} {v : Value} {d : DataW H} {p : List MemPlace} (hv : Value.okWide Tryz.prog W .any base 26 v) (h : DataW.Trod enc Tryz.prog W bs (fun _ => true) held 26 v d p) :
    ∃ x a n c, v = reqV x (.slice a n c) ∧ Rqs W x a n c := by
  obtain ⟨v0, v1, v2, v3, y0, y1, y2, y3, n, rfl, _, _, h0, h1, h2, h3⟩ := Joins.open_agg4 Tryz.underlying26 (by kernel_rfl) (by kernel_rfl) hv h
  obtain ⟨s0, rfl, b0⟩ := cell_str h0
  obtain ⟨s1, rfl, b1⟩ := cell_str h1
  obtain ⟨s2, rfl, b2⟩ := cell_str h2
  obtain ⟨a, l, c, z, rfl, hz⟩ := cell_bytes h3
  exact ⟨⟨s0, s1, s2, z⟩, a, l, c, rfl, hz, b0, b1, b2⟩
end
end Go.Proofs.YtdameoejigpnhaaGreatDoor
