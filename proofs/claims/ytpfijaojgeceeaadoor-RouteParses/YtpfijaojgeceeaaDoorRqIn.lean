/- Requests that came in. -/
import Derived.Test.YtpfijaojgeceeaaDoorReqV
import Derived.Test.YtpfijaojgeceeaaDoorAuaf
namespace Go.Proofs.YtpfijaojgeceeaaDoor
open Go.ChangeShapes Go.WideShapes Go.ChangeAt Go.RowKit

/-- a request that came in -/
structure Rqs (w : World) (x : WX) (a : Option Addr) (n c : Nat) : Prop where
  b : Bts w a n c x.b
  m : x.m.size ≤ 9223372036854775807
  t : x.t.size ≤ 9223372036854775807
  k : x.k.size ≤ 9223372036854775807
set_option maxRecDepth 100000 in
theorem Rqs.below {w w' : World} {x : WX} {a : Option Addr} {n c : Nat} (h : Rqs w x a n c) (hb : Below w.heap.size w w') : Rqs w' x a n c := ⟨h.b.below hb, h.m, h.t, h.k⟩
section
variable {H : Type} {enc : TypeId × Value → H} {W : World} {held : Bool} {bs : Nat}
set_option maxRecDepth 100000 in
theorem open_req {base : Nat} {v : Value} {d : DataW H} {p : List MemPlace} (hv : Value.okWide Tryd.prog W .any base 24 v) (h : DataW.Trod enc Tryd.prog W bs (fun _ => true) held 24 v d p) :
    ∃ x a n c, v = reqV x (.slice a n c) ∧ Rqs W x a n c := by
  obtain ⟨v0, v1, v2, v3, y0, y1, y2, y3, n, rfl, _, _, h0, h1, h2, h3⟩ := Joins.open_agg4 Tryd.underlying24 (by kernel_rfl) (by kernel_rfl) hv h
  obtain ⟨s0, rfl, b0⟩ := cell_strT h0
  obtain ⟨s1, rfl, b1⟩ := cell_strT h1
  obtain ⟨s2, rfl, b2⟩ := cell_strT h2
  obtain ⟨a, l, c, z, rfl, hz⟩ := cell_bytes h3
  exact ⟨⟨s0, s1, s2, z⟩, a, l, c, rfl, hz, b0, b1, b2⟩
end
end Go.Proofs.YtpfijaojgeceeaaDoor
