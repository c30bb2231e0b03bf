/- Bytes that came in. -/
import Derived.Test.YtlodbkjjkhpbaaaIvIn
namespace Go.Proofs.Ytlodbkjjkhpbaaa
open Go.ChangeShapes Go.WideShapes Go.ChangeAt Go.RowKit

section
variable {H : Type} {enc : TypeId × Value → H} {W : World} {held : Bool} {bs : Nat}
set_option maxRecDepth 100000 in
theorem cell_bytes {fuel : Nat} {v : Value} {x : DataW H × List MemPlace} (h : DataW.trod enc Try.prog W bs (fun _ => true) held fuel 29 [v] = some x) : ∃ a l c z, v = .slice a l c ∧ Bts W a l c z := by
  rcases open_ints Try.underlying29 Try.underlying5 (by kernel_rfl) h with ⟨hcs, _⟩ | ⟨x, l2, c2, zs, hcs, _, hl2, hm2, hz2, _, hcell, hwz⟩
  · exact ⟨none, 0, 0, _, by simpa using hcs, Bts.of_row (zs := []) (.inl ⟨rfl, rfl, rfl, rfl⟩)⟩
  · exact ⟨some x, l2, c2, _, by simpa using hcs, Bts.of_row (.inr ⟨x, rfl, hl2, hm2, by simpa using hz2, hcell, hwz⟩)⟩
set_option maxRecDepth 100000 in
theorem open_byt {a : Option Addr} {len cap : Nat} {d : DataW H} {p : List MemPlace} (h : DataW.Trod enc Try.prog W bs (fun _ => true) held 29 (.slice a len cap) d p) : ∃ l, Bts W a len cap l := by
  obtain ⟨fuel, hf⟩ := h
  obtain ⟨a', l', c', z, e, hz⟩ := cell_bytes (v := .slice a len cap) (by simpa [Value.cells] using hf)
  cases e
  exact ⟨z, hz⟩
end
end Go.Proofs.Ytlodbkjjkhpbaaa
