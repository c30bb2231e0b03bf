/- Numbers and bools that came in. Instructions that came in, bools, bytes, numbers. Operations and numbers that came in. Bytes that came in. -/
import Derived.Test.YtipakjenggeflaaGreatDoorPkae
import Derived.Test.YtipakjenggeflaaGreatDoorPkaa
import Derived.ShutString
import Derived.ChangeOld
import Derived.Below
import Derived.Deep.Slices
import Derived.Deep.Grids
import Derived.Lib.SmallJoins
namespace Go.Proofs.YtipakjenggeflaaGreatDoor
open Go.ChangeShapes Go.WideShapes Go.ChangeAt Go.RowKit

/-- numbers that fit -/
def I64 (x : Int) : Prop := -9223372036854775808 ≤ x ∧ x ≤ 9223372036854775807
section
variable {H : Type} {enc : TypeId × Value → H} {W : World} {held : Bool} {bs : Nat}
set_option maxRecDepth 100000 in
theorem cell_int {fuel : Nat} {v : Value} {x : DataW H × List MemPlace} {sp : Nat → Bool} (h : DataW.trod enc Tryz.prog W bs sp held fuel 3 [v] = some x) : ∃ n, v = .int .i64 n ∧ V64 n := by
  obtain ⟨n, h1, _, h2⟩ := DataW.trod_int Tryz.underlying3 h
  exact ⟨n, by simpa using h1, bounds_i64 h2⟩
set_option maxRecDepth 100000 in
theorem open_i64 {base : Nat} {v : Value} {d : DataW H} {p : List MemPlace} {sp : Nat → Bool}
    (hv : Value.okWide Tryz.prog W .any base 3 v) (h : DataW.Trod enc Tryz.prog W bs sp held 3 v d p) : ∃ x, v = .int .i64 x ∧ I64 x := by
  obtain ⟨x, e, _, _, hw⟩ := open_int Tryz.underlying3 hv h
  exact ⟨x, e, bounds_i64 hw⟩
end
end Go.Proofs.YtipakjenggeflaaGreatDoor
namespace Go.Proofs.YtipakjenggeflaaGreatDoor
open Go.ChangeShapes Go.WideShapes Go.ChangeAt Go.RowKit

/-- instructions that came in -/
def IcsK (L : List Ic) : Prop := ∀ x ∈ L, V64 x.n
section
variable {H : Type} {enc : TypeId × Value → H} {W : World} {held : Bool} {bs : Nat}
set_option maxRecDepth 100000 in
theorem cell_bytes {fuel : Nat} {v : Value} {x : DataW H × List MemPlace} (h : DataW.trod enc Tryz.prog W bs (fun _ => true) held fuel 34 [v] = some x) : ∃ a l c z, v = .slice a l c ∧ Bts W a l c z := by
  rcases open_ints Tryz.underlying34 Tryz.underlying5 (by kernel_rfl) h with ⟨hcs, _⟩ | ⟨x, l2, c2, zs, hcs, _, hl2, hm2, hz2, _, hcell, hwz⟩
  · exact ⟨none, 0, 0, _, by simpa using hcs, Bts.of_row (zs := []) (.inl ⟨rfl, rfl, rfl, rfl⟩)⟩
  · exact ⟨some x, l2, c2, _, by simpa using hcs, Bts.of_row (.inr ⟨x, rfl, hl2, hm2, by simpa using hz2, hcell, hwz⟩)⟩
end
end Go.Proofs.YtipakjenggeflaaGreatDoor
namespace Go.Proofs.YtipakjenggeflaaGreatDoor
open Go.ChangeShapes Go.WideShapes Go.ChangeAt Go.RowKit

/-- its numbers fit -/
structure OrK (x : Opr) : Prop where
  c : V64 x.c
  o : V64 x.o
  a : V64 x.a
  r : V64 x.r
  f : V64 x.f
  t : V64 x.t
def OrsK (L : List Opr) : Prop := ∀ x ∈ L, OrK x
end Go.Proofs.YtipakjenggeflaaGreatDoor
namespace Go.Proofs.YtipakjenggeflaaGreatDoor
open Go.ChangeShapes Go.WideShapes Go.ChangeAt Go.RowKit

section
variable {H : Type} {enc : TypeId × Value → H} {W : World} {held : Bool} {bs : Nat}
end
end Go.Proofs.YtipakjenggeflaaGreatDoor
