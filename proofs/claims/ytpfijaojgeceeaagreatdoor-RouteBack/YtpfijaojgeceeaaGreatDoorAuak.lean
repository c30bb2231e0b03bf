/- Numbers and bools that came in. Bytes that came in. Asks that came in. -/
import Derived.Test.YtpfijaojgeceeaaGreatDoorAuao
import Derived.Test.YtpfijaojgeceeaaGreatDoorAuar
import Derived.ShutString
import Derived.ChangeOld
import Derived.Below
import Derived.Deep.Slices
import Derived.Deep.Grids
import Derived.Lib.SmallJoins
namespace Go.Proofs.YtpfijaojgeceeaaGreatDoor
open Go.ChangeShapes Go.WideShapes Go.ChangeAt Go.RowKit

/-- numbers that fit -/
def I64 (x : Int) : Prop := -9223372036854775808 ≤ x ∧ x ≤ 9223372036854775807
abbrev Bls := Bvs
def IvK (L : List Int) : Prop := ∀ x ∈ L, V64 x
set_option maxRecDepth 100000 in
theorem IvK.take {L : List Int} (h : IvK L) (n : Nat) : IvK (L.take n) := fun x hx => h x (List.mem_of_mem_take hx)
set_option maxRecDepth 100000 in
theorem IvK.get {L : List Int} (h : IvK L) (i : Nat) (hi : i < L.length) (z : Int) : V64 (L.getD i z) := by
  rw [List.getD_eq_getElem?_getD, List.getElem?_eq_getElem hi]; exact h _ (List.getElem_mem hi)
def IvsI (w : World) (ao : Option Addr) (len cap : Nat) (L : List Int) : Prop := Ivs w ao len cap L ∧ IvK L
section
variable {H : Type} {enc : TypeId × Value → H} {W : World} {held : Bool} {bs : Nat}
set_option maxRecDepth 100000 in
theorem cell_int {fuel : Nat} {v : Value} {x : DataW H × List MemPlace} {sp : Nat → Bool} (h : DataW.trod enc Tryz.prog W bs sp held fuel 3 [v] = some x) : ∃ n, v = .int .i64 n ∧ V64 n := by
  obtain ⟨n, h1, _, h2⟩ := DataW.trod_int Tryz.underlying3 h
  exact ⟨n, by simpa using h1, bounds_i64 h2⟩
set_option maxRecDepth 100000 in
theorem open_i64 {base : Nat} {v : Value} {d : DataW H} {p : List MemPlace} {sp : Nat → Bool}
    (hv : Value.okWide Tryz.prog W .any base 3 v) (h : DataW.Trod enc Tryz.prog W bs sp held 3 v d p) : ∃ x, v = .int .i64 x ∧ I64 x := by
  obtain ⟨x, e, _, _, hw⟩ := open_int Tryz.underlying3 hv h
  exact ⟨x, e, bounds_i64 hw⟩
end
end Go.Proofs.YtpfijaojgeceeaaGreatDoor
namespace Go.Proofs.YtpfijaojgeceeaaGreatDoor
open Go.ChangeShapes Go.WideShapes Go.ChangeAt Go.RowKit

section
variable {H : Type} {enc : TypeId × Value → H} {W : World} {held : Bool} {bs : Nat}
set_option maxRecDepth 100000 in
theorem cell_bytes {fuel : Nat} {v : Value} {x : DataW H × List MemPlace} (h : DataW.trod enc Tryz.prog W bs (fun _ => true) held fuel 22 [v] = some x) : ∃ a l c z, v = .slice a l c ∧ Bts W a l c z := by
  rcases open_ints Tryz.underlying22 Tryz.underlying5 (by kernel_rfl) h with ⟨hcs, _⟩ | ⟨x, l2, c2, zs, hcs, _, hl2, hm2, hz2, _, hcell, hwz⟩
  · exact ⟨none, 0, 0, _, by simpa using hcs, Bts.of_row (zs := []) (.inl ⟨rfl, rfl, rfl, rfl⟩)⟩
  · exact ⟨some x, l2, c2, _, by simpa using hcs, Bts.of_row (.inr ⟨x, rfl, hl2, hm2, by simpa using hz2, hcell, hwz⟩)⟩
set_option maxRecDepth 100000 in
theorem open_byt {a : Option Addr} {len cap : Nat} {d : DataW H} {p : List MemPlace} (h : DataW.Trod enc Tryz.prog W bs (fun _ => true) held 22 (.slice a len cap) d p) : ∃ l, Bts W a len cap l := by
  obtain ⟨fuel, hf⟩ := h
  obtain ⟨a', l', c', z, e, hz⟩ := cell_bytes (v := .slice a len cap) (by simpa [Value.cells] using hf)
  cases e
  exact ⟨z, hz⟩
end
end Go.Proofs.YtpfijaojgeceeaaGreatDoor
namespace Go.Proofs.YtpfijaojgeceeaaGreatDoor
open Go.ChangeShapes Go.WideShapes Go.ChangeAt Go.RowKit

abbrev askV (a : As) (ab : Option Addr) (n c : Nat) : Array Value := #[.int .i64 a.k, .string a.nm, .string a.sp, .slice ab n c, .int .i64 a.A, .int .i64 a.B]
/-- an ask that came in -/
structure AskI (w : World) (a : As) (ab : Option Addr) (n c : Nat) : Prop where
  b : Bts w ab n c a.b
  k : V64 a.k
  A : V64 a.A
  B : V64 a.B
  nm : a.nm.size ≤ maxLen
  sp : a.sp.size ≤ maxLen
set_option maxRecDepth 100000 in
theorem AskI.below {w w' : World} {a : As} {ab : Option Addr} {n c : Nat} (h : AskI w a ab n c) (hb : Below w.heap.size w w') : AskI w' a ab n c := ⟨h.b.below hb, h.k, h.A, h.B, h.nm, h.sp⟩
section
variable {H : Type} {enc : TypeId × Value → H} {W : World} {held : Bool} {bs : Nat}
set_option maxRecDepth 100000 in
theorem cell_strT {fuel : Nat} {v : Value} {x : DataW H × List MemPlace} {sp : Nat → Bool} (h : DataW.trod enc Tryz.prog W bs sp held fuel 9 [v] = some x) : ∃ s : ByteArray, v = .string s ∧ s.size ≤ maxLen := by
  obtain ⟨s, h1, _, h3⟩ := DataW.trod_string Tryz.underlying9 h
  exact ⟨s, by simpa using h1, h3⟩
set_option maxRecDepth 100000 in
theorem cells_ask {fuel : Nat} {cs : List Value} {x : DataW H × List MemPlace} (h : DataW.trod enc Tryz.prog W bs (fun _ => true) held fuel 24 cs = some x) : ∃ a ab n c, cs = (askV a ab n c).toList ∧ AskI W a ab n c := by
  have hC : Tryz.prog.cellsOf 24 = 6 := by kernel_rfl
  have q1 : Tryz.prog.cellsOf 3 = 1 := by kernel_rfl
  have q2 : Tryz.prog.cellsOf 9 = 1 := by kernel_rfl
  have q3 : Tryz.prog.cellsOf 22 = 1 := by kernel_rfl
  obtain ⟨xs, n', _, _, hlen, hlen2, hf2⟩ := DataW.trod_struct Tryz.underlying24 h
  rw [hC] at hlen
  match xs, hlen2, cs, hlen with
  | [y0, y1, y2, y3, y4, y5], _, [v0, v1, v2, v3, v4, v5], _ =>
    have h0 := hf2 0 _ rfl
    have h1 := hf2 1 _ rfl
    have h2 := hf2 2 _ rfl
    have h3 := hf2 3 _ rfl
    have h4 := hf2 4 _ rfl
    have h5 := hf2 5 _ rfl
    obtain ⟨n0, rfl, b0⟩ := cell_int (v := v0) (by simpa [q1] using h0)
    obtain ⟨s1, rfl, b1⟩ := cell_strT (v := v1) (by simpa [q2] using h1)
    obtain ⟨s2, rfl, b2⟩ := cell_strT (v := v2) (by simpa [q2] using h2)
    obtain ⟨a3, l3, c3, z, rfl, hz⟩ := cell_bytes (v := v3) (by simpa [q3] using h3)
    obtain ⟨n4, rfl, b4⟩ := cell_int (v := v4) (by simpa [q1] using h4)
    obtain ⟨n5, rfl, b5⟩ := cell_int (v := v5) (by simpa [q1] using h5)
    exact ⟨⟨n0, s1, s2, z, n4, n5⟩, a3, l3, c3, rfl, hz, b0, b4, b5, b1, b2⟩
set_option maxRecDepth 100000 in
theorem open_ask {base : Nat} {v : Value} {d : DataW H} {p : List MemPlace}
    (hv : Value.okWide Tryz.prog W .any base 24 v) (h : DataW.Trod enc Tryz.prog W bs (fun _ => true) held 24 v d p) : ∃ a ab n c, v = .agg (askV a ab n c) ∧ AskI W a ab n c := by
  obtain ⟨cs, rfl, hsz⟩ := okWide_struct Tryz.underlying24 hv
  obtain ⟨fuel, hf⟩ := h
  obtain ⟨a, ab, n, c, e, hI⟩ := cells_ask hf
  refine ⟨a, ab, n, c, ?_, hI⟩
  have e2 : cs.toList = (askV a ab n c).toList := e
  rw [Array.toList_inj.1 e2]
end
end Go.Proofs.YtpfijaojgeceeaaGreatDoor
