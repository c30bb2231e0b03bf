/- Changes that came in, bytes, texts, numbers. -/
import Derived.Test.YtjnjokbdoendkabStoreMem
import Derived.ShutString
import Derived.ChangeOld
import Derived.Below
import Derived.Deep.Slices
import Derived.Deep.Strs
import Derived.Deep.Grids
import Derived.Lib.SmallJoins
namespace Go.Proofs.Ytjnjokbdoendkab
open Go.ChangeShapes Go.WideShapes Go.ChangeAt Go.RowKit

/-- numbers that fit -/
def I64 (x : Int) : Prop := -9223372036854775808 ≤ x ∧ x ≤ 9223372036854775807
/-- changes that came in -/
def Chs (w : World) (ao : Option Addr) (len cap : Nat) (L : List Chg) : Prop := CT (fun k => k < w.heap.size) w ao len cap L ∧ ∀ c ∈ L, c.key.size ≤ 9223372036854775807
set_option maxRecDepth 100000 in
theorem Chs.below {w w' : World} {ao : Option Addr} {len cap : Nat} {L : List Chg} (h : Chs w ao len cap L) (hb : Below w.heap.size w w') : Chs w' ao len cap L := ⟨(h.1.below hb).low, h.2⟩
section
variable {H : Type} {enc : TypeId × Value → H} {W : World} {held : Bool} {bs : Nat}
set_option maxRecDepth 100000 in
theorem cell_bytes {fuel : Nat} {v : Value} {x : DataW H × List MemPlace} (h : DataW.trod enc Try.prog W bs (fun _ => true) held fuel 41 [v] = some x) : ∃ a l c z, v = .slice a l c ∧ Bts W a l c z := by
  rcases open_ints Try.underlying41 Try.underlying5 (by kernel_rfl) h with ⟨hcs, _⟩ | ⟨x, l2, c2, zs, hcs, _, hl2, hm2, hz2, _, hcell, hwz⟩
  · exact ⟨none, 0, 0, _, by simpa using hcs, Bts.of_row (zs := []) (.inl ⟨rfl, rfl, rfl, rfl⟩)⟩
  · exact ⟨some x, l2, c2, _, by simpa using hcs, Bts.of_row (.inr ⟨x, rfl, hl2, hm2, by simpa using hz2, hcell, hwz⟩)⟩
set_option maxRecDepth 100000 in
theorem cell_str {fuel : Nat} {v : Value} {x : DataW H × List MemPlace} {sp : Nat → Bool} (h : DataW.trod enc Try.prog W bs sp held fuel 9 [v] = some x) : ∃ s : ByteArray, v = .string s ∧ s.size ≤ maxLen := by
  obtain ⟨s, h1, _, h3⟩ := DataW.trod_string Try.underlying9 h
  exact ⟨s, by simpa using h1, h3⟩
set_option maxRecDepth 100000 in
theorem cell_bool {fuel : Nat} {v : Value} {x : DataW H × List MemPlace} {sp : Nat → Bool} (h : DataW.trod enc Try.prog W bs sp held fuel 4 [v] = some x) : ∃ b : Bool, v = .bool b := by
  obtain ⟨b, h1, _⟩ := DataW.trod_bool Try.underlying4 h
  exact ⟨b, by simpa using h1⟩
set_option maxRecDepth 100000 in
theorem open_i64 {base : Nat} {v : Value} {d : DataW H} {p : List MemPlace} {sp : Nat → Bool}
    (hv : Value.okWide Try.prog W .any base 3 v) (h : DataW.Trod enc Try.prog W bs sp held 3 v d p) : ∃ x, v = .int .i64 x ∧ I64 x := by
  obtain ⟨x, e, _, _, hw⟩ := open_int Try.underlying3 hv h
  exact ⟨x, e, bounds_i64 hw⟩
set_option maxRecDepth 100000 in
theorem open_str {base : Nat} {v : Value} {d : DataW H} {p : List MemPlace} {sp : Nat → Bool}
    (hv : Value.okWide Try.prog W .any base 9 v) (h : DataW.Trod enc Try.prog W bs sp held 9 v d p) : ∃ s : ByteArray, v = .string s ∧ s.size ≤ maxLen := by
  obtain ⟨s, e, _, _, hs⟩ := Go.ChangeMaps.open_string Try.underlying9 hv h
  exact ⟨s, e, hs⟩
set_option maxRecDepth 100000 in
theorem open_byt {a : Option Addr} {len cap : Nat} {d : DataW H} {p : List MemPlace} (h : DataW.Trod enc Try.prog W bs (fun _ => true) held 41 (.slice a len cap) d p) : ∃ l, Bts W a len cap l := by
  obtain ⟨fuel, hf⟩ := h
  obtain ⟨a', l', c', z, e, hz⟩ := cell_bytes (v := .slice a len cap) (by simpa [Value.cells] using hf)
  cases e
  exact ⟨z, hz⟩
set_option maxRecDepth 100000 in
theorem cell_chs {fuel : Nat} {v : Value} {x : DataW H × List MemPlace} (hf : DataW.trod enc Try.prog W bs (fun _ => true) held fuel 34 [v] = some x) : ∃ a l c L, v = .slice a l c ∧ Chs W a l c L := by
  have hC : Try.prog.cellsOf 69 = 3 := by kernel_rfl
  have q1 : Try.prog.cellsOf 9 = 1 := by kernel_rfl
  have q2 : Try.prog.cellsOf 4 = 1 := by kernel_rfl
  have q3 : Try.prog.cellsOf 41 = 1 := by kernel_rfl
  rcases Deep.open_slice Try.underlying34 hf with ⟨hcs, _⟩ | ⟨a, len, cap, m, n, D, Pl, hcs, _, hl, hm, hmm, _, hel⟩
  · exact ⟨none, 0, 0, [], by simpa using hcs, RT.nil _ _, by simp⟩
  · have hmm' : m = cap := by simpa using hmm
    rw [hC] at hel
    have hone : ∀ i, i < len → ∃ k : It Chg, W.cell? ((a.add (i * 3)).add 0) = some (.string k.x.key) ∧ W.cell? ((a.add (i * 3)).add 1) = some (.bool k.x.del) ∧ W.cell? ((a.add (i * 3)).add 2) = some (.slice k.a k.n k.c) ∧ Bts W k.a k.n k.c k.x.val ∧ k.x.key.size ≤ maxLen := by
      intro i hi
      obtain ⟨cs, e1, e2⟩ := hel i (by omega)
      obtain ⟨_, hlen, hcell⟩ := World.cells?_some e1
      obtain ⟨y0, y1, y2, n', _, _, h0, h1, h2⟩ := Deep.trod_struct3 Try.underlying69 e2
      match cs, hlen with
      | [v0, v1, v2], _ =>
        have g0 := cell_str (v := v0) (by simpa [q1] using h0)
        have g1 := cell_bool (v := v1) (by simpa [q2] using h1)
        have g2 := cell_bytes (v := v2) (by simpa [q3] using h2)
        obtain ⟨s, rfl, hs⟩ := g0
        obtain ⟨b, rfl⟩ := g1
        obtain ⟨a2, l2, c2, z, rfl, hz⟩ := g2
        exact ⟨⟨⟨s, b, z⟩, a2, l2, c2⟩, hcell 0 (by decide), hcell 1 (by decide), hcell 2 (by decide), hz, hs⟩
    obtain ⟨f, hfn⟩ := @Deep.choose_lt (It Chg) ⟨⟨⟨⟨#[]⟩, false, []⟩, none, 0, 0⟩⟩ _ _ hone
    refine ⟨some a, len, cap, (List.range len).map (fun i => (f i).x), by simpa using hcs, ⟨by simp, hl, hm, fun hp => ?_⟩, fun c hc => ?_⟩
    · obtain ⟨b, off, sp⟩ := a
      obtain ⟨h00, _⟩ := hfn 0 hp
      have hsp : sp = none := by simpa [Addr.add] using World.cell?_spot h00
      subst hsp
      have hbl : b < W.heap.size := by have := World.block_lt_of_cell? W _ h00; simpa [Addr.add] using this
      refine ⟨b, off, rfl, hbl, hbl, fun i hi => ⟨f i, by rw [List.getElem?_map, List.getElem?_range hi]; rfl, fun j hj => ?_, (hfn i hi).2.2.2.1, fun hp2 p e => (hfn i hi).2.2.2.1.lt hp2 e⟩⟩
      obtain ⟨e0, e1, e2, _⟩ := hfn i hi
      simp only [Addr.add_lit] at e0 e1 e2
      match j, hj with
      | 0, _ => exact e0
      | 1, _ => exact e1
      | 2, _ => exact e2
    · obtain ⟨i, hi, rfl⟩ := List.mem_map.1 hc
      have := (hfn i (List.mem_range.1 hi)).2.2.2.2
      unfold maxLen at this
      omega
set_option maxRecDepth 100000 in
theorem open_chs {a : Option Addr} {len cap : Nat} {d : DataW H} {p : List MemPlace} (h : DataW.Trod enc Try.prog W bs (fun _ => true) held 34 (.slice a len cap) d p) : ∃ L, Chs W a len cap L := by
  obtain ⟨fuel, hf⟩ := h
  obtain ⟨a', l', c', L, e, hL⟩ := cell_chs (v := .slice a len cap) (by simpa [Value.cells] using hf)
  cases e
  exact ⟨L, hL⟩
end
end Go.Proofs.Ytjnjokbdoendkab
