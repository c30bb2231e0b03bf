/- Instructions that came in, bools, bytes, numbers. -/
import Derived.Test.YtbjeeefkbmdmfaaLnd
import Derived.Test.YtbjeeefkbmdmfaaLna
import Derived.ShutString
import Derived.ChangeOld
import Derived.Below
import Derived.Deep.Slices
import Derived.Deep.Grids
import Derived.Lib.SmallJoins
namespace Go.Proofs.Ytbjeeefkbmdmfaa
open Go.ChangeShapes Go.WideShapes Go.ChangeAt Go.RowKit

/-- numbers that fit -/
def I64 (x : Int) : Prop := -9223372036854775808 ≤ x ∧ x ≤ 9223372036854775807
/-- instructions that came in -/
def IcsK (L : List Ic) : Prop := ∀ x ∈ L, V64 x.n
set_option maxRecDepth 100000 in
theorem IcsK.take {L : List Ic} (h : IcsK L) (n : Nat) : IcsK (L.take n) := fun x hx => h x (List.mem_of_mem_take hx)
def IcsI (w : World) (ao : Option Addr) (len cap : Nat) (L : List Ic) : Prop := Ics w ao len cap L ∧ IcsK L
abbrev Bls := Bvs
section
variable {H : Type} {enc : TypeId × Value → H} {W : World} {held : Bool} {bs : Nat}
set_option maxRecDepth 100000 in
theorem cell_bool {fuel : Nat} {v : Value} {x : DataW H × List MemPlace} {sp : Nat → Bool} (h : DataW.trod enc Try.prog W bs sp held fuel 4 [v] = some x) : ∃ b : Bool, v = .bool b := by
  obtain ⟨b, h1, _⟩ := DataW.trod_bool Try.underlying4 h
  exact ⟨b, by simpa using h1⟩
set_option maxRecDepth 100000 in
theorem cell_int {fuel : Nat} {v : Value} {x : DataW H × List MemPlace} {sp : Nat → Bool} (h : DataW.trod enc Try.prog W bs sp held fuel 3 [v] = some x) : ∃ n, v = .int .i64 n ∧ V64 n := by
  obtain ⟨n, h1, _, h2⟩ := DataW.trod_int Try.underlying3 h
  exact ⟨n, by simpa using h1, bounds_i64 h2⟩
set_option maxRecDepth 100000 in
theorem cell_long {fuel : Nat} {v : Value} {x : DataW H × List MemPlace} {sp : Nat → Bool} (h : DataW.trod enc Try.prog W bs sp held fuel 2 [v] = some x) : ∃ n, v = .int .i64 n ∧ V64 n := by
  obtain ⟨n, h1, _, h2⟩ := DataW.trod_int Try.underlying2 h
  exact ⟨n, by simpa using h1, bounds_i64 h2⟩
set_option maxRecDepth 100000 in
theorem open_i64 {base : Nat} {v : Value} {d : DataW H} {p : List MemPlace} {sp : Nat → Bool}
    (hv : Value.okWide Try.prog W .any base 3 v) (h : DataW.Trod enc Try.prog W bs sp held 3 v d p) : ∃ x, v = .int .i64 x ∧ I64 x := by
  obtain ⟨x, e, _, _, hw⟩ := open_int Try.underlying3 hv h
  exact ⟨x, e, bounds_i64 hw⟩
set_option maxRecDepth 100000 in
theorem open_ics {a : Option Addr} {len cap : Nat} {d : DataW H} {p : List MemPlace} (h : DataW.Trod enc Try.prog W bs (fun _ => true) held 22 (.slice a len cap) d p) : ∃ L, IcsI W a len cap L := by
  obtain ⟨fuel, hf⟩ := h
  have hC : Try.prog.cellsOf 77 = 2 := by kernel_rfl
  have q1 : Try.prog.cellsOf 3 = 1 := by kernel_rfl
  have q3 : Try.prog.cellsOf 2 = 1 := by kernel_rfl
  rcases Deep.open_slice Try.underlying22 hf with ⟨hcs, _⟩ | ⟨a, l, c, m, n, D, Pl, hcs, _, hl, hm, hmm, _, hel⟩
  · simp [Value.cells] at hcs
    obtain ⟨rfl, rfl, rfl⟩ := hcs
    exact ⟨[], Ls.empty _, fun x hx => by cases hx⟩
  · simp [Value.cells] at hcs
    obtain ⟨rfl, rfl, rfl⟩ := hcs
    have hmm' : m = cap := by simpa using hmm
    rw [hC] at hel
    have hone : ∀ i, i < len → ∃ k : Ic, W.cell? ((a.add (i * 2)).add 0) = some (.int .i64 k.o) ∧ W.cell? ((a.add (i * 2)).add 1) = some (.int .i64 k.n) ∧ V64 k.n := by
      intro i hi
      obtain ⟨cs, e1, e2⟩ := hel i (by omega)
      obtain ⟨_, hlen, hcell⟩ := World.cells?_some e1
      obtain ⟨y0, y1, n', _, _, h0, h1⟩ := trod_struct2 Try.underlying77 e2
      match cs, hlen with
      | [v0, v1], _ =>
        have g0 := cell_int (v := v0) (by simpa [q1] using h0)
        have g1 := cell_long (v := v1) (by simpa [q3] using h1)
        obtain ⟨n0, rfl, b0⟩ := g0
        obtain ⟨n1, rfl, b1⟩ := g1
        exact ⟨⟨n0, n1⟩, hcell 0 (by decide), hcell 1 (by decide), b1⟩
    obtain ⟨f, hfn⟩ := @Deep.choose_lt Ic ⟨ic0⟩ _ _ hone
    refine ⟨(List.range len).map f, ⟨by simp, hl, hm, (fun hh => by cases hh), fun hp => ?_⟩, fun x hx => ?_⟩
    · obtain ⟨b, off, sp⟩ := a
      obtain ⟨h00, _⟩ := hfn 0 hp
      have hsp : sp = none := by simpa [Addr.add] using World.cell?_spot h00
      subst hsp
      refine ⟨b, off, rfl, by have := World.block_lt_of_cell? W _ h00; simpa [Addr.add] using this, fun i hi j hj => ?_⟩
      have hi2 : i < len := by simpa using hi
      obtain ⟨e0, e1, _⟩ := hfn i hi2
      simp only [Addr.add_lit] at e0 e1
      have hg : ((List.range len).map f)[i] = f i := by simp
      rw [hg]
      match j, hj with
      | 0, _ => exact e0
      | 1, _ => exact e1
    · obtain ⟨i, hi, rfl⟩ := List.mem_map.1 hx
      exact (hfn i (List.mem_range.1 hi)).2.2
set_option maxRecDepth 100000 in
theorem open_bls {a : Option Addr} {len cap : Nat} {d : DataW H} {p : List MemPlace} (h : DataW.Trod enc Try.prog W bs (fun _ => true) held 86 (.slice a len cap) d p) : ∃ K, Bls W a len cap K := by
  obtain ⟨fuel, hf⟩ := h
  have hC : Try.prog.cellsOf 4 = 1 := by kernel_rfl
  rcases Deep.open_slice Try.underlying86 hf with ⟨hcs, _⟩ | ⟨a, l, c, m, n, D, Pl, hcs, _, hl, hm, hmm, _, hel⟩
  · simp [Value.cells] at hcs
    obtain ⟨rfl, rfl, rfl⟩ := hcs
    exact ⟨[], Ls.empty _⟩
  · simp [Value.cells] at hcs
    obtain ⟨rfl, rfl, rfl⟩ := hcs
    have hmm' : m = cap := by simpa using hmm
    rw [hC] at hel
    have hone : ∀ i, i < len → ∃ k : Bool, W.cell? ((a.add (i * 1)).add 0) = some (.bool k) := by
      intro i hi
      obtain ⟨cs, e1, e2⟩ := hel i (by omega)
      obtain ⟨_, hlen, hcell⟩ := World.cells?_some e1
      match cs, hlen with
      | [v0], _ =>
        obtain ⟨k, rfl⟩ := cell_bool (v := v0) e2
        exact ⟨k, hcell 0 (by decide)⟩
    obtain ⟨f, hfn⟩ := @Deep.choose_lt Bool ⟨false⟩ _ _ hone
    refine ⟨(List.range len).map f, ⟨by simp, hl, hm, (fun hh => by cases hh), fun hp => ?_⟩⟩
    obtain ⟨b, off, sp⟩ := a
    have h00 := hfn 0 hp
    have hsp : sp = none := by simpa [Addr.add] using World.cell?_spot h00
    subst hsp
    refine ⟨b, off, rfl, by have := World.block_lt_of_cell? W _ h00; simpa [Addr.add] using this, fun i hi j hj => ?_⟩
    have hi2 : i < len := by simpa using hi
    have e0 := hfn i hi2
    simp only [Addr.add_lit] at e0
    have hg : ((List.range len).map f)[i] = f i := by simp
    rw [hg]
    match j, hj with
    | 0, _ => exact e0
end
end Go.Proofs.Ytbjeeefkbmdmfaa
