/- Operations and numbers that came in. -/
import Derived.Test.YtbjeeefkbmdmfaaInsIn
import Derived.Test.YtbjeeefkbmdmfaaLnd
namespace Go.Proofs.Ytbjeeefkbmdmfaa
open Go.ChangeShapes Go.WideShapes Go.ChangeAt Go.RowKit

/-- its numbers fit -/
structure OrK (x : Opr) : Prop where
  c : V64 x.c
  o : V64 x.o
  a : V64 x.a
  r : V64 x.r
  f : V64 x.f
  t : V64 x.t
def OrsK (L : List Opr) : Prop := ∀ x ∈ L, OrK x
set_option maxRecDepth 100000 in
theorem OrsK.take {L : List Opr} (h : OrsK L) (n : Nat) : OrsK (L.take n) := fun x hx => h x (List.mem_of_mem_take hx)
set_option maxRecDepth 100000 in
theorem OrsK.get {L : List Opr} (h : OrsK L) (i : Nat) (hi : i < L.length) : OrK (L.getD i op0) := by
  rw [List.getD_eq_getElem?_getD, List.getElem?_eq_getElem hi]; exact h _ (List.getElem_mem hi)
def IvK (L : List Int) : Prop := ∀ x ∈ L, V64 x
set_option maxRecDepth 100000 in
theorem IvK.take {L : List Int} (h : IvK L) (n : Nat) : IvK (L.take n) := fun x hx => h x (List.mem_of_mem_take hx)
set_option maxRecDepth 100000 in
theorem IvK.get {L : List Int} (h : IvK L) (i : Nat) (hi : i < L.length) (z : Int) : V64 (L.getD i z) := by
  rw [List.getD_eq_getElem?_getD, List.getElem?_eq_getElem hi]; exact h _ (List.getElem_mem hi)
/-- operations, numbers that came in -/
def OrsI (w : World) (ao : Option Addr) (len cap : Nat) (L : List Opr) : Prop := Ors w ao len cap L ∧ OrsK L
def IvsI (w : World) (ao : Option Addr) (len cap : Nat) (L : List Int) : Prop := Ivs w ao len cap L ∧ IvK L
section
variable {H : Type} {enc : TypeId × Value → H} {W : World} {held : Bool} {bs : Nat}
set_option maxRecDepth 100000 in
theorem cells_or {fuel : Nat} {cs : List Value} {x : DataW H × List MemPlace} {sp : Nat → Bool} (h : DataW.trod enc Try.prog W bs sp held fuel 35 cs = some x) : ∃ c, cs = orC c ∧ OrK c := by
  obtain ⟨xs, n, _, _, hl, hlen, hf⟩ := DataW.trod_struct Try.underlying35 h
  have hct : Try.prog.cellsOf 35 = 7 := by kernel_rfl
  have q1 : Try.prog.cellsOf 3 = 1 := by kernel_rfl
  have q2 : Try.prog.cellsOf 4 = 1 := by kernel_rfl
  have q3 : Try.prog.cellsOf 2 = 1 := by kernel_rfl
  rw [hct] at hl
  match cs, hl, xs, hlen with
  | [v0, v1, v2, v3, v4, v5, v6], _, [y0, y1, y2, y3, y4, y5, y6], _ =>
    obtain ⟨n0, rfl, b0⟩ := cell_int (v := v0) (by simpa [q1] using hf 0 _ rfl)
    obtain ⟨n1, rfl, b1⟩ := cell_int (v := v1) (by simpa [q1] using hf 1 _ rfl)
    obtain ⟨n2, rfl, b2⟩ := cell_long (v := v2) (by simpa [q3] using hf 2 _ rfl)
    obtain ⟨n3, rfl⟩ := cell_bool (v := v3) (by simpa [q2] using hf 3 _ rfl)
    obtain ⟨n4, rfl, b4⟩ := cell_long (v := v4) (by simpa [q3] using hf 4 _ rfl)
    obtain ⟨n5, rfl, b5⟩ := cell_int (v := v5) (by simpa [q1] using hf 5 _ rfl)
    obtain ⟨n6, rfl, b6⟩ := cell_int (v := v6) (by simpa [q1] using hf 6 _ rfl)
    exact ⟨⟨n0, n1, n2, n3, n4, n5, n6⟩, rfl, b0, b1, b2, b4, b5, b6⟩
set_option maxRecDepth 100000 in
theorem open_ors {a : Option Addr} {len cap : Nat} {d : DataW H} {p : List MemPlace} (h : DataW.Trod enc Try.prog W bs (fun _ => true) held 23 (.slice a len cap) d p) : ∃ L, OrsI W a len cap L := by
  obtain ⟨fuel, hf⟩ := h
  have hC : Try.prog.cellsOf 35 = 7 := by kernel_rfl
  rcases Deep.open_slice Try.underlying23 hf with ⟨hcs, _⟩ | ⟨a, l, c, m, n, D, Pl, hcs, _, hl, hm, hmm, _, hel⟩
  · simp [Value.cells] at hcs
    obtain ⟨rfl, rfl, rfl⟩ := hcs
    exact ⟨[], Ls.empty _, fun x hx => by cases hx⟩
  · simp [Value.cells] at hcs
    obtain ⟨rfl, rfl, rfl⟩ := hcs
    have hmm' : m = cap := by simpa using hmm
    rw [hC] at hel
    have hone : ∀ i, i < len → ∃ k : Opr, (∀ j, j < 7 → W.cell? ((a.add (i * 7)).add j) = (orC k)[j]?) ∧ OrK k := by
      intro i hi
      obtain ⟨cs, e1, e2⟩ := hel i (by omega)
      obtain ⟨_, hlen, hcell⟩ := World.cells?_some e1
      obtain ⟨k, rfl, hk⟩ := cells_or e2
      exact ⟨k, fun j hj => by rw [hcell j hj, List.getElem?_eq_getElem (by rw [orC_len]; exact hj)], hk⟩
    obtain ⟨f, hfn⟩ := @Deep.choose_lt Opr ⟨op0⟩ _ _ hone
    refine ⟨(List.range len).map f, ⟨by simp, hl, hm, (fun hh => by cases hh), fun hp => ?_⟩, fun x hx => ?_⟩
    · obtain ⟨b, off, sp⟩ := a
      have h00 := (hfn 0 hp).1 0 (by decide)
      have hsp : sp = none := by simpa [Addr.add] using World.cell?_spot (h00.trans rfl)
      subst hsp
      refine ⟨b, off, rfl, by have := World.block_lt_of_cell? W _ (h00.trans rfl); simpa [Addr.add] using this, fun i hi j hj => ?_⟩
      have hi2 : i < len := by simpa using hi
      have e0 := (hfn i hi2).1 j hj
      simp only [Addr.add_lit] at e0
      have hg : ((List.range len).map f)[i] = f i := by simp
      rw [hg]
      exact e0
    · obtain ⟨i, hi, rfl⟩ := List.mem_map.1 hx
      exact (hfn i (List.mem_range.1 hi)).2
set_option maxRecDepth 100000 in
theorem open_ivs {a : Option Addr} {len cap : Nat} {d : DataW H} {p : List MemPlace} (h : DataW.Trod enc Try.prog W bs (fun _ => true) held 37 (.slice a len cap) d p) : ∃ L, IvsI W a len cap L := by
  obtain ⟨fuel, hf⟩ := h
  have hC : Try.prog.cellsOf 3 = 1 := by kernel_rfl
  rcases Deep.open_slice Try.underlying37 hf with ⟨hcs, _⟩ | ⟨a, l, c, m, n, D, Pl, hcs, _, hl, hm, hmm, _, hel⟩
  · simp [Value.cells] at hcs
    obtain ⟨rfl, rfl, rfl⟩ := hcs
    exact ⟨[], Ls.empty _, fun x hx => by cases hx⟩
  · simp [Value.cells] at hcs
    obtain ⟨rfl, rfl, rfl⟩ := hcs
    have hmm' : m = cap := by simpa using hmm
    rw [hC] at hel
    have hone : ∀ i, i < len → ∃ k : Int, W.cell? ((a.add (i * 1)).add 0) = some (.int .i64 k) ∧ V64 k := by
      intro i hi
      obtain ⟨cs, e1, e2⟩ := hel i (by omega)
      obtain ⟨_, hlen, hcell⟩ := World.cells?_some e1
      match cs, hlen with
      | [v0], _ =>
        obtain ⟨k, rfl, hk⟩ := cell_int (v := v0) e2
        exact ⟨k, hcell 0 (by decide), hk⟩
    obtain ⟨f, hfn⟩ := @Deep.choose_lt Int ⟨0⟩ _ _ hone
    refine ⟨(List.range len).map f, ⟨by simp, hl, hm, (fun hh => by cases hh), fun hp => ?_⟩, fun x hx => ?_⟩
    · obtain ⟨b, off, sp⟩ := a
      have h00 := (hfn 0 hp).1
      have hsp : sp = none := by simpa [Addr.add] using World.cell?_spot h00
      subst hsp
      refine ⟨b, off, rfl, by have := World.block_lt_of_cell? W _ h00; simpa [Addr.add] using this, fun i hi j hj => ?_⟩
      have hi2 : i < len := by simpa using hi
      have e0 := (hfn i hi2).1
      simp only [Addr.add_lit] at e0
      have hg : ((List.range len).map f)[i] = f i := by simp
      rw [hg]
      match j, hj with
      | 0, _ => exact e0
    · obtain ⟨i, hi, rfl⟩ := List.mem_map.1 hx
      exact (hfn i (List.mem_range.1 hi)).2
end
end Go.Proofs.Ytbjeeefkbmdmfaa
