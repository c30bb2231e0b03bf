/- Events that came in, beside instructions. -/
import Derived.Test.YtbjeeefkbmdmfabInsIn
import Derived.Test.YtbjeeefkbmdmfabLnd
namespace Go.Proofs.Ytbjeeefkbmdmfab
open Go.ChangeShapes Go.WideShapes Go.ChangeAt Go.RowKit

/-- events that came in -/
def EvsI (w : World) (ao : Option Addr) (len cap : Nat) (L : List Ev) : Prop := Evs w ao len cap L ∧ EvsK L
section
variable {H : Type} {enc : TypeId × Value → H} {W : World} {held : Bool} {bs : Nat}
set_option maxRecDepth 100000 in
theorem open_evs {a : Option Addr} {len cap : Nat} {d : DataW H} {p : List MemPlace} (h : DataW.Trod enc Try.prog W bs (fun _ => true) held 23 (.slice a len cap) d p) : ∃ L, EvsI W a len cap L := by
  obtain ⟨fuel, hf⟩ := h
  have hC : Try.prog.cellsOf 54 = 4 := by kernel_rfl
  have q1 : Try.prog.cellsOf 3 = 1 := by kernel_rfl
  have q2 : Try.prog.cellsOf 4 = 1 := by kernel_rfl
  have q3 : Try.prog.cellsOf 2 = 1 := by kernel_rfl
  rcases Deep.open_slice Try.underlying23 hf with ⟨hcs, _⟩ | ⟨a, l, c, m, n, D, Pl, hcs, _, hl, hm, hmm, _, hel⟩
  · simp [Value.cells] at hcs
    obtain ⟨rfl, rfl, rfl⟩ := hcs
    exact ⟨[], Ls.empty _, fun x hx => by cases hx⟩
  · simp [Value.cells] at hcs
    obtain ⟨rfl, rfl, rfl⟩ := hcs
    have hmm' : m = cap := by simpa using hmm
    rw [hC] at hel
    have hone : ∀ i, i < len → ∃ k : Ev, W.cell? ((a.add (i * 4)).add 0) = some (.int .i64 k.c) ∧ W.cell? ((a.add (i * 4)).add 1) = some (.bool k.k) ∧ W.cell? ((a.add (i * 4)).add 2) = some (.int .i64 k.o) ∧ W.cell? ((a.add (i * 4)).add 3) = some (.int .i64 k.v) ∧ EvK k := by
      intro i hi
      obtain ⟨cs, e1, e2⟩ := hel i (by omega)
      obtain ⟨_, hlen, hcell⟩ := World.cells?_some e1
      obtain ⟨y0, y1, y2, y3, n', _, _, h0, h1, h2, h3⟩ := Joins.trod_struct4 Try.underlying54 e2
      match cs, hlen with
      | [v0, v1, v2, v3], _ =>
        have g0 := cell_int (v := v0) (by simpa [q1] using h0)
        have g1 := cell_bool (v := v1) (by simpa [q2] using h1)
        have g2 := cell_int (v := v2) (by simpa [q1] using h2)
        have g3 := cell_long (v := v3) (by simpa [q3] using h3)
        obtain ⟨n0, rfl, b0⟩ := g0
        obtain ⟨n1, rfl⟩ := g1
        obtain ⟨n2, rfl, b2⟩ := g2
        obtain ⟨n3, rfl, b3⟩ := g3
        exact ⟨⟨n0, n1, n2, n3⟩, hcell 0 (by decide), hcell 1 (by decide), hcell 2 (by decide), hcell 3 (by decide), ⟨b0, b2, b3⟩⟩
    obtain ⟨f, hfn⟩ := @Deep.choose_lt Ev ⟨ev0⟩ _ _ hone
    refine ⟨(List.range len).map f, ⟨by simp, hl, hm, (fun hh => by cases hh), fun hp => ?_⟩, fun x hx => ?_⟩
    · obtain ⟨b, off, sp⟩ := a
      obtain ⟨h00, _⟩ := hfn 0 hp
      have hsp : sp = none := by simpa [Addr.add] using World.cell?_spot h00
      subst hsp
      refine ⟨b, off, rfl, by have := World.block_lt_of_cell? W _ h00; simpa [Addr.add] using this, fun i hi j hj => ?_⟩
      have hi2 : i < len := by simpa using hi
      obtain ⟨e0, e1, e2, e3, _⟩ := hfn i hi2
      simp only [Addr.add_lit] at e0 e1 e2 e3
      have hg : ((List.range len).map f)[i] = f i := by simp
      rw [hg]
      match j, hj with
      | 0, _ => exact e0
      | 1, _ => exact e1
      | 2, _ => exact e2
      | 3, _ => exact e3
    · obtain ⟨i, hi, rfl⟩ := List.mem_map.1 hx
      exact (hfn i (List.mem_range.1 hi)).2.2.2.2
end
set_option maxRecDepth 100000 in
theorem evs_under : Try.prog.underlying 23 = some (.slice (Try.prog.elem 23)) := by kernel_rfl
set_option maxRecDepth 100000 in
theorem evs_size (w : World) : (sizeOf (Try.prog.elem 23)).run Try.prog w = .ok 4 w := by kernel_rfl
set_option maxRecDepth 100000 in
theorem evs_cut (g off len cap q : Nat) (hq : q ≤ cap) (w : World) : (Instr.sliceAt 23 (.slice (some ⟨g, off, none⟩) len cap) none (some (.int .i64 q)) none).run Try.prog w = .ok (.slice (some ⟨g, off, none⟩) q cap) w := by
  rw [run_sliceAt_slice w _ _ _ _ _ evs_under, run_slice_h w _ _ len cap evs_under .i64 q (by omega) (by omega), evs_size]
  simp [sliced, Addr.add_lit]
end Go.Proofs.Ytbjeeefkbmdmfab
