/- Calls that came in; rows of bools that came in. -/
import Derived.Test.YtedingegmiacmaaIvIn
import Derived.Test.YtedingegmiacmaaBvMem
namespace Go.Proofs.Ytedingegmiacmaa
open Go.ChangeShapes Go.WideShapes Go.ChangeAt Go.RowKit

def dqC (p : Int × Int) : List Value := [.int .i64 p.1, .int .i64 p.2]
set_option maxRecDepth 100000 in
theorem dqC_len (p : Int × Int) : (dqC p).length = 2 := rfl
/-- calls in memory: the kind, the number -/
abbrev Dqs := Ls dqC 2
set_option maxRecDepth 100000 in
theorem Ls.dq {w : World} {ao : Option Addr} {len cap : Nat} {L : List (Int × Int)} (h : Dqs w ao len cap L) (i : Nat) (hi : i < len) : ∃ b off, ao = some ⟨b, off, none⟩ ∧ b < w.heap.size ∧ w.cell? ⟨b, off + i * 2, none⟩ = some (.int .i64 (L.getD i (0, 0)).1) ∧ w.cell? ⟨b, off + i * 2 + 1, none⟩ = some (.int .i64 (L.getD i (0, 0)).2) := by
  obtain ⟨b, off, e, hlt, hc⟩ := h.spot (by omega)
  have hi2 : i < L.length := by rw [h.len_eq]; exact hi
  have e1 : L.getD i (0, 0) = L[i] := by rw [List.getD_eq_getElem?_getD, List.getElem?_eq_getElem hi2]; rfl
  rw [e1]
  exact ⟨b, off, e, hlt, hc i hi2 0 (by decide), hc i hi2 1 (by decide)⟩
/-- rows of bools in memory -/
structure Bbs (w : World) (ao : Option Addr) (len cap : Nat) (T : List (List Bool)) : Prop where
  len_eq : T.length = len
  le_cap : len ≤ cap
  cap_le : cap ≤ maxLen
  spot : 0 < len → ∃ b off, ao = some ⟨b, off, none⟩ ∧ b < w.heap.size ∧ ∀ i, i < len → ∃ ai li ci, w.cell? ⟨b, off + i, none⟩ = some (.slice ai li ci) ∧ Bvs w ai li ci (T.getD i [])
set_option maxRecDepth 100000 in
theorem Bbs.below {w w' : World} {ao : Option Addr} {len cap : Nat} {T : List (List Bool)} (h : Bbs w ao len cap T) (hb : Below w.heap.size w w') : Bbs w' ao len cap T :=
  ⟨h.len_eq, h.le_cap, h.cap_le, fun hp => by
    obtain ⟨b, off, e, hlt, hc⟩ := h.spot hp
    refine ⟨b, off, e, Nat.lt_of_lt_of_le hlt hb.size, fun i hi => ?_⟩
    obtain ⟨ai, li, ci, h1, h2⟩ := hc i hi
    exact ⟨ai, li, ci, (hb.cell hlt).trans h1, h2.below hb⟩⟩
section
variable {H : Type} {enc : TypeId × Value → H} {W : World} {held : Bool} {bs : Nat}
set_option maxRecDepth 100000 in
theorem open_dqs {a : Option Addr} {len cap : Nat} {d : DataW H} {p : List MemPlace} (h : DataW.Trod enc Try.prog W bs (fun _ => true) held 22 (.slice a len cap) d p) : ∃ L, Dqs W a len cap L := by
  obtain ⟨fuel, hf⟩ := h
  have hC : Try.prog.cellsOf 33 = 2 := by kernel_rfl
  have q1 : Try.prog.cellsOf 3 = 1 := by kernel_rfl
  rcases Deep.open_slice Try.underlying22 hf with ⟨hcs, _⟩ | ⟨a, l, c, m, n, D, Pl, hcs, _, hl, hm, hmm, _, hel⟩
  · simp [Value.cells] at hcs
    obtain ⟨rfl, rfl, rfl⟩ := hcs
    exact ⟨[], Ls.empty _⟩
  · simp [Value.cells] at hcs
    obtain ⟨rfl, rfl, rfl⟩ := hcs
    have hmm' : m = cap := by simpa using hmm
    rw [hC] at hel
    have hone : ∀ i, i < len → ∃ k : Int × Int, W.cell? ((a.add (i * 2)).add 0) = some (.int .i64 k.1) ∧ W.cell? ((a.add (i * 2)).add 1) = some (.int .i64 k.2) := by
      intro i hi
      obtain ⟨cs, e1, e2⟩ := hel i (by omega)
      obtain ⟨_, hlen, hcell⟩ := World.cells?_some e1
      obtain ⟨y0, y1, n', _, _, h0, h1⟩ := trod_struct2 Try.underlying33 e2
      match cs, hlen with
      | [v0, v1], _ =>
        have g0 := cell_int (v := v0) (by simpa [q1] using h0)
        have g1 := cell_int (v := v1) (by simpa [q1] using h1)
        obtain ⟨n0, rfl, b0⟩ := g0
        obtain ⟨n1, rfl, b1⟩ := g1
        exact ⟨⟨n0, n1⟩, hcell 0 (by decide), hcell 1 (by decide)⟩
    obtain ⟨f, hfn⟩ := @Deep.choose_lt (Int × Int) ⟨(0, 0)⟩ _ _ hone
    refine ⟨(List.range len).map f, ⟨by simp, hl, hm, (fun hh => by cases hh), fun hp => ?_⟩⟩
    obtain ⟨b, off, sp⟩ := a
    obtain ⟨h00, _⟩ := hfn 0 hp
    have hsp : sp = none := by simpa [Addr.add] using World.cell?_spot h00
    subst hsp
    refine ⟨b, off, rfl, by have := World.block_lt_of_cell? W _ h00; simpa [Addr.add] using this, fun i hi j hj => ?_⟩
    have hi2 : i < len := by simpa using hi
    obtain ⟨e0, e1⟩ := hfn i hi2
    simp only [Addr.add_lit] at e0 e1
    have hg : ((List.range len).map f)[i] = f i := by simp
    rw [hg]
    match j, hj with
    | 0, _ => exact e0
    | 1, _ => exact e1
set_option maxRecDepth 100000 in
theorem bvs_of {a : Addr} {len cap : Nat} {B : Nat → Bool} (hl : len ≤ cap) (hm : cap ≤ maxLen) (hc : ∀ i, i < cap → W.cell? (a.add i) = some (.bool (B i))) : Bvs W (some a) len cap ((List.range len).map B) := by
  refine ⟨by simp, hl, hm, (fun hh => by cases hh), fun hp => ?_⟩
  obtain ⟨b, off, sp⟩ := a
  have h0 := hc 0 (by omega)
  have hsp : sp = none := by simpa [Addr.add] using World.cell?_spot h0
  subst hsp
  refine ⟨b, off, rfl, by have := World.block_lt_of_cell? W _ h0; simpa [Addr.add] using this, fun i hi j hj => ?_⟩
  have hi2 : i < len := by simpa using hi
  have h1 := hc i (by omega)
  rw [Addr.add_lit] at h1
  obtain rfl : j = 0 := by omega
  have hg : ((List.range len).map B)[i] = B i := by simp
  rw [Nat.mul_one, Nat.add_zero, h1, hg]; rfl
set_option maxRecDepth 100000 in
theorem open_bbs {a : Option Addr} {len cap : Nat} {d : DataW H} {p : List MemPlace} (h : DataW.Trod enc Try.prog W bs (fun _ => true) held 49 (.slice a len cap) d p) : ∃ T, Bbs W a len cap T := by
  obtain ⟨fuel, hf⟩ := h
  rcases Deep.open_slice1 Try.underlying49 (by kernel_rfl) hf with ⟨hcs, _⟩ | ⟨a, l, c, m, n, V, D, Pl, hcs, _, hl, hm, hmm, _, hel⟩
  · simp [Value.cells] at hcs
    obtain ⟨rfl, rfl, rfl⟩ := hcs
    exact ⟨[], rfl, Nat.le_refl _, Nat.zero_le _, fun hp => absurd hp (Nat.lt_irrefl _)⟩
  · simp [Value.cells] at hcs
    obtain ⟨rfl, rfl, rfl⟩ := hcs
    have hmm' : m = cap := by simpa using hmm
    have hone : ∀ i, i < len → ∃ z : List Bool, ∃ ai li ci, W.cell? (a.add i) = some (.slice ai li ci) ∧ Bvs W ai li ci z := by
      intro i hi
      obtain ⟨e1, e2⟩ := hel i (by omega)
      rcases Deep.open_bools Try.underlying45 Try.underlying4 (by kernel_rfl) e2 with ⟨hcs, _⟩ | ⟨x, l2, c2, B, hcs, _, hl2, hm2, _, hcell⟩
      · have hVi : V i = .slice none 0 0 := by simpa using hcs
        exact ⟨[], none, 0, 0, by rw [e1, hVi], Ls.empty _⟩
      · have hVi : V i = .slice (some x) l2 c2 := by simpa using hcs
        exact ⟨_, some x, l2, c2, by rw [e1, hVi], bvs_of hl2 hm2 hcell⟩
    obtain ⟨f, hfn⟩ := @Deep.choose_lt (List Bool) ⟨[]⟩ _ _ hone
    refine ⟨(List.range len).map f, by simp, hl, hm, fun hp => ?_⟩
    obtain ⟨b, off, sp⟩ := a
    obtain ⟨_, _, _, h00, _⟩ := hfn 0 hp
    have hsp : sp = none := by simpa [Addr.add] using World.cell?_spot h00
    subst hsp
    refine ⟨b, off, rfl, by have := World.block_lt_of_cell? W _ h00; simpa [Addr.add] using this, fun i hi => ?_⟩
    obtain ⟨ai, li, ci, e1, e2⟩ := hfn i hi
    rw [Addr.add_lit] at e1
    refine ⟨ai, li, ci, e1, ?_⟩
    rw [List.getD_eq_getElem?_getD, List.getElem?_map, List.getElem?_range hi]; exact e2
end
end Go.Proofs.Ytedingegmiacmaa
