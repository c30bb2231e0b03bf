/- Calls that came in, bools that came in, and numbers. -/
import Derived.Test.YtigaciflbgbolaaWalPut2
import Derived.ShutString
import Derived.ChangeOld
import Derived.Below
import Derived.Deep.Slices
import Derived.Deep.Grids
import Derived.Lib.SmallJoins
namespace Go.Proofs.Ytigaciflbgbolaa
open Go.ChangeShapes Go.WideShapes Go.ChangeAt Go.RowKit

/-- a call, as the law has it -/
structure DoM where
  kind : Int
  n : Int
  long : Int
  b : List Int
  keep : List Bool
/-- no call -/
def doZ : DoM := ⟨0, 0, 0, [], []⟩
/-- numbers that fit -/
def I64 (x : Int) : Prop := -9223372036854775808 ≤ x ∧ x ≤ 9223372036854775807
def U64 (x : Int) : Prop := 0 ≤ x ∧ x ≤ 18446744073709551615
def U32 (x : Int) : Prop := 0 ≤ x ∧ x ≤ 4294967295
/-- the five cells of a call -/
structure DoV (w : World) (k : DoM) (a2 : Option Addr) (l2 c2 : Nat) (a3 : Option Addr) (l3 c3 : Nat) : Prop where
  kind : I64 k.kind
  n : I64 k.n
  long : I64 k.long
  b : Bts w a2 l2 c2 k.b
  keep : Bls w a3 l3 c3 k.keep
set_option maxRecDepth 100000 in
theorem DoV.below {w w' : World} {k : DoM} {a2 : Option Addr} {l2 c2 : Nat} {a3 : Option Addr} {l3 c3 : Nat} (h : DoV w k a2 l2 c2 a3 l3 c3) (hb : Below w.heap.size w w') : DoV w' k a2 l2 c2 a3 l3 c3 := ⟨h.kind, h.n, h.long, h.b.below hb, h.keep.below hb⟩
/-- a list of calls in memory -/
structure Dos (w : World) (ao : Option Addr) (len cap : Nat) (L : List DoM) : Prop where
  len_eq : L.length = len
  le_cap : len ≤ cap
  cap_le : cap ≤ maxLen
  nil : ao = none → cap = 0
  spot : 0 < len → ∃ b off, ao = some ⟨b, off, none⟩ ∧ b < w.heap.size ∧ ∀ i, i < len → ∃ a2 l2 c2 a3 l3 c3, w.cell? ⟨b, off + i * 5, none⟩ = some (.int .i64 (L.getD i doZ).kind) ∧ w.cell? ⟨b, off + i * 5 + 1, none⟩ = some (.int .i64 (L.getD i doZ).n) ∧ w.cell? ⟨b, off + i * 5 + 2, none⟩ = some (.int .i64 (L.getD i doZ).long) ∧
    w.cell? ⟨b, off + i * 5 + 3, none⟩ = some (.slice a2 l2 c2) ∧ w.cell? ⟨b, off + i * 5 + 4, none⟩ = some (.slice a3 l3 c3) ∧ DoV w (L.getD i doZ) a2 l2 c2 a3 l3 c3
set_option maxRecDepth 100000 in
theorem Dos.below {w w' : World} {ao : Option Addr} {len cap : Nat} {L : List DoM} (h : Dos w ao len cap L) (hb : Below w.heap.size w w') : Dos w' ao len cap L :=
  ⟨h.len_eq, h.le_cap, h.cap_le, h.nil, fun hp => by
    obtain ⟨b, off, e, hlt, hc⟩ := h.spot hp
    refine ⟨b, off, e, Nat.lt_of_lt_of_le hlt hb.size, fun i hi => ?_⟩
    obtain ⟨a2, l2, c2, a3, l3, c3, h1, h2, h2b, h3, h4, h5⟩ := hc i hi
    exact ⟨a2, l2, c2, a3, l3, c3, (hb.cell hlt).trans h1, (hb.cell hlt).trans h2, (hb.cell hlt).trans h2b, (hb.cell hlt).trans h3, (hb.cell hlt).trans h4, h5.below hb⟩⟩
set_option maxRecDepth 100000 in
theorem Dos.take {w : World} {ao : Option Addr} {len cap : Nat} {L : List DoM} (h : Dos w ao len cap L) (k : Nat) (hk : k ≤ len) : Dos w ao k cap (L.take k) :=
  ⟨by rw [List.length_take, h.len_eq]; omega, by have := h.le_cap; omega, h.cap_le, h.nil, fun hp => by
    obtain ⟨b, off, e, hlt, hc⟩ := h.spot (by omega)
    refine ⟨b, off, e, hlt, fun i hi => ?_⟩
    rw [show (L.take k).getD i doZ = L.getD i doZ from by rw [List.getD_eq_getElem?_getD, List.getElem?_take, if_pos hi, ← List.getD_eq_getElem?_getD]]
    exact hc i (by omega)⟩
set_option maxRecDepth 100000 in
theorem Dos.at {w : World} {ao : Option Addr} {len cap : Nat} {L : List DoM} (h : Dos w ao len cap L) {wr : World} (hb : Below w.heap.size w wr) (j : Nat) (hj : j < len) : ∃ b off a2 l2 c2 a3 l3 c3, ao = some ⟨b, off, none⟩ ∧
    wr.cell? ⟨b, off + j * 5, none⟩ = some (.int .i64 (L.getD j doZ).kind) ∧ wr.cell? ⟨b, off + j * 5 + 1, none⟩ = some (.int .i64 (L.getD j doZ).n) ∧ wr.cell? ⟨b, off + j * 5 + 2, none⟩ = some (.int .i64 (L.getD j doZ).long) ∧
    wr.cell? ⟨b, off + j * 5 + 3, none⟩ = some (.slice a2 l2 c2) ∧ wr.cell? ⟨b, off + j * 5 + 4, none⟩ = some (.slice a3 l3 c3) ∧ DoV w (L.getD j doZ) a2 l2 c2 a3 l3 c3 ∧ b < w.heap.size := by
  obtain ⟨b, off, e, hlt, hc⟩ := h.spot (by omega)
  obtain ⟨a2, l2, c2, a3, l3, c3, h1, h2, h2b, h3, h4, h5⟩ := hc j hj
  exact ⟨b, off, a2, l2, c2, a3, l3, c3, e, (hb.cell hlt).trans h1, (hb.cell hlt).trans h2, (hb.cell hlt).trans h2b, (hb.cell hlt).trans h3, (hb.cell hlt).trans h4, h5, hlt⟩
section
variable {H : Type} {enc : TypeId × Value → H} {W : World} {held : Bool} {bs : Nat}
set_option maxRecDepth 100000 in
theorem cell_bytes {fuel : Nat} {v : Value} {x : DataW H × List MemPlace} (h : DataW.trod enc Try.prog W bs (fun _ => true) held fuel 38 [v] = some x) : ∃ a l c z, v = .slice a l c ∧ Bts W a l c z := by
  rcases open_ints Try.underlying38 Try.underlying5 (by kernel_rfl) h with ⟨hcs, _⟩ | ⟨x, l2, c2, zs, hcs, _, hl2, hm2, hz2, _, hcell, hwz⟩
  · exact ⟨none, 0, 0, _, by simpa using hcs, Bts.of_row (zs := []) (.inl ⟨rfl, rfl, rfl, rfl⟩)⟩
  · exact ⟨some x, l2, c2, _, by simpa using hcs, Bts.of_row (.inr ⟨x, rfl, hl2, hm2, by simpa using hz2, hcell, hwz⟩)⟩
set_option maxRecDepth 100000 in
theorem bls_of {a : Addr} {len cap : Nat} {B : Nat → Bool} (hl : len ≤ cap) (hm : cap ≤ maxLen) (hc : ∀ i, i < cap → W.cell? (a.add i) = some (.bool (B i))) : Bls W (some a) len cap ((List.range len).map B) := by
  refine ⟨by simp, hl, hm, fun hp => ?_⟩
  obtain ⟨b, off, sp⟩ := a
  have h0 := hc 0 (by omega)
  have hsp : sp = none := by simpa [Addr.add] using World.cell?_spot h0
  subst hsp
  refine ⟨b, off, rfl, by have := World.block_lt_of_cell? W _ h0; simpa [Addr.add] using this, fun i hi => ?_⟩
  have h1 := hc i (by omega)
  rw [Addr.add_lit] at h1
  rw [h1, List.getD_eq_getElem?_getD, List.getElem?_map, List.getElem?_range hi]; rfl
set_option maxRecDepth 100000 in
theorem cell_bools {fuel : Nat} {v : Value} {x : DataW H × List MemPlace} (h : DataW.trod enc Try.prog W bs (fun _ => true) held fuel 39 [v] = some x) : ∃ a l c K, v = .slice a l c ∧ Bls W a l c K := by
  rcases Deep.open_bools Try.underlying39 Try.underlying4 (by kernel_rfl) h with ⟨hcs, _⟩ | ⟨a, len, cap, B, hcs, _, hl, hm, _, hcell⟩
  · exact ⟨none, 0, 0, [], by simpa using hcs, bls_nil _ _⟩
  · exact ⟨some a, len, cap, _, by simpa using hcs, bls_of hl hm hcell⟩
set_option maxRecDepth 100000 in
theorem cell_int {fuel : Nat} {v : Value} {x : DataW H × List MemPlace} {sp : Nat → Bool} (h : DataW.trod enc Try.prog W bs sp held fuel 3 [v] = some x) : ∃ n, v = .int .i64 n ∧ I64 n := by
  obtain ⟨n, h1, _, h2⟩ := DataW.trod_int Try.underlying3 h
  exact ⟨n, by simpa using h1, bounds_i64 h2⟩
set_option maxRecDepth 100000 in
theorem open_bls {a : Option Addr} {len cap : Nat} {d : DataW H} {p : List MemPlace} (h : DataW.Trod enc Try.prog W bs (fun _ => true) held 39 (.slice a len cap) d p) : ∃ K, Bls W a len cap K := by
  obtain ⟨fuel, hf⟩ := h
  obtain ⟨a', l', c', K, e, hK⟩ := cell_bools (v := .slice a len cap) (by simpa [Value.cells] using hf)
  cases e
  exact ⟨K, hK⟩
set_option maxRecDepth 100000 in
theorem open_i64 {base : Nat} {v : Value} {d : DataW H} {p : List MemPlace} {sp : Nat → Bool}
    (hv : Value.okWide Try.prog W .any base 3 v) (h : DataW.Trod enc Try.prog W bs sp held 3 v d p) : ∃ x, v = .int .i64 x ∧ I64 x := by
  obtain ⟨x, e, _, _, hw⟩ := open_int Try.underlying3 hv h
  exact ⟨x, e, bounds_i64 hw⟩
set_option maxRecDepth 100000 in
theorem open_u64 {base : Nat} {v : Value} {d : DataW H} {p : List MemPlace} {sp : Nat → Bool}
    (hv : Value.okWide Try.prog W .any base 72 v) (h : DataW.Trod enc Try.prog W bs sp held 72 v d p) : ∃ x, v = .int .u64 x ∧ U64 x := by
  obtain ⟨x, e, _, _, hw⟩ := open_int Try.underlying72 hv h
  exact ⟨x, e, bounds_u64 hw⟩
set_option maxRecDepth 100000 in
theorem open_u32 {base : Nat} {v : Value} {d : DataW H} {p : List MemPlace} {sp : Nat → Bool}
    (hv : Value.okWide Try.prog W .any base 65 v) (h : DataW.Trod enc Try.prog W bs sp held 65 v d p) : ∃ x, v = .int .u32 x ∧ U32 x := by
  obtain ⟨x, e, _, _, hw⟩ := open_int Try.underlying65 hv h
  exact ⟨x, e, bounds_u32 hw⟩
set_option maxRecDepth 100000 in
theorem trod_struct5 {t : TypeId} {f0 f1 f2 f3 f4 : Field} {fuel : Nat} {cs : List Value} {spare : Nat → Bool} {x : DataW H × List MemPlace} (ht : Try.prog.underlying t = some (.struct #[f0, f1, f2, f3, f4])) (h : DataW.trod enc Try.prog W bs spare held fuel t cs = some x) :
    ∃ y0 y1 y2 y3 y4 n, DataW.trod enc Try.prog W bs spare held n f0.type ((cs.drop f0.offset).take (Try.prog.cellsOf f0.type)) = some y0 ∧
      DataW.trod enc Try.prog W bs spare held n f1.type ((cs.drop f1.offset).take (Try.prog.cellsOf f1.type)) = some y1 ∧ DataW.trod enc Try.prog W bs spare held n f2.type ((cs.drop f2.offset).take (Try.prog.cellsOf f2.type)) = some y2 ∧
      DataW.trod enc Try.prog W bs spare held n f3.type ((cs.drop f3.offset).take (Try.prog.cellsOf f3.type)) = some y3 ∧ DataW.trod enc Try.prog W bs spare held n f4.type ((cs.drop f4.offset).take (Try.prog.cellsOf f4.type)) = some y4 := by
  obtain ⟨xs, n, _, rfl, hl, hlen, hf⟩ := DataW.trod_struct ht h
  match xs, hlen with
  | [y0, y1, y2, y3, y4], _ => exact ⟨y0, y1, y2, y3, y4, n, by simpa using hf 0 f0 rfl, by simpa using hf 1 f1 rfl, by simpa using hf 2 f2 rfl, by simpa using hf 3 f3 rfl, by simpa using hf 4 f4 rfl⟩
set_option maxRecDepth 100000 in
theorem open_dos {a : Option Addr} {len cap : Nat} {d : DataW H} {p : List MemPlace} (h : DataW.Trod enc Try.prog W bs (fun _ => true) held 22 (.slice a len cap) d p) : ∃ L, Dos W a len cap L := by
  obtain ⟨fuel, hf⟩ := h
  have hC : Try.prog.cellsOf 41 = 5 := by kernel_rfl
  have q1 : Try.prog.cellsOf 3 = 1 := by kernel_rfl
  have q2 : Try.prog.cellsOf 38 = 1 := by kernel_rfl
  have q3 : Try.prog.cellsOf 39 = 1 := by kernel_rfl
  rcases Deep.open_slice Try.underlying22 hf with ⟨hcs, _⟩ | ⟨a, l, c, m, n, D, Pl, hcs, _, hl, hm, hmm, _, hel⟩
  · simp [Value.cells] at hcs
    obtain ⟨rfl, rfl, rfl⟩ := hcs
    exact ⟨[], rfl, Nat.le_refl _, Nat.zero_le _, fun _ => rfl, fun hp => absurd hp (Nat.lt_irrefl _)⟩
  · simp [Value.cells] at hcs
    obtain ⟨rfl, rfl, rfl⟩ := hcs
    have hmm' : m = cap := by simpa using hmm
    rw [hC] at hel
    have hone : ∀ i, i < len → ∃ k : DoM, ∃ a2 l2 c2 a3 l3 c3, W.cell? ((a.add (i * 5)).add 0) = some (.int .i64 k.kind) ∧ W.cell? ((a.add (i * 5)).add 1) = some (.int .i64 k.n) ∧ W.cell? ((a.add (i * 5)).add 2) = some (.int .i64 k.long) ∧ W.cell? ((a.add (i * 5)).add 3) = some (.slice a2 l2 c2) ∧ W.cell? ((a.add (i * 5)).add 4) = some (.slice a3 l3 c3) ∧ DoV W k a2 l2 c2 a3 l3 c3 := by
      intro i hi
      obtain ⟨cs, e1, e2⟩ := hel i (by omega)
      obtain ⟨_, hlen, hcell⟩ := World.cells?_some e1
      obtain ⟨y0, y1, y2, y3, y4, n', h0, h1, h1b, h2, h3⟩ := trod_struct5 Try.underlying41 e2
      match cs, hlen with
      | [v0, v1, v1b, v2, v3], _ =>
        have g0 := cell_int (v := v0) (by simpa [q1] using h0)
        have g1 := cell_int (v := v1) (by simpa [q1] using h1)
        have g1b := cell_int (v := v1b) (by simpa [q1] using h1b)
        have g2 := cell_bytes (v := v2) (by simpa [q2] using h2)
        have g3 := cell_bools (v := v3) (by simpa [q3] using h3)
        obtain ⟨n0, rfl, b0⟩ := g0
        obtain ⟨n1, rfl, b1⟩ := g1
        obtain ⟨n1b, rfl, b1b⟩ := g1b
        obtain ⟨a2, l2, c2, z, rfl, hz⟩ := g2
        obtain ⟨a3, l3, c3, K, rfl, hK⟩ := g3
        exact ⟨⟨n0, n1, n1b, z, K⟩, a2, l2, c2, a3, l3, c3, hcell 0 (by decide), hcell 1 (by decide), hcell 2 (by decide), hcell 3 (by decide), hcell 4 (by decide), ⟨b0, b1, b1b, hz, hK⟩⟩
    obtain ⟨f, hfn⟩ := @Deep.choose_lt DoM ⟨doZ⟩ _ _ hone
    refine ⟨(List.range len).map f, by simp, hl, hm, (fun hh => by cases hh), fun hp => ?_⟩
    have hg : ∀ i, i < len → ((List.range len).map f).getD i doZ = f i := fun i hi => by rw [List.getD_eq_getElem?_getD, List.getElem?_map, List.getElem?_range hi]; rfl
    obtain ⟨b, off, sp⟩ := a
    obtain ⟨_, _, _, _, _, _, h00, _⟩ := hfn 0 hp
    have hsp : sp = none := by simpa [Addr.add] using World.cell?_spot h00
    subst hsp
    refine ⟨b, off, rfl, by have := World.block_lt_of_cell? W _ h00; simpa [Addr.add] using this, fun i hi => ?_⟩
    rw [hg i hi]
    obtain ⟨a2, l2, c2, a3, l3, c3, e0, e1, e1b, e2, e3, e4⟩ := hfn i hi
    simp only [Addr.add_lit] at e0 e1 e1b e2 e3
    exact ⟨a2, l2, c2, a3, l3, c3, e0, e1, e1b, e2, e3, e4⟩
end
end Go.Proofs.Ytigaciflbgbolaa
