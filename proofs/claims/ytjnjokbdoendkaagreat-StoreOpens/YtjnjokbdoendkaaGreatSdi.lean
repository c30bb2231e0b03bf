/- Changes that came in, bytes, texts, numbers. Calls that came in. -/
import Derived.Test.YtjnjokbdoendkaaGreatStoreMem
import Derived.ShutString
import Derived.ChangeOld
import Derived.Below
import Derived.Deep.Slices
import Derived.Deep.Strs
import Derived.Deep.Grids
import Derived.Lib.SmallJoins
import Derived.Test.YtjnjokbdoendkaaGreatSwp
namespace Go.Proofs.YtjnjokbdoendkaaGreat
open Go.ChangeShapes Go.WideShapes Go.ChangeAt Go.RowKit

/-- numbers that fit -/
def I64 (x : Int) : Prop := -9223372036854775808 ≤ x ∧ x ≤ 9223372036854775807
/-- changes that came in -/
def Chs (w : World) (ao : Option Addr) (len cap : Nat) (L : List Chg) : Prop := CT (fun k => k < w.heap.size) w ao len cap L ∧ ∀ c ∈ L, c.key.size ≤ 9223372036854775807
set_option maxRecDepth 100000 in
theorem Chs.below {w w' : World} {ao : Option Addr} {len cap : Nat} {L : List Chg} (h : Chs w ao len cap L) (hb : Below w.heap.size w w') : Chs w' ao len cap L := ⟨(h.1.below hb).low, h.2⟩
section
variable {H : Type} {enc : TypeId × Value → H} {W : World} {held : Bool} {bs : Nat}
set_option maxRecDepth 100000 in
theorem cell_bytes {fuel : Nat} {v : Value} {x : DataW H × List MemPlace} (h : DataW.trod enc Tryz.prog W bs (fun _ => true) held fuel 46 [v] = some x) : ∃ a l c z, v = .slice a l c ∧ Bts W a l c z := by
  rcases open_ints Tryz.underlying46 Tryz.underlying5 (by kernel_rfl) h with ⟨hcs, _⟩ | ⟨x, l2, c2, zs, hcs, _, hl2, hm2, hz2, _, hcell, hwz⟩
  · exact ⟨none, 0, 0, _, by simpa using hcs, Bts.of_row (zs := []) (.inl ⟨rfl, rfl, rfl, rfl⟩)⟩
  · exact ⟨some x, l2, c2, _, by simpa using hcs, Bts.of_row (.inr ⟨x, rfl, hl2, hm2, by simpa using hz2, hcell, hwz⟩)⟩
set_option maxRecDepth 100000 in
theorem cell_str {fuel : Nat} {v : Value} {x : DataW H × List MemPlace} {sp : Nat → Bool} (h : DataW.trod enc Tryz.prog W bs sp held fuel 9 [v] = some x) : ∃ s : ByteArray, v = .string s ∧ s.size ≤ maxLen := by
  obtain ⟨s, h1, _, h3⟩ := DataW.trod_string Tryz.underlying9 h
  exact ⟨s, by simpa using h1, h3⟩
set_option maxRecDepth 100000 in
theorem cell_bool {fuel : Nat} {v : Value} {x : DataW H × List MemPlace} {sp : Nat → Bool} (h : DataW.trod enc Tryz.prog W bs sp held fuel 4 [v] = some x) : ∃ b : Bool, v = .bool b := by
  obtain ⟨b, h1, _⟩ := DataW.trod_bool Tryz.underlying4 h
  exact ⟨b, by simpa using h1⟩
set_option maxRecDepth 100000 in
theorem open_i64 {base : Nat} {v : Value} {d : DataW H} {p : List MemPlace} {sp : Nat → Bool}
    (hv : Value.okWide Tryz.prog W .any base 3 v) (h : DataW.Trod enc Tryz.prog W bs sp held 3 v d p) : ∃ x, v = .int .i64 x ∧ I64 x := by
  obtain ⟨x, e, _, _, hw⟩ := open_int Tryz.underlying3 hv h
  exact ⟨x, e, bounds_i64 hw⟩
set_option maxRecDepth 100000 in
theorem open_str {base : Nat} {v : Value} {d : DataW H} {p : List MemPlace} {sp : Nat → Bool}
    (hv : Value.okWide Tryz.prog W .any base 9 v) (h : DataW.Trod enc Tryz.prog W bs sp held 9 v d p) : ∃ s : ByteArray, v = .string s ∧ s.size ≤ maxLen := by
  obtain ⟨s, e, _, _, hs⟩ := Go.ChangeMaps.open_string Tryz.underlying9 hv h
  exact ⟨s, e, hs⟩
set_option maxRecDepth 100000 in
theorem open_byt {a : Option Addr} {len cap : Nat} {d : DataW H} {p : List MemPlace} (h : DataW.Trod enc Tryz.prog W bs (fun _ => true) held 46 (.slice a len cap) d p) : ∃ l, Bts W a len cap l := by
  obtain ⟨fuel, hf⟩ := h
  obtain ⟨a', l', c', z, e, hz⟩ := cell_bytes (v := .slice a len cap) (by simpa [Value.cells] using hf)
  cases e
  exact ⟨z, hz⟩
set_option maxRecDepth 100000 in
theorem cell_chs {fuel : Nat} {v : Value} {x : DataW H × List MemPlace} (hf : DataW.trod enc Tryz.prog W bs (fun _ => true) held fuel 39 [v] = some x) : ∃ a l c L, v = .slice a l c ∧ Chs W a l c L := by
  have hC : Tryz.prog.cellsOf 48 = 3 := by kernel_rfl
  have q1 : Tryz.prog.cellsOf 9 = 1 := by kernel_rfl
  have q2 : Tryz.prog.cellsOf 4 = 1 := by kernel_rfl
  have q3 : Tryz.prog.cellsOf 46 = 1 := by kernel_rfl
  rcases Deep.open_slice Tryz.underlying39 hf with ⟨hcs, _⟩ | ⟨a, len, cap, m, n, D, Pl, hcs, _, hl, hm, hmm, _, hel⟩
  · exact ⟨none, 0, 0, [], by simpa using hcs, RT.nil _ _, by simp⟩
  · have hmm' : m = cap := by simpa using hmm
    rw [hC] at hel
    have hone : ∀ i, i < len → ∃ k : It Chg, W.cell? ((a.add (i * 3)).add 0) = some (.string k.x.key) ∧ W.cell? ((a.add (i * 3)).add 1) = some (.bool k.x.del) ∧ W.cell? ((a.add (i * 3)).add 2) = some (.slice k.a k.n k.c) ∧ Bts W k.a k.n k.c k.x.val ∧ k.x.key.size ≤ maxLen := by
      intro i hi
      obtain ⟨cs, e1, e2⟩ := hel i (by omega)
      obtain ⟨_, hlen, hcell⟩ := World.cells?_some e1
      obtain ⟨y0, y1, y2, n', _, _, h0, h1, h2⟩ := Deep.trod_struct3 Tryz.underlying48 e2
      match cs, hlen with
      | [v0, v1, v2], _ =>
        have g0 := cell_str (v := v0) (by simpa [q1] using h0)
        have g1 := cell_bool (v := v1) (by simpa [q2] using h1)
        have g2 := cell_bytes (v := v2) (by simpa [q3] using h2)
        obtain ⟨s, rfl, hs⟩ := g0
        obtain ⟨b, rfl⟩ := g1
        obtain ⟨a2, l2, c2, z, rfl, hz⟩ := g2
        exact ⟨⟨⟨s, b, z⟩, a2, l2, c2⟩, hcell 0 (by decide), hcell 1 (by decide), hcell 2 (by decide), hz, hs⟩
    obtain ⟨f, hfn⟩ := @Deep.choose_lt (It Chg) ⟨⟨⟨⟨#[]⟩, false, []⟩, none, 0, 0⟩⟩ _ _ hone
    refine ⟨some a, len, cap, (List.range len).map (fun i => (f i).x), by simpa using hcs, ⟨by simp, hl, hm, fun hp => ?_⟩, fun c hc => ?_⟩
    · obtain ⟨b, off, sp⟩ := a
      obtain ⟨h00, _⟩ := hfn 0 hp
      have hsp : sp = none := by simpa [Addr.add] using World.cell?_spot h00
      subst hsp
      have hbl : b < W.heap.size := by have := World.block_lt_of_cell? W _ h00; simpa [Addr.add] using this
      refine ⟨b, off, rfl, hbl, hbl, fun i hi => ⟨f i, by rw [List.getElem?_map, List.getElem?_range hi]; rfl, fun j hj => ?_, (hfn i hi).2.2.2.1, fun hp2 p e => (hfn i hi).2.2.2.1.lt hp2 e⟩⟩
      obtain ⟨e0, e1, e2, _⟩ := hfn i hi
      simp only [Addr.add_lit] at e0 e1 e2
      match j, hj with
      | 0, _ => exact e0
      | 1, _ => exact e1
      | 2, _ => exact e2
    · obtain ⟨i, hi, rfl⟩ := List.mem_map.1 hc
      have := (hfn i (List.mem_range.1 hi)).2.2.2.2
      unfold maxLen at this
      omega
set_option maxRecDepth 100000 in
theorem open_chs {a : Option Addr} {len cap : Nat} {d : DataW H} {p : List MemPlace} (h : DataW.Trod enc Tryz.prog W bs (fun _ => true) held 39 (.slice a len cap) d p) : ∃ L, Chs W a len cap L := by
  obtain ⟨fuel, hf⟩ := h
  obtain ⟨a', l', c', L, e, hL⟩ := cell_chs (v := .slice a len cap) (by simpa [Value.cells] using hf)
  cases e
  exact ⟨L, hL⟩
end
end Go.Proofs.YtjnjokbdoendkaaGreat
namespace Go.Proofs.YtjnjokbdoendkaaGreat
open Go.ChangeShapes Go.WideShapes Go.ChangeAt Go.RowKit

/-- a call, as the law has it -/
structure DoM where
  kind : Int
  n : Int
  l : List Chg
  keep : List Bool
def doZ : DoM := ⟨0, 0, [], []⟩
structure DoV (w : World) (k : DoM) (a2 : Option Addr) (l2 c2 : Nat) (a3 : Option Addr) (l3 c3 : Nat) : Prop where
  kind : I64 k.kind
  n : I64 k.n
  l : Chs w a2 l2 c2 k.l
  keep : Bls w a3 l3 c3 k.keep
set_option maxRecDepth 100000 in
theorem DoV.below {w w' : World} {k : DoM} {a2 : Option Addr} {l2 c2 : Nat} {a3 : Option Addr} {l3 c3 : Nat} (h : DoV w k a2 l2 c2 a3 l3 c3) (hb : Below w.heap.size w w') : DoV w' k a2 l2 c2 a3 l3 c3 := ⟨h.kind, h.n, h.l.below hb, h.keep.below hb⟩
/-- a list of calls in memory -/
structure Dos (w : World) (ao : Option Addr) (len cap : Nat) (L : List DoM) : Prop where
  len_eq : L.length = len
  le_cap : len ≤ cap
  cap_le : cap ≤ maxLen
  nil : ao = none → cap = 0
  spot : 0 < len → ∃ b off, ao = some ⟨b, off, none⟩ ∧ b < w.heap.size ∧ ∀ i, i < len → ∃ a2 l2 c2 a3 l3 c3, w.cell? ⟨b, off + i * 4, none⟩ = some (.int .i64 (L.getD i doZ).kind) ∧ w.cell? ⟨b, off + i * 4 + 1, none⟩ = some (.int .i64 (L.getD i doZ).n) ∧
    w.cell? ⟨b, off + i * 4 + 2, none⟩ = some (.slice a2 l2 c2) ∧ w.cell? ⟨b, off + i * 4 + 3, none⟩ = some (.slice a3 l3 c3) ∧ DoV w (L.getD i doZ) a2 l2 c2 a3 l3 c3
set_option maxRecDepth 100000 in
theorem Dos.below {w w' : World} {ao : Option Addr} {len cap : Nat} {L : List DoM} (h : Dos w ao len cap L) (hb : Below w.heap.size w w') : Dos w' ao len cap L :=
  ⟨h.len_eq, h.le_cap, h.cap_le, h.nil, fun hp => by
    obtain ⟨b, off, e, hlt, hc⟩ := h.spot hp
    refine ⟨b, off, e, Nat.lt_of_lt_of_le hlt hb.size, fun i hi => ?_⟩
    obtain ⟨a2, l2, c2, a3, l3, c3, h1, h2, h3, h4, h5⟩ := hc i hi
    exact ⟨a2, l2, c2, a3, l3, c3, (hb.cell hlt).trans h1, (hb.cell hlt).trans h2, (hb.cell hlt).trans h3, (hb.cell hlt).trans h4, h5.below hb⟩⟩
set_option maxRecDepth 100000 in
theorem Dos.take {w : World} {ao : Option Addr} {len cap : Nat} {L : List DoM} (h : Dos w ao len cap L) (k : Nat) (hk : k ≤ len) : Dos w ao k cap (L.take k) :=
  ⟨by rw [List.length_take, h.len_eq]; omega, by have := h.le_cap; omega, h.cap_le, h.nil, fun hp => by
    obtain ⟨b, off, e, hlt, hc⟩ := h.spot (by omega)
    refine ⟨b, off, e, hlt, fun i hi => ?_⟩
    rw [show (L.take k).getD i doZ = L.getD i doZ from by rw [List.getD_eq_getElem?_getD, List.getElem?_take, if_pos hi, ← List.getD_eq_getElem?_getD]]
    exact hc i (by omega)⟩
set_option maxRecDepth 100000 in
theorem Dos.at {w : World} {ao : Option Addr} {len cap : Nat} {L : List DoM} (h : Dos w ao len cap L) {wr : World} (hb : Below w.heap.size w wr) (j : Nat) (hj : j < len) : ∃ b off a2 l2 c2 a3 l3 c3, ao = some ⟨b, off, none⟩ ∧
    wr.cell? ⟨b, off + j * 4, none⟩ = some (.int .i64 (L.getD j doZ).kind) ∧ wr.cell? ⟨b, off + j * 4 + 1, none⟩ = some (.int .i64 (L.getD j doZ).n) ∧
    wr.cell? ⟨b, off + j * 4 + 2, none⟩ = some (.slice a2 l2 c2) ∧ wr.cell? ⟨b, off + j * 4 + 3, none⟩ = some (.slice a3 l3 c3) ∧ DoV w (L.getD j doZ) a2 l2 c2 a3 l3 c3 ∧ b < w.heap.size := by
  obtain ⟨b, off, e, hlt, hc⟩ := h.spot (by omega)
  obtain ⟨a2, l2, c2, a3, l3, c3, h1, h2, h3, h4, h5⟩ := hc j hj
  exact ⟨b, off, a2, l2, c2, a3, l3, c3, e, (hb.cell hlt).trans h1, (hb.cell hlt).trans h2, (hb.cell hlt).trans h3, (hb.cell hlt).trans h4, h5, hlt⟩
section
variable {H : Type} {enc : TypeId × Value → H} {W : World} {held : Bool} {bs : Nat}
set_option maxRecDepth 100000 in
theorem bls_of {a : Addr} {len cap : Nat} {B : Nat → Bool} (hl : len ≤ cap) (hm : cap ≤ maxLen) (hc : ∀ i, i < cap → W.cell? (a.add i) = some (.bool (B i))) : Bls W (some a) len cap ((List.range len).map B) := by
  refine ⟨by simp, hl, hm, fun hp => ?_⟩
  obtain ⟨b, off, sp⟩ := a
  have h0 := hc 0 (by omega)
  have hsp : sp = none := by simpa [Addr.add] using World.cell?_spot h0
  subst hsp
  refine ⟨b, off, rfl, by have := World.block_lt_of_cell? W _ h0; simpa [Addr.add] using this, fun i hi => ?_⟩
  have h1 := hc i (by omega)
  rw [Addr.add_lit] at h1
  rw [h1, List.getD_eq_getElem?_getD, List.getElem?_map, List.getElem?_range hi]; rfl
set_option maxRecDepth 100000 in
theorem cell_bools {fuel : Nat} {v : Value} {x : DataW H × List MemPlace} (h : DataW.trod enc Tryz.prog W bs (fun _ => true) held fuel 40 [v] = some x) : ∃ a l c K, v = .slice a l c ∧ Bls W a l c K := by
  rcases Deep.open_bools Tryz.underlying40 Tryz.underlying4 (by kernel_rfl) h with ⟨hcs, _⟩ | ⟨a, len, cap, B, hcs, _, hl, hm, _, hcell⟩
  · exact ⟨none, 0, 0, [], by simpa using hcs, bls_nil _ _⟩
  · exact ⟨some a, len, cap, _, by simpa using hcs, bls_of hl hm hcell⟩
set_option maxRecDepth 100000 in
theorem cell_int {fuel : Nat} {v : Value} {x : DataW H × List MemPlace} {sp : Nat → Bool} (h : DataW.trod enc Tryz.prog W bs sp held fuel 3 [v] = some x) : ∃ n, v = .int .i64 n ∧ I64 n := by
  obtain ⟨n, h1, _, h2⟩ := DataW.trod_int Tryz.underlying3 h
  exact ⟨n, by simpa using h1, bounds_i64 h2⟩
set_option maxRecDepth 100000 in
theorem open_dos {a : Option Addr} {len cap : Nat} {d : DataW H} {p : List MemPlace} (h : DataW.Trod enc Tryz.prog W bs (fun _ => true) held 22 (.slice a len cap) d p) : ∃ L, Dos W a len cap L := by
  obtain ⟨fuel, hf⟩ := h
  have hC : Tryz.prog.cellsOf 42 = 4 := by kernel_rfl
  have q1 : Tryz.prog.cellsOf 3 = 1 := by kernel_rfl
  have q2 : Tryz.prog.cellsOf 39 = 1 := by kernel_rfl
  have q3 : Tryz.prog.cellsOf 40 = 1 := by kernel_rfl
  rcases Deep.open_slice Tryz.underlying22 hf with ⟨hcs, _⟩ | ⟨a, l, c, m, n, D, Pl, hcs, _, hl, hm, hmm, _, hel⟩
  · simp [Value.cells] at hcs
    obtain ⟨rfl, rfl, rfl⟩ := hcs
    exact ⟨[], rfl, Nat.le_refl _, Nat.zero_le _, fun _ => rfl, fun hp => absurd hp (Nat.lt_irrefl _)⟩
  · simp [Value.cells] at hcs
    obtain ⟨rfl, rfl, rfl⟩ := hcs
    have hmm' : m = cap := by simpa using hmm
    rw [hC] at hel
    have hone : ∀ i, i < len → ∃ k : DoM, ∃ a2 l2 c2 a3 l3 c3, W.cell? ((a.add (i * 4)).add 0) = some (.int .i64 k.kind) ∧ W.cell? ((a.add (i * 4)).add 1) = some (.int .i64 k.n) ∧ W.cell? ((a.add (i * 4)).add 2) = some (.slice a2 l2 c2) ∧ W.cell? ((a.add (i * 4)).add 3) = some (.slice a3 l3 c3) ∧ DoV W k a2 l2 c2 a3 l3 c3 := by
      intro i hi
      obtain ⟨cs, e1, e2⟩ := hel i (by omega)
      obtain ⟨_, hlen, hcell⟩ := World.cells?_some e1
      obtain ⟨xs, n', _, _, _, hlen2, hf2⟩ := DataW.trod_struct Tryz.underlying42 e2
      match xs, hlen2, cs, hlen with
      | [y0, y1, y2, y3], _, [v0, v1, v2, v3], _ =>
        have h0 := hf2 0 _ rfl
        have h1 := hf2 1 _ rfl
        have h2 := hf2 2 _ rfl
        have h3 := hf2 3 _ rfl
        have g0 := cell_int (v := v0) (by simpa [q1] using h0)
        have g1 := cell_int (v := v1) (by simpa [q1] using h1)
        have g2 := cell_chs (v := v2) (by simpa [q2] using h2)
        have g3 := cell_bools (v := v3) (by simpa [q3] using h3)
        obtain ⟨n0, rfl, b0⟩ := g0
        obtain ⟨n1, rfl, b1⟩ := g1
        obtain ⟨a2, l2, c2, z, rfl, hz⟩ := g2
        obtain ⟨a3, l3, c3, K, rfl, hK⟩ := g3
        exact ⟨⟨n0, n1, z, K⟩, a2, l2, c2, a3, l3, c3, hcell 0 (by decide), hcell 1 (by decide), hcell 2 (by decide), hcell 3 (by decide), ⟨b0, b1, hz, hK⟩⟩
    obtain ⟨f, hfn⟩ := @Deep.choose_lt DoM ⟨doZ⟩ _ _ hone
    refine ⟨(List.range len).map f, by simp, hl, hm, (fun hh => by cases hh), fun hp => ?_⟩
    have hg : ∀ i, i < len → ((List.range len).map f).getD i doZ = f i := fun i hi => by rw [List.getD_eq_getElem?_getD, List.getElem?_map, List.getElem?_range hi]; rfl
    obtain ⟨b, off, sp⟩ := a
    obtain ⟨_, _, _, _, _, _, h00, _⟩ := hfn 0 hp
    have hsp : sp = none := by simpa [Addr.add] using World.cell?_spot h00
    subst hsp
    refine ⟨b, off, rfl, by have := World.block_lt_of_cell? W _ h00; simpa [Addr.add] using this, fun i hi => ?_⟩
    rw [hg i hi]
    obtain ⟨a2, l2, c2, a3, l3, c3, e0, e1, e2, e3, e4⟩ := hfn i hi
    simp only [Addr.add_lit] at e0 e1 e2 e3
    exact ⟨a2, l2, c2, a3, l3, c3, e0, e1, e2, e3, e4⟩
end
end Go.Proofs.YtjnjokbdoendkaaGreat
