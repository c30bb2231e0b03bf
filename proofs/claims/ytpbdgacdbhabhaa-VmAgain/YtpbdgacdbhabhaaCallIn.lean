/- Operations that came in: a state, a kind, fuel, an argument. -/
import Derived.Test.YtpbdgacdbhabhaaInsIn
import Derived.Laws.IdiomArrays
namespace Go.Proofs.Ytpbdgacdbhabhaa
open Go.ChangeShapes Go.WideShapes Go.ChangeAt Go.RowKit

/-- an operation that is asked for -/
structure Cl where
  s0 : Int
  s1 : Int
  s2 : Int
  s3 : Int
  k : Int
  f : Int
  g : Int
def cl0 : Cl := ⟨0, 0, 0, 0, 0, 0, 0⟩
def clC (c : Cl) : List Value := [.int .i64 c.s0, .int .i64 c.s1, .int .i64 c.s2, .int .i64 c.s3, .int .i64 c.k, .int .i64 c.f, .int .i64 c.g]
set_option maxRecDepth 100000 in
theorem clC_len (c : Cl) : (clC c).length = 7 := rfl
/-- its numbers fit -/
structure ClK (c : Cl) : Prop where
  s : V64 c.s0 ∧ V64 c.s1 ∧ V64 c.s2 ∧ V64 c.s3
  k : V64 c.k
  f : V64 c.f
  g : V64 c.g
set_option maxRecDepth 100000 in
theorem zero_in : V64 0 := ⟨by decide, by decide⟩
section
variable {H : Type} {enc : TypeId × Value → H} {W : World} {held : Bool} {bs : Nat}
set_option maxRecDepth 100000 in
theorem cells_state {fuel : Nat} {cs : List Value} {x : DataW H × List MemPlace} {sp : Nat → Bool} (h : DataW.trod enc Try.prog W bs sp held fuel 24 cs = some x) : ∃ a b c d, cs = [.int .i64 a, .int .i64 b, .int .i64 c, .int .i64 d] ∧ V64 a ∧ V64 b ∧ V64 c ∧ V64 d := by
  obtain ⟨xs, m, _, _, hlen, _, _⟩ := DataW.trod_array Try.underlying24 h
  have hct : Try.prog.cellsOf 24 = 4 := by kernel_rfl
  rw [hct] at hlen
  match cs, hlen with
  | [v0, v1, v2, v3], _ =>
    obtain ⟨y0, y1, y2, y3, n, _, h0, h1, h2, h3⟩ := trod_array4 Try.underlying24 (by kernel_rfl) h
    obtain ⟨a, rfl, ha⟩ := cell_long h0
    obtain ⟨b, rfl, hb⟩ := cell_long h1
    obtain ⟨c, rfl, hc⟩ := cell_long h2
    obtain ⟨d, rfl, hd⟩ := cell_long h3
    exact ⟨a, b, c, d, rfl, ha, hb, hc, hd⟩
set_option maxRecDepth 100000 in
theorem cells_call {fuel : Nat} {cs : List Value} {x : DataW H × List MemPlace} {sp : Nat → Bool} (h : DataW.trod enc Try.prog W bs sp held fuel 26 cs = some x) : ∃ c, cs = clC c ∧ ClK c := by
  obtain ⟨y0, y1, y2, y3, n, _, hl, h0, h1, h2, h3⟩ := Joins.trod_struct4 Try.underlying26 h
  have hct : Try.prog.cellsOf 26 = 7 := by kernel_rfl
  have q1 : Try.prog.cellsOf 3 = 1 := by kernel_rfl
  have q3 : Try.prog.cellsOf 2 = 1 := by kernel_rfl
  have q4 : Try.prog.cellsOf 24 = 4 := by kernel_rfl
  rw [hct] at hl
  match cs, hl with
  | [v0, v1, v2, v3, v4, v5, v6], _ =>
    obtain ⟨a, b, c, d, e, ha, hb, hc, hd⟩ := cells_state (cs := [v0, v1, v2, v3]) (by simpa [q4] using h0)
    obtain ⟨k, rfl, hk⟩ := cell_int (v := v4) (by simpa [q1] using h1)
    obtain ⟨f, rfl, hf⟩ := cell_int (v := v5) (by simpa [q1] using h2)
    obtain ⟨g, rfl, hg⟩ := cell_long (v := v6) (by simpa [q3] using h3)
    cases e
    exact ⟨⟨a, b, c, d, k, f, g⟩, rfl, ⟨ha, hb, hc, hd⟩, hk, hf, hg⟩
set_option maxRecDepth 100000 in
theorem open_cal {base : Nat} {v : Value} {d : DataW H} {p : List MemPlace} {sp : Nat → Bool}
    (hv : Value.okWide Try.prog W .any base 26 v) (h : DataW.Trod enc Try.prog W bs sp held 26 v d p) : ∃ c : Cl, v = .agg #[.int .i64 c.s0, .int .i64 c.s1, .int .i64 c.s2, .int .i64 c.s3, .int .i64 c.k, .int .i64 c.f, .int .i64 c.g] ∧ ClK c := by
  obtain ⟨cs, rfl, hsz⟩ := okWide_struct Try.underlying26 hv
  obtain ⟨fuel, hf⟩ := h
  obtain ⟨c, hc, hk⟩ := cells_call hf
  refine ⟨c, ?_, hk⟩
  have : cs.toList = clC c := by simpa [Value.cells] using hc
  rw [show cs = (clC c).toArray from by rw [← this]]
  rfl
set_option maxRecDepth 100000 in
theorem open_sta {base : Nat} {v : Value} {d : DataW H} {p : List MemPlace} {sp : Nat → Bool}
    (hv : Value.okWide Try.prog W .any base 24 v) (h : DataW.Trod enc Try.prog W bs sp held 24 v d p) : ∃ c : Cl, v = .agg #[.int .i64 c.s0, .int .i64 c.s1, .int .i64 c.s2, .int .i64 c.s3] ∧ ClK c := by
  simp only [Value.okWide, Try.underlying24] at hv
  obtain ⟨cs, rfl, hsz, _⟩ := hv
  obtain ⟨fuel, hf⟩ := h
  obtain ⟨a, b, c, e, hc, ha, hb, hcc, he⟩ := cells_state hf
  refine ⟨⟨a, b, c, e, 0, 0, 0⟩, ?_, ⟨⟨ha, hb, hcc, he⟩, zero_in, zero_in, zero_in⟩⟩
  have : cs.toList = [.int .i64 a, .int .i64 b, .int .i64 c, .int .i64 e] := by simpa [Value.cells] using hc
  rw [show cs = [Value.int .i64 a, .int .i64 b, .int .i64 c, .int .i64 e].toArray from by rw [← this]]
set_option maxRecDepth 100000 in
theorem open_long {base : Nat} {v : Value} {d : DataW H} {p : List MemPlace} {sp : Nat → Bool}
    (hv : Value.okWide Try.prog W .any base 2 v) (h : DataW.Trod enc Try.prog W bs sp held 2 v d p) : ∃ x, v = .int .i64 x ∧ I64 x := by
  obtain ⟨x, e, _, _, hw⟩ := open_int Try.underlying2 hv h
  exact ⟨x, e, bounds_i64 hw⟩
/-- a list of operations that are asked for -/
def ClsI (w : World) (ao : Option Addr) (len cap : Nat) (L : List Cl) : Prop := Ls clC 7 w ao len cap L ∧ ∀ c ∈ L, ClK c
set_option maxRecDepth 100000 in
theorem open_cals {a : Option Addr} {len cap : Nat} {d : DataW H} {p : List MemPlace} (h : DataW.Trod enc Try.prog W bs (fun _ => true) held 46 (.slice a len cap) d p) : ∃ L, ClsI W a len cap L := by
  obtain ⟨fuel, hf⟩ := h
  have hC : Try.prog.cellsOf 26 = 7 := by kernel_rfl
  rcases Deep.open_slice Try.underlying46 hf with ⟨hcs, _⟩ | ⟨a, l, c, m, n, D, Pl, hcs, _, hl, hm, hmm, _, hel⟩
  · simp [Value.cells] at hcs
    obtain ⟨rfl, rfl, rfl⟩ := hcs
    exact ⟨[], Ls.empty _, fun x hx => by cases hx⟩
  · simp [Value.cells] at hcs
    obtain ⟨rfl, rfl, rfl⟩ := hcs
    have hmm' : m = cap := by simpa using hmm
    rw [hC] at hel
    have hone : ∀ i, i < len → ∃ k : Cl, (∀ j, j < 7 → W.cell? ((a.add (i * 7)).add j) = (clC k)[j]?) ∧ ClK k := by
      intro i hi
      obtain ⟨cs, e1, e2⟩ := hel i (by omega)
      obtain ⟨_, hlen, hcell⟩ := World.cells?_some e1
      obtain ⟨k, rfl, hk⟩ := cells_call e2
      exact ⟨k, fun j hj => by rw [hcell j hj, List.getElem?_eq_getElem (by rw [clC_len]; exact hj)], hk⟩
    obtain ⟨f, hfn⟩ := @Deep.choose_lt Cl ⟨cl0⟩ _ _ hone
    refine ⟨(List.range len).map f, ⟨by simp, hl, hm, (fun hh => by cases hh), fun hp => ?_⟩, fun x hx => ?_⟩
    · obtain ⟨b, off, sp⟩ := a
      have h00 := (hfn 0 hp).1 0 (by decide)
      have hsp : sp = none := by simpa [Addr.add] using World.cell?_spot (h00.trans rfl)
      subst hsp
      refine ⟨b, off, rfl, by have := World.block_lt_of_cell? W _ (h00.trans rfl); simpa [Addr.add] using this, fun i hi j hj => ?_⟩
      have hi2 : i < len := by simpa using hi
      have e0 := (hfn i hi2).1 j hj
      simp only [Addr.add_lit] at e0
      have hg : ((List.range len).map f)[i] = f i := by simp
      rw [hg]
      exact e0
    · obtain ⟨i, hi, rfl⟩ := List.mem_map.1 hx
      exact (hfn i (List.mem_range.1 hi)).2
end
end Go.Proofs.Ytpbdgacdbhabhaa
