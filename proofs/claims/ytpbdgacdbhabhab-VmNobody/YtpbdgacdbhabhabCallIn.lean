/- Operations that came in: a state, a kind, fuel, an argument. -/
import Derived.Test.YtpbdgacdbhabhabInsIn
import Derived.Laws.IdiomArrays
namespace Go.Proofs.Ytpbdgacdbhabhab
open Go.ChangeShapes Go.WideShapes Go.ChangeAt Go.RowKit

/-- an operation that is asked for -/
structure Cl where
  s0 : Int
  s1 : Int
  s2 : Int
  s3 : Int
  k : Int
  f : Int
  g : Int
def cl0 : Cl := ⟨0, 0, 0, 0, 0, 0, 0⟩
def clC (c : Cl) : List Value := [.int .i64 c.s0, .int .i64 c.s1, .int .i64 c.s2, .int .i64 c.s3, .int .i64 c.k, .int .i64 c.f, .int .i64 c.g]
set_option maxRecDepth 100000 in
theorem clC_len (c : Cl) : (clC c).length = 7 := rfl
/-- its numbers fit -/
structure ClK (c : Cl) : Prop where
  s : V64 c.s0 ∧ V64 c.s1 ∧ V64 c.s2 ∧ V64 c.s3
  k : V64 c.k
  f : V64 c.f
  g : V64 c.g
set_option maxRecDepth 100000 in
theorem zero_in : V64 0 := ⟨by decide, by decide⟩
section
variable {H : Type} {enc : TypeId × Value → H} {W : World} {held : Bool} {bs : Nat}
set_option maxRecDepth 100000 in
theorem cells_state {fuel : Nat} {cs : List Value} {x : DataW H × List MemPlace} {sp : Nat → Bool} (h : DataW.trod enc Try.prog W bs sp held fuel 23 cs = some x) : ∃ a b c d, cs = [.int .i64 a, .int .i64 b, .int .i64 c, .int .i64 d] ∧ V64 a ∧ V64 b ∧ V64 c ∧ V64 d := by
  obtain ⟨xs, m, _, _, hlen, _, _⟩ := DataW.trod_array Try.underlying23 h
  have hct : Try.prog.cellsOf 23 = 4 := by kernel_rfl
  rw [hct] at hlen
  match cs, hlen with
  | [v0, v1, v2, v3], _ =>
    obtain ⟨y0, y1, y2, y3, n, _, h0, h1, h2, h3⟩ := trod_array4 Try.underlying23 (by kernel_rfl) h
    obtain ⟨a, rfl, ha⟩ := cell_long h0
    obtain ⟨b, rfl, hb⟩ := cell_long h1
    obtain ⟨c, rfl, hc⟩ := cell_long h2
    obtain ⟨d, rfl, hd⟩ := cell_long h3
    exact ⟨a, b, c, d, rfl, ha, hb, hc, hd⟩
set_option maxRecDepth 100000 in
theorem cells_call {fuel : Nat} {cs : List Value} {x : DataW H × List MemPlace} {sp : Nat → Bool} (h : DataW.trod enc Try.prog W bs sp held fuel 25 cs = some x) : ∃ c, cs = clC c ∧ ClK c := by
  obtain ⟨y0, y1, y2, y3, n, _, hl, h0, h1, h2, h3⟩ := Joins.trod_struct4 Try.underlying25 h
  have hct : Try.prog.cellsOf 25 = 7 := by kernel_rfl
  have q1 : Try.prog.cellsOf 3 = 1 := by kernel_rfl
  have q3 : Try.prog.cellsOf 2 = 1 := by kernel_rfl
  have q4 : Try.prog.cellsOf 23 = 4 := by kernel_rfl
  rw [hct] at hl
  match cs, hl with
  | [v0, v1, v2, v3, v4, v5, v6], _ =>
    obtain ⟨a, b, c, d, e, ha, hb, hc, hd⟩ := cells_state (cs := [v0, v1, v2, v3]) (by simpa [q4] using h0)
    obtain ⟨k, rfl, hk⟩ := cell_int (v := v4) (by simpa [q1] using h1)
    obtain ⟨f, rfl, hf⟩ := cell_int (v := v5) (by simpa [q1] using h2)
    obtain ⟨g, rfl, hg⟩ := cell_long (v := v6) (by simpa [q3] using h3)
    cases e
    exact ⟨⟨a, b, c, d, k, f, g⟩, rfl, ⟨ha, hb, hc, hd⟩, hk, hf, hg⟩
set_option maxRecDepth 100000 in
theorem open_cal {base : Nat} {v : Value} {d : DataW H} {p : List MemPlace} {sp : Nat → Bool}
    (hv : Value.okWide Try.prog W .any base 25 v) (h : DataW.Trod enc Try.prog W bs sp held 25 v d p) : ∃ c : Cl, v = .agg #[.int .i64 c.s0, .int .i64 c.s1, .int .i64 c.s2, .int .i64 c.s3, .int .i64 c.k, .int .i64 c.f, .int .i64 c.g] ∧ ClK c := by
  obtain ⟨cs, rfl, hsz⟩ := okWide_struct Try.underlying25 hv
  obtain ⟨fuel, hf⟩ := h
  obtain ⟨c, hc, hk⟩ := cells_call hf
  refine ⟨c, ?_, hk⟩
  have : cs.toList = clC c := by simpa [Value.cells] using hc
  rw [show cs = (clC c).toArray from by rw [← this]]
  rfl
end
end Go.Proofs.Ytpbdgacdbhabhab
