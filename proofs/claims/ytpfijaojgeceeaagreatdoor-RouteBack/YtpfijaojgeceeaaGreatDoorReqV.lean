/- A request as a value. -/
import Derived.Test.YtpfijaojgeceeaaGreatDoorWireMath
import Derived.Laws.Rows
namespace Go.Proofs.YtpfijaojgeceeaaGreatDoor
open Go.RowKit
set_option linter.unusedVariables false

set_option maxRecDepth 100000 in
theorem req_info : (Tryz.prog.info? 28).map (·.size) = some 4 := by kernel_rfl
set_option maxRecDepth 100000 in
theorem results_rt {fn : Func} {s p : Tmp} (h : fn.results = #[.cell p 28, .tmp s]) (tmps : Array Value) (w : World) (g : Nat) (cs : Array Value) (v : Value)
    (hs : tmps.getD s undef = v) (hp : tmps.getD p undef = .pointer (some ⟨g, 0, none⟩)) (hg : w.heap[g]? = some (.cells cs 28 (0, 0))) (hi : (Tryz.prog.info? 28).map (·.size) = some cs.size) :
    (results fn tmps).run Tryz.prog w = .ok (.tuple #[.agg cs, v]) w := by
  have hp' : tmps[p]?.getD undef = .pointer (some ⟨g, 0, none⟩) := by simpa using hp
  have hs' : tmps[s]?.getD undef = v := by simpa using hs
  simp [results, h, hp', hs', asAddr, run_loadVar_row w g 28 28 cs (0, 0) _ hg Tryz.underlying28 rfl hi]
def reqZ : Array Value := #[.string ⟨#[]⟩, .string ⟨#[]⟩, .string ⟨#[]⟩, .slice none 0 0]
/-- a request in memory -/
def reqV (x : WX) (v : Value) : Value := .agg #[.string x.m, .string x.t, .string x.k, v]
set_option maxRecDepth 100000 in
theorem req_one (m t k : ByteArray) (v : Value) (h : v.oneCell' = true) : (#[.string m, .string t, .string k, v] : Array Value).all (·.oneCell') = true := all_oneCell_toArray (cs := [.string m, .string t, .string k, v]) (by
  intro u hu
  simp only [List.mem_cons, List.not_mem_nil, or_false] at hu
  rcases hu with rfl | rfl | rfl | rfl <;> first | rfl | exact h)
set_option maxRecDepth 100000 in
theorem wx_ext {x y : WX} (h1 : x.m = y.m) (h2 : x.t = y.t) (h3 : x.k = y.k) (h4 : x.b = y.b) : x = y := by
  obtain ⟨a, b, c, d⟩ := x
  obtain ⟨e, f, g, h⟩ := y
  simp only at h1 h2 h3 h4
  subst h1; subst h2; subst h3; subst h4; rfl
end Go.Proofs.YtpfijaojgeceeaaGreatDoor
