/- The table of statuses; a status in words. -/
import Derived.Test.YtdameoejigpnhabGreatDoorWrk
import Derived.Test.YtdameoejigpnhabGreatDoorWApp
import Derived.Test.YtdameoejigpnhabGreatDoorWrd
import Derived.Deep.CutRange
import Derived.ChangeSame
namespace Go.Proofs.YtdameoejigpnhabGreatDoor
open Go.RowKit
set_option linter.unusedVariables false

def stD : List (Int × List UInt8) := [(200, [79, 75]), (400, [66, 97, 100, 32, 82, 101, 113, 117, 101, 115, 116]), (401, [85, 110, 97, 117, 116, 104, 111, 114, 105, 122, 101, 100]), (403, [70, 111, 114, 98, 105, 100, 100, 101, 110]), (404, [78, 111, 116, 32, 70, 111, 117, 110, 100]), (405, [77, 101, 116, 104, 111, 100, 32, 78, 111, 116, 32, 65, 108, 108, 111, 119, 101, 100]), (409, [67, 111, 110, 102, 108, 105, 99, 116]), (413, [67, 111, 110, 116, 101, 110, 116, 32, 84, 111, 111, 32, 76, 97, 114, 103, 101]), (422, [85, 110, 112, 114, 111, 99, 101, 115, 115, 97, 98, 108, 101, 32, 67, 111, 110, 116, 101, 110, 116]), (429, [84, 111, 111, 32, 77, 97, 110, 121, 32, 82, 101, 113, 117, 101, 115, 116, 115]), (503, [83, 101, 114, 118, 105, 99, 101, 32, 85, 110, 97, 118, 97, 105, 108, 97, 98, 108, 101]), (507, [73, 110, 115, 117, 102, 102, 105, 99, 105, 101, 110, 116, 32, 83, 116, 111, 114, 97, 103, 101])]
def stF (x : Int × List UInt8) : List Value := [.int .i64 x.1, .string ⟨x.2.toArray⟩]
def stC : List Value := [.int .i64 200, .string ⟨#[79, 75]⟩, .int .i64 400, .string ⟨#[66, 97, 100, 32, 82, 101, 113, 117, 101, 115, 116]⟩, .int .i64 401, .string ⟨#[85, 110, 97, 117, 116, 104, 111, 114, 105, 122, 101, 100]⟩, .int .i64 403, .string ⟨#[70, 111, 114, 98, 105, 100, 100, 101, 110]⟩, .int .i64 404, .string ⟨#[78, 111, 116, 32, 70, 111, 117, 110, 100]⟩, .int .i64 405, .string ⟨#[77, 101, 116, 104, 111, 100, 32, 78, 111, 116, 32, 65, 108, 108, 111, 119, 101, 100]⟩, .int .i64 409, .string ⟨#[67, 111, 110, 102, 108, 105, 99, 116]⟩, .int .i64 413, .string ⟨#[67, 111, 110, 116, 101, 110, 116, 32, 84, 111, 111, 32, 76, 97, 114, 103, 101]⟩, .int .i64 422, .string ⟨#[85, 110, 112, 114, 111, 99, 101, 115, 115, 97, 98, 108, 101, 32, 67, 111, 110, 116, 101, 110, 116]⟩, .int .i64 429, .string ⟨#[84, 111, 111, 32, 77, 97, 110, 121, 32, 82, 101, 113, 117, 101, 115, 116, 115]⟩, .int .i64 503, .string ⟨#[83, 101, 114, 118, 105, 99, 101, 32, 85, 110, 97, 118, 97, 105, 108, 97, 98, 108, 101]⟩, .int .i64 507, .string ⟨#[73, 110, 115, 117, 102, 102, 105, 99, 105, 101, 110, 116, 32, 83, 116, 111, 114, 97, 103, 101]⟩]
set_option maxRecDepth 100000 in
theorem stC_eq : stC = stD.flatMap stF := rfl
set_option maxRecDepth 100000 in
theorem flat2 : ∀ (l : List (Int × List UInt8)) (i : Nat) (x : Int × List UInt8), l[i]? = some x → ∀ k, k < 2 → (l.flatMap stF)[i * 2 + k]? = (stF x)[k]?
  | [], i, x, h, _, _ => by simp at h
  | y :: t, 0, x, h, k, hk => by
    simp at h
    subst h
    rw [List.flatMap_cons, List.getElem?_append_left (by simp [stF]; omega)]
    simp
  | y :: t, i + 1, x, h, k, hk => by
    simp at h
    rw [List.flatMap_cons, List.getElem?_append_right (by simp [stF]; omega)]
    have : (i + 1) * 2 + k - (stF y).length = i * 2 + k := by simp [stF]; omega
    rw [this]
    exact flat2 t i x h k hk
set_option maxRecDepth 100000 in
theorem flat_len : ∀ (l : List (Int × List UInt8)), (l.flatMap stF).length = l.length * 2
  | [] => rfl
  | y :: t => by
    rw [List.flatMap_cons, List.length_append, flat_len t, List.length_cons]
    show 2 + _ = _
    omega
set_option maxRecDepth 100000 in
/-- an array of numbers and texts that reads as the table holds it -/
theorem cells_of_pairs {H : Type} {enc : TypeId × Value → H} {P : Program} {w : World} {base : Nat} {sp : Nat → Bool} {held : Bool} {fuel : Nat} {t e ti ts : TypeId} {n : Nat} {f0 f1 : Field} {cs : List Value} {L : List (Int × List UInt8)} {p : List MemPlace}
    (ht : P.underlying t = some (.array n e)) (he : P.underlying e = some (.struct #[f0, f1])) (h0 : f0.type = ti) (h1 : f1.type = ts) (g0 : f0.offset = 0) (g1 : f1.offset = 1) (hi : P.underlying ti = some (.int .i64)) (hs : P.underlying ts = some .string)
    (hce : P.cellsOf e = 2) (hci : P.cellsOf ti = 1) (hcs : P.cellsOf ts = 1) (hct : P.cellsOf t = n * 2)
    (h : DataW.trod enc P w base sp held fuel t cs = some (.agg (L.map fun x => .agg [.lit (.int .i64 x.1), .lit (.string x.2)]), p)) : cs = L.flatMap stF := by
  obtain ⟨xs, m, _, hx, hl, hxl, hall⟩ := DataW.trod_array ht h
  have hmap : xs.map (·.1) = L.map fun x => (.agg [.lit (.int .i64 x.1), .lit (.string x.2)] : DataW H) := by
    have := congrArg Prod.fst hx
    simpa using this.symm
  have hLl : L.length = n := by
    have := congrArg List.length hmap
    simp at this
    omega
  have hfl : (L.flatMap stF).length = n * 2 := by rw [flat_len, hLl]
  rw [hct] at hl
  apply List.ext_getElem?
  intro j
  by_cases hj : j < n * 2
  · obtain ⟨i, k, hik, hk, hin⟩ : ∃ i k, j = i * 2 + k ∧ k < 2 ∧ i < n := ⟨j / 2, j % 2, by omega, by omega, by omega⟩
    subst hik
    obtain ⟨x, hx2⟩ : ∃ x, L[i]? = some x := ⟨L[i]'(by omega), List.getElem?_eq_getElem (by omega)⟩
    rw [flat2 L i x hx2 k hk]
    have h2 := hall i hin
    rw [hce] at h2
    obtain ⟨y, hy⟩ : ∃ y, xs[i]? = some y := ⟨xs[i]'(by omega), List.getElem?_eq_getElem (by omega)⟩
    rw [hy] at h2
    have hy1 : y.1 = .agg [.lit (.int .i64 x.1), .lit (.string x.2)] := by
      have := congrArg (·[i]?) hmap
      simpa [hy, hx2] using this
    obtain ⟨y0, y1, n9, e9, _, r0, r1⟩ := Go.ChangeShapes.trod_struct2 he h2
    rw [h0, g0, hci] at r0
    rw [h1, g1, hcs] at r1
    obtain ⟨z, c0, d0, _⟩ := DataW.trod_int hi r0
    obtain ⟨s, c1, d1, _⟩ := DataW.trod_string hs r1
    rw [e9, d0, d1] at hy1
    simp only [DataW.agg.injEq, List.cons.injEq, DataW.lit.injEq, Lit.int.injEq, Lit.string.injEq, true_and, and_true] at hy1
    obtain ⟨rfl, hs9⟩ := hy1
    have hs8 : s = ⟨x.2.toArray⟩ := by rw [← hs9]
    have q0 := congrArg (·[0]?) c0
    have q1 := congrArg (·[0]?) c1
    match k, hk with
    | 0, _ => simpa [stF, List.getElem?_take, List.getElem?_drop] using q0
    | 1, _ => rw [hs8] at q1; simpa [stF, List.getElem?_take, List.getElem?_drop, Nat.add_comm, Nat.add_left_comm] using q1
  · rw [List.getElem?_eq_none (by omega), List.getElem?_eq_none (by omega)]
/-- the table, as the program's text lays it -/
structure Stt (w : World) : Prop where
  lt : 0 < w.heap.size
  rng : w.rangeAt 0 0 stC
set_option maxRecDepth 100000 in
theorem Stt.below {w w' : World} (h : Stt w) (hb : Below w.heap.size w w') : Stt w' := ⟨Nat.lt_of_lt_of_le h.lt hb.size, fun j v hj => (hb.cell h.lt).trans (h.rng j v hj)⟩
set_option maxRecDepth 100000 in
theorem gStt : Tryz.prog.globalNamed "inquest/wire.statuses" = some 0 := by kernel_rfl
set_option maxRecDepth 100000 in
theorem gSttType : (Tryz.prog.globals[0]?).map (·.type) = some 60 := by kernel_rfl
set_option maxRecDepth 100000 in
theorem stt_eq : (Rows.laid_inquest_wire_statuses : DataW Unit) = .agg (stD.map fun x => .agg [.lit (.int .i64 x.1), .lit (.string x.2)]) := rfl
set_option maxRecDepth 100000 in
theorem stt_at {W : World} {l : List (String × DataW Unit)} (h : laidMet Tryz.prog l W) (i : Nat) (hi : l[i]? = some ("inquest/wire.statuses", Rows.laid_inquest_wire_statuses)) : Stt W := by
  obtain ⟨r, h2⟩ := laid_at l i h hi
  rw [stt_eq] at h2
  obtain ⟨ps, ⟨g', t', cs, fuel, p, q, hg', ht', hvar, hd, _, _⟩, _⟩ := h2
  obtain rfl := Option.some.inj (gStt.symm.trans hg')
  obtain rfl := Option.some.inj (gSttType.symm.trans ht')
  have e := cells_of_pairs Tryz.underlying60 Tryz.underlying59 rfl rfl rfl rfl Tryz.underlying3 Tryz.underlying9 (by kernel_rfl) (by kernel_rfl) (by kernel_rfl) (by kernel_rfl) hd
  rw [← stC_eq] at e
  have hc : ∀ j v, stC[j]? = some v → W.cell? ⟨0, 0 + j, none⟩ = some v := fun j v hj => by
    rw [Nat.zero_add, World.var?_cell gStt hvar j, ← Array.getElem?_toList, e]; exact hj
  exact ⟨block_lt_of_cell (hc 0 _ rfl), hc⟩
end Go.Proofs.YtdameoejigpnhabGreatDoor
