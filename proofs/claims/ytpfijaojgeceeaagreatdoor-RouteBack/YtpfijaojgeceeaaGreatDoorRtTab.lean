/- The table of targets in memory; the list of a row as the table. -/
import Derived.Test.YtpfijaojgeceeaaGreatDoorRtRow
import Derived.Test.YtpfijaojgeceeaaGreatDoorTDoor
import Derived.ChangeSame
import Derived.Lib.SmallJoins
namespace Go.Proofs.YtpfijaojgeceeaaGreatDoor
open Go.RowKit
set_option linter.unusedVariables false

/-- a row's cells, its datum -/
def rtF (r : Rt) : List Value := [.int .i64 r.k, .string r.m, .string r.f, .bool r.h]
abbrev rtV (r : Rt) : Value := .agg #[.int .i64 r.k, .string r.m, .string r.f, .bool r.h]
def rtC : List Value := rtL.flatMap rtF
def rtDat {H : Type} (r : Rt) : DataW H := .agg [.lit (.int .i64 r.k), .lit (.string r.m.data.toList), .lit (.string r.f.data.toList), .lit (.bool r.h)]
set_option maxRecDepth 100000 in
theorem flatR4 : ∀ (l : List Rt) (i : Nat) (x : Rt), l[i]? = some x → ∀ k, k < 4 → (l.flatMap rtF)[i * 4 + k]? = (rtF x)[k]?
  | [], i, x, h, _, _ => by simp at h
  | y :: t, 0, x, h, k, hk => by
    simp at h
    subst h
    rw [List.flatMap_cons, List.getElem?_append_left (by simp [rtF]; omega)]
    simp
  | y :: t, i + 1, x, h, k, hk => by
    simp at h
    rw [List.flatMap_cons, List.getElem?_append_right (by simp [rtF]; omega)]
    have : (i + 1) * 4 + k - (rtF y).length = i * 4 + k := by simp [rtF]; omega
    rw [this]
    exact flatR4 t i x h k hk
set_option maxRecDepth 100000 in
theorem flatR_len : ∀ (l : List Rt), (l.flatMap rtF).length = l.length * 4
  | [] => rfl
  | y :: t => by
    rw [List.flatMap_cons, List.length_append, flatR_len t, List.length_cons]
    show 4 + _ = _
    omega
set_option maxRecDepth 100000 in
/-- an array of rows that reads as the table holds it -/
theorem cells_of_rows {H : Type} {enc : TypeId × Value → H} {P : Program} {w : World} {base : Nat} {sp : Nat → Bool} {held : Bool} {fuel : Nat} {t e ti ts tb : TypeId} {n : Nat} {f0 f1 f2 f3 : Field} {cs : List Value} {L : List Rt} {p : List MemPlace}
    (ht : P.underlying t = some (.array n e)) (he : P.underlying e = some (.struct #[f0, f1, f2, f3])) (h0 : f0.type = ti) (h1 : f1.type = ts) (h2 : f2.type = ts) (h3 : f3.type = tb) (g0 : f0.offset = 0) (g1 : f1.offset = 1) (g2 : f2.offset = 2) (g3 : f3.offset = 3)
    (hi : P.underlying ti = some (.int .i64)) (hs : P.underlying ts = some .string) (hb : P.underlying tb = some .bool)
    (hce : P.cellsOf e = 4) (hci : P.cellsOf ti = 1) (hcs : P.cellsOf ts = 1) (hcb : P.cellsOf tb = 1) (hct : P.cellsOf t = n * 4)
    (h : DataW.trod enc P w base sp held fuel t cs = some (.agg (L.map rtDat), p)) : cs = L.flatMap rtF := by
  obtain ⟨xs, m, _, hx, hl, hxl, hall⟩ := DataW.trod_array ht h
  have hmap : xs.map (·.1) = L.map (rtDat (H := H)) := by
    have := congrArg Prod.fst hx
    simpa using this.symm
  have hLl : L.length = n := by
    have := congrArg List.length hmap
    simp at this
    omega
  have hfl : (L.flatMap rtF).length = n * 4 := by rw [flatR_len, hLl]
  rw [hct] at hl
  apply List.ext_getElem?
  intro j
  by_cases hj : j < n * 4
  · obtain ⟨i, k, hik, hk, hin⟩ : ∃ i k, j = i * 4 + k ∧ k < 4 ∧ i < n := ⟨j / 4, j % 4, by omega, by omega, by omega⟩
    subst hik
    obtain ⟨x, hx2⟩ : ∃ x, L[i]? = some x := ⟨L[i]'(by omega), List.getElem?_eq_getElem (by omega)⟩
    rw [flatR4 L i x hx2 k hk]
    have hh := hall i hin
    rw [hce] at hh
    obtain ⟨y, hy⟩ : ∃ y, xs[i]? = some y := ⟨xs[i]'(by omega), List.getElem?_eq_getElem (by omega)⟩
    rw [hy] at hh
    have hy1 : y.1 = rtDat x := by
      have := congrArg (·[i]?) hmap
      simpa [hy, hx2] using this
    obtain ⟨y0, y1, y2, y3, n9, e9, _, r0, r1, r2, r3⟩ := Go.Joins.trod_struct4 he hh
    rw [h0, g0, hci] at r0
    rw [h1, g1, hcs] at r1
    rw [h2, g2, hcs] at r2
    rw [h3, g3, hcb] at r3
    obtain ⟨z, c0, d0, _⟩ := DataW.trod_int hi r0
    obtain ⟨s, c1, d1, _⟩ := DataW.trod_string hs r1
    obtain ⟨u, c2, d2, _⟩ := DataW.trod_string hs r2
    obtain ⟨b, c3, d3⟩ := DataW.trod_bool hb r3
    rw [e9, d0, d1, d2, d3] at hy1
    unfold rtDat at hy1
    simp only [DataW.agg.injEq, List.cons.injEq, DataW.lit.injEq, Lit.int.injEq, Lit.string.injEq, Lit.bool.injEq, true_and, and_true] at hy1
    obtain ⟨hk9, hs9, hu9, hb9⟩ := hy1
    have hs8 : s = x.m := ba_ext hs9
    have hu8 : u = x.f := ba_ext hu9
    have q0 := congrArg (·[0]?) c0
    have q1 := congrArg (·[0]?) c1
    have q2 := congrArg (·[0]?) c2
    have q3 := congrArg (·[0]?) c3
    match k, hk with
    | 0, _ => rw [hk9] at q0; simpa [rtF, List.getElem?_take, List.getElem?_drop] using q0
    | 1, _ => rw [hs8] at q1; simpa [rtF, List.getElem?_take, List.getElem?_drop, Nat.add_comm, Nat.add_left_comm] using q1
    | 2, _ => rw [hu8] at q2; simpa [rtF, List.getElem?_take, List.getElem?_drop, Nat.add_comm, Nat.add_left_comm] using q2
    | 3, _ => rw [hb9] at q3; simpa [rtF, List.getElem?_take, List.getElem?_drop, Nat.add_comm, Nat.add_left_comm] using q3
  · rw [List.getElem?_eq_none (by omega), List.getElem?_eq_none (by omega)]
/-- the table, as the program's text lays it -/
structure Rtb (w : World) : Prop where
  lt : 0 < w.heap.size
  rng : w.rangeAt 0 0 rtC
set_option maxRecDepth 100000 in
theorem Rtb.below {w w' : World} (h : Rtb w) (hb : Below w.heap.size w w') : Rtb w' := ⟨Nat.lt_of_lt_of_le h.lt hb.size, fun j v hj => (hb.cell h.lt).trans (h.rng j v hj)⟩
set_option maxRecDepth 100000 in
theorem gRtb : Tryz.prog.globalNamed "inquest/route.rows" = some 0 := by kernel_rfl
set_option maxRecDepth 100000 in
theorem gRtbType : (Tryz.prog.globals[0]?).map (·.type) = some 51 := by kernel_rfl
set_option maxRecDepth 100000 in
theorem rtb_eq : (Rows.laid_inquest_route_rows : DataW Unit) = .agg (rtL.map rtDat) := rfl
set_option maxRecDepth 100000 in
theorem rtb_at {W : World} {l : List (String × DataW Unit)} (h : laidMet Tryz.prog l W) (i : Nat) (hi : l[i]? = some ("inquest/route.rows", Rows.laid_inquest_route_rows)) : Rtb W := by
  obtain ⟨r, h2⟩ := laid_at l i h hi
  rw [rtb_eq] at h2
  obtain ⟨ps, ⟨g', t', cs, fuel, p, q, hg', ht', hvar, hd, _, _⟩, _⟩ := h2
  obtain rfl := Option.some.inj (gRtb.symm.trans hg')
  obtain rfl := Option.some.inj (gRtbType.symm.trans ht')
  have e := cells_of_rows Tryz.underlying51 Tryz.underlying50 rfl rfl rfl rfl rfl rfl rfl rfl Tryz.underlying3 Tryz.underlying9 Tryz.underlying4 (by kernel_rfl) (by kernel_rfl) (by kernel_rfl) (by kernel_rfl) (by kernel_rfl) hd
  have hc : ∀ j v, rtC[j]? = some v → W.cell? ⟨0, 0 + j, none⟩ = some v := fun j v hj => by
    rw [Nat.zero_add, World.var?_cell gRtb hvar j, ← Array.getElem?_toList, e]; exact hj
  exact ⟨block_lt_of_cell (hc 0 _ rfl), hc⟩
end Go.Proofs.YtpfijaojgeceeaaGreatDoor
