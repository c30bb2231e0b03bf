/- Entries that came in. -/
import Derived.Test.YtbednfacipphhaaDoorEnMem
import Derived.Test.YtbednfacipphhaaDoorAuaa
import Derived.Deep.Strs
import Derived.Laws.IdiomArrays
namespace Go.Proofs.YtbednfacipphhaaDoor
open Go.ChangeShapes Go.WideShapes Go.ChangeAt Go.RowKit

/-- an entry that came in: its sums, its order, its numbers -/
structure EnI (w : World) (e : En) (a : Option Addr) (n c : Nat) : Prop where
  dig : EnD e
  iv : Ivs w a n c e.o
  j : V64 e.j
  t : V64 e.t
  k : V64 e.k
  r : V64 e.r
  o : IvK e.o
section
variable {H : Type} {enc : TypeId × Value → H} {W : World} {held : Bool} {bs : Nat}
set_option maxRecDepth 100000 in
theorem cells_dig {fuel : Nat} {cs : List Value} {x : DataW H × List MemPlace} {sp : Nat → Bool} (h : DataW.trod enc Tryd.prog W bs sp held fuel 30 cs = some x) : ∃ d, cs = bv d ∧ Dig d := by
  obtain ⟨xs, m, _, _, hlen, hn, hel⟩ := DataW.trod_array Tryd.underlying30 h
  have hct : Tryd.prog.cellsOf 30 = 32 := by kernel_rfl
  have hce : Tryd.prog.cellsOf 5 = 1 := by kernel_rfl
  rw [hct] at hlen
  have hcell : ∀ i, i < 32 → ∃ z, cs[i]? = some (.int .u8 z) ∧ (Lit.int .u8 z).wf = true := by
    intro i hi
    have h1 := hel i hi
    rw [List.getElem?_eq_getElem (by omega)] at h1
    obtain ⟨z, hc, _, hw⟩ := DataW.trod_int Tryd.underlying5 h1
    refine ⟨z, ?_, hw⟩
    have := congrArg (·[0]?) hc
    simpa [hce, List.getElem?_take, List.getElem?_drop] using this
  refine ⟨cs.map intOf, ?_, by rw [List.length_map]; exact hlen, ?_⟩
  · apply List.ext_getElem?
    intro i
    unfold bv
    rw [List.getElem?_map, List.getElem?_map]
    by_cases hi : i < 32
    · obtain ⟨z, hz, _⟩ := hcell i hi
      rw [hz]; rfl
    · rw [List.getElem?_eq_none (by omega)]; rfl
  · intro z hz
    obtain ⟨v, hv, rfl⟩ := List.mem_map.1 hz
    obtain ⟨i, hi, e⟩ := List.mem_iff_getElem.1 hv
    obtain ⟨z', hz', hw⟩ := hcell i (by omega)
    rw [List.getElem?_eq_getElem hi, e] at hz'
    cases hz'
    exact bounds_u8 hw
set_option maxRecDepth 100000 in
theorem cell_ivs {fuel : Nat} {v : Value} {x : DataW H × List MemPlace} (h : DataW.trod enc Tryd.prog W bs (fun _ => true) held fuel 31 [v] = some x) : ∃ a n c L, v = .slice a n c ∧ IvsI W a n c L := by
  rcases Deep.open_slice Tryd.underlying31 h with ⟨hcs, _⟩ | ⟨a, l, c, m, n, D, Pl, hcs, _, _⟩
  · have hv : v = .slice none 0 0 := by simpa using hcs
    subst hv
    obtain ⟨L, hL⟩ := open_ivs (d := x.1) (p := x.2) ⟨fuel, by simpa [Value.cells] using h⟩
    exact ⟨none, 0, 0, L, rfl, hL⟩
  · have hv : v = .slice (some a) l c := by simpa using hcs
    subst hv
    obtain ⟨L, hL⟩ := open_ivs (d := x.1) (p := x.2) ⟨fuel, by simpa [Value.cells] using h⟩
    exact ⟨some a, l, c, L, rfl, hL⟩
set_option maxRecDepth 100000 in
theorem cells_verd {fuel : Nat} {cs : List Value} {x : DataW H × List MemPlace} (h : DataW.trod enc Tryd.prog W bs (fun _ => true) held fuel 33 cs = some x) : ∃ k a n c o r, cs = [.int .i64 k, .slice a n c, .int .i64 r] ∧ V64 k ∧ IvsI W a n c o ∧ V64 r := by
  obtain ⟨y0, y1, y2, n, _, hl, h0, h1, h2⟩ := Deep.trod_struct3 Tryd.underlying33 h
  have hct : Tryd.prog.cellsOf 33 = 3 := by kernel_rfl
  have q1 : Tryd.prog.cellsOf 3 = 1 := by kernel_rfl
  have q2 : Tryd.prog.cellsOf 31 = 1 := by kernel_rfl
  rw [hct] at hl
  match cs, hl with
  | [v0, v1, v2], _ =>
    obtain ⟨k, rfl, hk⟩ := cell_int (v := v0) (by simpa [q1] using h0)
    obtain ⟨a, n, c, o, rfl, ho⟩ := cell_ivs (v := v1) (by simpa [q2] using h1)
    obtain ⟨r, rfl, hr⟩ := cell_int (v := v2) (by simpa [q1] using h2)
    exact ⟨k, a, n, c, o, r, rfl, hk, ho, hr⟩
set_option maxRecDepth 100000 in
theorem trod_struct5E {t : TypeId} {f0 f1 f2 f3 f4 : Field} {fuel : Nat} {cs : List Value} {spare : Nat → Bool} {x : DataW H × List MemPlace} (ht : Tryd.prog.underlying t = some (.struct #[f0, f1, f2, f3, f4])) (h : DataW.trod enc Tryd.prog W bs spare held fuel t cs = some x) :
    ∃ y0 y1 y2 y3 y4 n, cs.length = Tryd.prog.cellsOf t ∧ DataW.trod enc Tryd.prog W bs spare held n f0.type ((cs.drop f0.offset).take (Tryd.prog.cellsOf f0.type)) = some y0 ∧
      DataW.trod enc Tryd.prog W bs spare held n f1.type ((cs.drop f1.offset).take (Tryd.prog.cellsOf f1.type)) = some y1 ∧ DataW.trod enc Tryd.prog W bs spare held n f2.type ((cs.drop f2.offset).take (Tryd.prog.cellsOf f2.type)) = some y2 ∧
      DataW.trod enc Tryd.prog W bs spare held n f3.type ((cs.drop f3.offset).take (Tryd.prog.cellsOf f3.type)) = some y3 ∧ DataW.trod enc Tryd.prog W bs spare held n f4.type ((cs.drop f4.offset).take (Tryd.prog.cellsOf f4.type)) = some y4 := by
  obtain ⟨xs, n, _, rfl, hl, hlen, hf⟩ := DataW.trod_struct ht h
  match xs, hlen with
  | [y0, y1, y2, y3, y4], _ => exact ⟨y0, y1, y2, y3, y4, n, hl, by simpa using hf 0 f0 rfl, by simpa using hf 1 f1 rfl, by simpa using hf 2 f2 rfl, by simpa using hf 3 f3 rfl, by simpa using hf 4 f4 rfl⟩
set_option maxRecDepth 100000 in
theorem parts69 {cs : List Value} {v0 v1 : Value} {d s t : List Value} (hl : cs.length = 69) (h0 : (cs.drop 0).take 1 = [v0]) (h1 : (cs.drop 1).take 1 = [v1]) (h2 : (cs.drop 2).take 32 = d) (h3 : (cs.drop 34).take 32 = s) (h4 : (cs.drop 66).take 3 = t) : cs = v0 :: v1 :: (d ++ (s ++ t)) := by
  have e4 : cs.drop 66 = t := by rw [← h4, List.take_of_length_le (by rw [List.length_drop]; omega)]
  have e3 : cs.drop 34 = s ++ t := by rw [← h3, ← e4, show cs.drop 66 = (cs.drop 34).drop 32 from by rw [List.drop_drop], List.take_append_drop]
  have e2 : cs.drop 2 = d ++ (s ++ t) := by rw [← h2, ← e3, show cs.drop 34 = (cs.drop 2).drop 32 from by rw [List.drop_drop], List.take_append_drop]
  have e1 : cs.drop 1 = [v1] ++ (d ++ (s ++ t)) := by rw [← h1, ← e2, show cs.drop 2 = (cs.drop 1).drop 1 from by rw [List.drop_drop], List.take_append_drop]
  have e0 : cs.drop 0 = [v0] ++ ([v1] ++ (d ++ (s ++ t))) := by rw [← h0, ← e1, show cs.drop 1 = (cs.drop 0).drop 1 from by rw [List.drop_drop], List.take_append_drop]
  rw [List.drop_zero] at e0
  exact e0
set_option maxRecDepth 100000 in
theorem one_of {cs : List Value} {i : Nat} (h : i < cs.length) : ∃ v, (cs.drop i).take 1 = [v] := ⟨cs[i], by rw [List.take_one, List.head?_drop, List.getElem?_eq_getElem h]; rfl⟩
set_option maxRecDepth 100000 in
theorem open_ent {base : Nat} {v : Value} {d : DataW H} {p : List MemPlace}
    (hv : Value.okWide Tryd.prog W .any base 35 v) (h : DataW.Trod enc Tryd.prog W bs (fun _ => true) held 35 v d p) : ∃ (e : En) (a : Option Addr) (n c : Nat), v = .agg (enA e a n c) ∧ EnI W e a n c := by
  obtain ⟨cs, rfl, hsz⟩ := okWide_struct Tryd.underlying35 hv
  obtain ⟨fuel, hf⟩ := h
  obtain ⟨y0, y1, y2, y3, y4, n, hl, h0, h1, h2, h3, h4⟩ := trod_struct5E Tryd.underlying35 hf
  have hct : Tryd.prog.cellsOf 35 = 69 := by kernel_rfl
  have q1 : Tryd.prog.cellsOf 3 = 1 := by kernel_rfl
  have q2 : Tryd.prog.cellsOf 30 = 32 := by kernel_rfl
  have q3 : Tryd.prog.cellsOf 33 = 3 := by kernel_rfl
  have hC : (Value.agg cs).cells.toList = cs.toList := rfl
  rw [hC] at hl h0 h1 h2 h3 h4
  rw [hct] at hl
  replace h0 : DataW.trod enc Tryd.prog W bs (fun _ => true) held n 3 ((cs.toList.drop 0).take 1) = some y0 := by rw [← q1]; exact h0
  replace h1 : DataW.trod enc Tryd.prog W bs (fun _ => true) held n 3 ((cs.toList.drop 1).take 1) = some y1 := by rw [← q1]; exact h1
  replace h2 : DataW.trod enc Tryd.prog W bs (fun _ => true) held n 30 ((cs.toList.drop 2).take 32) = some y2 := by rw [← q2]; exact h2
  replace h3 : DataW.trod enc Tryd.prog W bs (fun _ => true) held n 30 ((cs.toList.drop 34).take 32) = some y3 := by rw [← q2]; exact h3
  replace h4 : DataW.trod enc Tryd.prog W bs (fun _ => true) held n 33 ((cs.toList.drop 66).take 3) = some y4 := by rw [← q3]; exact h4
  obtain ⟨v0, e0⟩ := one_of (cs := cs.toList) (i := 0) (by omega)
  obtain ⟨v1, e1⟩ := one_of (cs := cs.toList) (i := 1) (by omega)
  rw [e0] at h0
  rw [e1] at h1
  obtain ⟨j, rfl, hj⟩ := cell_int h0
  obtain ⟨t, rfl, ht⟩ := cell_int h1
  obtain ⟨DH, e2, hDH⟩ := cells_dig h2
  obtain ⟨DS, e3, hDS⟩ := cells_dig h3
  obtain ⟨k, a, m, c, o, r, e4, hk, ho, hr⟩ := cells_verd h4
  have hall := parts69 hl e0 e1 e2 e3 e4
  refine ⟨⟨j, t, DH, DS, k, r, o⟩, a, m, c, ?_, ⟨hDH, hDS⟩, ho.1, hj, ht, hk, hr, ho.2⟩
  have hall2 : cs.toList = enC ⟨j, t, DH, DS, k, r, o⟩ a m c := hall
  rw [show cs = (enC ⟨j, t, DH, DS, k, r, o⟩ a m c).toArray from by rw [← hall2]]
  rfl
end
end Go.Proofs.YtbednfacipphhaaDoor
