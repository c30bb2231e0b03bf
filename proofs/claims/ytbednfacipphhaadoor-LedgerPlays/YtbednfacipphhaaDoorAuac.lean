/- Entries that came in. Lists of entries: in memory, own, that came in. No walk. -/
import Derived.Test.YtbednfacipphhaaDoorEnMem
import Derived.Test.YtbednfacipphhaaDoorAuaa
import Derived.Deep.Strs
import Derived.Laws.IdiomArrays
import Derived.Test.YtbednfacipphhaaDoorAuam
import Derived.Deep.AppendLies
namespace Go.Proofs.YtbednfacipphhaaDoor
open Go.ChangeShapes Go.WideShapes Go.ChangeAt Go.RowKit

/-- an entry that came in: its sums, its order, its numbers -/
structure EnI (w : World) (e : En) (a : Option Addr) (n c : Nat) : Prop where
  dig : EnD e
  iv : Ivs w a n c e.o
  j : V64 e.j
  t : V64 e.t
  k : V64 e.k
  r : V64 e.r
  o : IvK e.o
section
variable {H : Type} {enc : TypeId × Value → H} {W : World} {held : Bool} {bs : Nat}
set_option maxRecDepth 100000 in
theorem cells_dig {fuel : Nat} {cs : List Value} {x : DataW H × List MemPlace} {sp : Nat → Bool} (h : DataW.trod enc Tryd.prog W bs sp held fuel 30 cs = some x) : ∃ d, cs = bv d ∧ Dig d := by
  obtain ⟨xs, m, _, _, hlen, hn, hel⟩ := DataW.trod_array Tryd.underlying30 h
  have hct : Tryd.prog.cellsOf 30 = 32 := by kernel_rfl
  have hce : Tryd.prog.cellsOf 5 = 1 := by kernel_rfl
  rw [hct] at hlen
  have hcell : ∀ i, i < 32 → ∃ z, cs[i]? = some (.int .u8 z) ∧ (Lit.int .u8 z).wf = true := by
    intro i hi
    have h1 := hel i hi
    rw [List.getElem?_eq_getElem (by omega)] at h1
    obtain ⟨z, hc, _, hw⟩ := DataW.trod_int Tryd.underlying5 h1
    refine ⟨z, ?_, hw⟩
    have := congrArg (·[0]?) hc
    simpa [hce, List.getElem?_take, List.getElem?_drop] using this
  refine ⟨cs.map intOf, ?_, by rw [List.length_map]; exact hlen, ?_⟩
  · apply List.ext_getElem?
    intro i
    unfold bv
    rw [List.getElem?_map, List.getElem?_map]
    by_cases hi : i < 32
    · obtain ⟨z, hz, _⟩ := hcell i hi
      rw [hz]; rfl
    · rw [List.getElem?_eq_none (by omega)]; rfl
  · intro z hz
    obtain ⟨v, hv, rfl⟩ := List.mem_map.1 hz
    obtain ⟨i, hi, e⟩ := List.mem_iff_getElem.1 hv
    obtain ⟨z', hz', hw⟩ := hcell i (by omega)
    rw [List.getElem?_eq_getElem hi, e] at hz'
    cases hz'
    exact bounds_u8 hw
set_option maxRecDepth 100000 in
theorem cell_ivs {fuel : Nat} {v : Value} {x : DataW H × List MemPlace} (h : DataW.trod enc Tryd.prog W bs (fun _ => true) held fuel 31 [v] = some x) : ∃ a n c L, v = .slice a n c ∧ IvsI W a n c L := by
  rcases Deep.open_slice Tryd.underlying31 h with ⟨hcs, _⟩ | ⟨a, l, c, m, n, D, Pl, hcs, _, _⟩
  · have hv : v = .slice none 0 0 := by simpa using hcs
    subst hv
    obtain ⟨L, hL⟩ := open_ivs (d := x.1) (p := x.2) ⟨fuel, by simpa [Value.cells] using h⟩
    exact ⟨none, 0, 0, L, rfl, hL⟩
  · have hv : v = .slice (some a) l c := by simpa using hcs
    subst hv
    obtain ⟨L, hL⟩ := open_ivs (d := x.1) (p := x.2) ⟨fuel, by simpa [Value.cells] using h⟩
    exact ⟨some a, l, c, L, rfl, hL⟩
set_option maxRecDepth 100000 in
theorem cells_verd {fuel : Nat} {cs : List Value} {x : DataW H × List MemPlace} (h : DataW.trod enc Tryd.prog W bs (fun _ => true) held fuel 33 cs = some x) : ∃ k a n c o r, cs = [.int .i64 k, .slice a n c, .int .i64 r] ∧ V64 k ∧ IvsI W a n c o ∧ V64 r := by
  obtain ⟨y0, y1, y2, n, _, hl, h0, h1, h2⟩ := Deep.trod_struct3 Tryd.underlying33 h
  have hct : Tryd.prog.cellsOf 33 = 3 := by kernel_rfl
  have q1 : Tryd.prog.cellsOf 3 = 1 := by kernel_rfl
  have q2 : Tryd.prog.cellsOf 31 = 1 := by kernel_rfl
  rw [hct] at hl
  match cs, hl with
  | [v0, v1, v2], _ =>
    obtain ⟨k, rfl, hk⟩ := cell_int (v := v0) (by simpa [q1] using h0)
    obtain ⟨a, n, c, o, rfl, ho⟩ := cell_ivs (v := v1) (by simpa [q2] using h1)
    obtain ⟨r, rfl, hr⟩ := cell_int (v := v2) (by simpa [q1] using h2)
    exact ⟨k, a, n, c, o, r, rfl, hk, ho, hr⟩
set_option maxRecDepth 100000 in
theorem trod_struct5E {t : TypeId} {f0 f1 f2 f3 f4 : Field} {fuel : Nat} {cs : List Value} {spare : Nat → Bool} {x : DataW H × List MemPlace} (ht : Tryd.prog.underlying t = some (.struct #[f0, f1, f2, f3, f4])) (h : DataW.trod enc Tryd.prog W bs spare held fuel t cs = some x) :
    ∃ y0 y1 y2 y3 y4 n, cs.length = Tryd.prog.cellsOf t ∧ DataW.trod enc Tryd.prog W bs spare held n f0.type ((cs.drop f0.offset).take (Tryd.prog.cellsOf f0.type)) = some y0 ∧
      DataW.trod enc Tryd.prog W bs spare held n f1.type ((cs.drop f1.offset).take (Tryd.prog.cellsOf f1.type)) = some y1 ∧ DataW.trod enc Tryd.prog W bs spare held n f2.type ((cs.drop f2.offset).take (Tryd.prog.cellsOf f2.type)) = some y2 ∧
      DataW.trod enc Tryd.prog W bs spare held n f3.type ((cs.drop f3.offset).take (Tryd.prog.cellsOf f3.type)) = some y3 ∧ DataW.trod enc Tryd.prog W bs spare held n f4.type ((cs.drop f4.offset).take (Tryd.prog.cellsOf f4.type)) = some y4 := by
  obtain ⟨xs, n, _, rfl, hl, hlen, hf⟩ := DataW.trod_struct ht h
  match xs, hlen with
  | [y0, y1, y2, y3, y4], _ => exact ⟨y0, y1, y2, y3, y4, n, hl, by simpa using hf 0 f0 rfl, by simpa using hf 1 f1 rfl, by simpa using hf 2 f2 rfl, by simpa using hf 3 f3 rfl, by simpa using hf 4 f4 rfl⟩
set_option maxRecDepth 100000 in
theorem parts69 {cs : List Value} {v0 v1 : Value} {d s t : List Value} (hl : cs.length = 69) (h0 : (cs.drop 0).take 1 = [v0]) (h1 : (cs.drop 1).take 1 = [v1]) (h2 : (cs.drop 2).take 32 = d) (h3 : (cs.drop 34).take 32 = s) (h4 : (cs.drop 66).take 3 = t) : cs = v0 :: v1 :: (d ++ (s ++ t)) := by
  have e4 : cs.drop 66 = t := by rw [← h4, List.take_of_length_le (by rw [List.length_drop]; omega)]
  have e3 : cs.drop 34 = s ++ t := by rw [← h3, ← e4, show cs.drop 66 = (cs.drop 34).drop 32 from by rw [List.drop_drop], List.take_append_drop]
  have e2 : cs.drop 2 = d ++ (s ++ t) := by rw [← h2, ← e3, show cs.drop 34 = (cs.drop 2).drop 32 from by rw [List.drop_drop], List.take_append_drop]
  have e1 : cs.drop 1 = [v1] ++ (d ++ (s ++ t)) := by rw [← h1, ← e2, show cs.drop 2 = (cs.drop 1).drop 1 from by rw [List.drop_drop], List.take_append_drop]
  have e0 : cs.drop 0 = [v0] ++ ([v1] ++ (d ++ (s ++ t))) := by rw [← h0, ← e1, show cs.drop 1 = (cs.drop 0).drop 1 from by rw [List.drop_drop], List.take_append_drop]
  rw [List.drop_zero] at e0
  exact e0
set_option maxRecDepth 100000 in
theorem one_of {cs : List Value} {i : Nat} (h : i < cs.length) : ∃ v, (cs.drop i).take 1 = [v] := ⟨cs[i], by rw [List.take_one, List.head?_drop, List.getElem?_eq_getElem h]; rfl⟩
set_option maxRecDepth 100000 in
theorem open_ent {base : Nat} {v : Value} {d : DataW H} {p : List MemPlace}
    (hv : Value.okWide Tryd.prog W .any base 35 v) (h : DataW.Trod enc Tryd.prog W bs (fun _ => true) held 35 v d p) : ∃ (e : En) (a : Option Addr) (n c : Nat), v = .agg (enA e a n c) ∧ EnI W e a n c := by
  obtain ⟨cs, rfl, hsz⟩ := okWide_struct Tryd.underlying35 hv
  obtain ⟨fuel, hf⟩ := h
  obtain ⟨y0, y1, y2, y3, y4, n, hl, h0, h1, h2, h3, h4⟩ := trod_struct5E Tryd.underlying35 hf
  have hct : Tryd.prog.cellsOf 35 = 69 := by kernel_rfl
  have q1 : Tryd.prog.cellsOf 3 = 1 := by kernel_rfl
  have q2 : Tryd.prog.cellsOf 30 = 32 := by kernel_rfl
  have q3 : Tryd.prog.cellsOf 33 = 3 := by kernel_rfl
  have hC : (Value.agg cs).cells.toList = cs.toList := rfl
  rw [hC] at hl h0 h1 h2 h3 h4
  rw [hct] at hl
  replace h0 : DataW.trod enc Tryd.prog W bs (fun _ => true) held n 3 ((cs.toList.drop 0).take 1) = some y0 := by rw [← q1]; exact h0
  replace h1 : DataW.trod enc Tryd.prog W bs (fun _ => true) held n 3 ((cs.toList.drop 1).take 1) = some y1 := by rw [← q1]; exact h1
  replace h2 : DataW.trod enc Tryd.prog W bs (fun _ => true) held n 30 ((cs.toList.drop 2).take 32) = some y2 := by rw [← q2]; exact h2
  replace h3 : DataW.trod enc Tryd.prog W bs (fun _ => true) held n 30 ((cs.toList.drop 34).take 32) = some y3 := by rw [← q2]; exact h3
  replace h4 : DataW.trod enc Tryd.prog W bs (fun _ => true) held n 33 ((cs.toList.drop 66).take 3) = some y4 := by rw [← q3]; exact h4
  obtain ⟨v0, e0⟩ := one_of (cs := cs.toList) (i := 0) (by omega)
  obtain ⟨v1, e1⟩ := one_of (cs := cs.toList) (i := 1) (by omega)
  rw [e0] at h0
  rw [e1] at h1
  obtain ⟨j, rfl, hj⟩ := cell_int h0
  obtain ⟨t, rfl, ht⟩ := cell_int h1
  obtain ⟨DH, e2, hDH⟩ := cells_dig h2
  obtain ⟨DS, e3, hDS⟩ := cells_dig h3
  obtain ⟨k, a, m, c, o, r, e4, hk, ho, hr⟩ := cells_verd h4
  have hall := parts69 hl e0 e1 e2 e3 e4
  refine ⟨⟨j, t, DH, DS, k, r, o⟩, a, m, c, ?_, ⟨hDH, hDS⟩, ho.1, hj, ht, hk, hr, ho.2⟩
  have hall2 : cs.toList = enC ⟨j, t, DH, DS, k, r, o⟩ a m c := hall
  rw [show cs = (enC ⟨j, t, DH, DS, k, r, o⟩ a m c).toArray from by rw [← hall2]]
  rfl
end
end Go.Proofs.YtbednfacipphhaaDoor
namespace Go.Proofs.YtbednfacipphhaaDoor
open Go.ChangeShapes Go.WideShapes Go.ChangeAt Go.RowKit

/-- an entry with its order's place -/
structure EC where
  e : En
  a : Option Addr
  n : Nat
  c : Nat
  dig : EnD e
def ecC (q : EC) : List Value := enC q.e q.a q.n q.c
set_option maxRecDepth 100000 in
theorem ecC_len (q : EC) : (ecC q).length = 69 := enC_len q.dig
set_option maxRecDepth 100000 in
theorem ecC_one (q : EC) : ∀ u ∈ ecC q, u.oneCell' = true := enC_one
abbrev Ens := Ls ecC 69
/-- their orders -/
def EnsOk (w : World) (Q : List EC) : Prop := ∀ q ∈ Q, Ivs w q.a q.n q.c q.e.o
section
variable {w w' : World} {ao : Option Addr} {len cap : Nat} {Q : List EC}
set_option maxRecDepth 100000 in
theorem EnsOk.below (h : EnsOk w Q) (hb : Below w.heap.size w w') : EnsOk w' Q := fun q hq => (h q hq).below hb
set_option maxRecDepth 100000 in
theorem Ls.ec (h : Ens w ao len cap Q) (i : Nat) (hi : i < Q.length) : ∃ b off, ao = some ⟨b, off, none⟩ ∧ b < w.heap.size ∧ w.rangeAt b (off + i * 69) (ecC Q[i]) := by
  obtain ⟨b, off, e, hlt, hc⟩ := h.spot (by rw [← h.len_eq]; omega)
  refine ⟨b, off, e, hlt, fun j v hj => ?_⟩
  have hj2 : j < 69 := by have := (List.getElem?_eq_some_iff.1 hj).1; rwa [ecC_len] at this
  rw [hc i hi j hj2]; exact hj
set_option maxRecDepth 100000 in
/-- an entry of a list is read whole, also under a guard -/
theorem wpList_load_ec {ops : Array Oper} {rest : List Oper} {o : Oper} {a : Act} {w : World} {R : Exit → Act → World → Prop} {b of : Nat} {q : EC} (hw : Region.wanted o (yielded ops a.tmps) = true) (x : Operand) (ho : o.op = .load 35 x) (hx : a.eval x = .pointer (some ⟨b, of, none⟩))
    (hr : w.rangeAt b of (ecC q)) (h : wpList Tryd.prog ops R rest (a.put o.dst (.agg (enA q.e q.a q.n q.c))) w) : wpList Tryd.prog ops R (o :: rest) a w :=
  wpList_step fun K hK => by
    rw [if_pos hw]
    exact wp_load_mid 35 x ho b of hx (ecC q) _ hr Tryd.underlying35 rfl (by rw [ecC_len]; exact en_info) (hK _ _ h)
/-- an own list of entries -/
structure OE (base : Nat) (v : Value) (Q : List EC) (w wr : World) : Prop where
  low : Below base w wr
  size : base ≤ wr.heap.size
  own : wr.ownsRow base 35 69 v Q.length (Q.flatMap ecC)
  iv : ∀ q ∈ Q, Ivs wr q.a q.n q.c q.e.o ∧ ∀ p, q.a = some p → p.block < wr.heap.size ∧ v.ownBlock ≠ some p.block
set_option maxRecDepth 100000 in
theorem OE.nil (w : World) : OE w.heap.size (.slice none 0 0) [] w w := ⟨Below.refl _ _, Nat.le_refl _, World.ownsRow_nil _ _ _ _, fun q hq => by cases hq⟩
set_option maxRecDepth 100000 in
theorem OE.step {base : Nat} {v : Value} {wr w1 : World} (h : OE base v Q w wr) (hb : Below wr.heap.size wr w1) : OE base v Q w w1 :=
  ⟨h.low.trans (hb.mono h.size), Nat.le_trans h.size hb.size, owns_below h.own hb, fun q hq => ⟨(h.iv q hq).1.below hb, fun p e => ⟨Nat.lt_of_lt_of_le ((h.iv q hq).2 p e).1 hb.size, ((h.iv q hq).2 p e).2⟩⟩⟩
set_option maxRecDepth 100000 in
theorem Ivs.grown {wr w1 : World} {a : Option Addr} {n c : Nat} {l : List Int} {row : Option Nat} (h : Ivs wr a n c l) (hg : wr.grownBy w1 row) (hne : ∀ p, a = some p → row ≠ some p.block) : Ivs w1 a n c l :=
  h.keep (fun p e hlt => hg.block _ hlt (Ne.symm (hne p e))) hg.size
set_option maxRecDepth 100000 in
theorem OE.app {base g cap : Nat} {v : Value} {q : EC} {cs : Array Value} {wr wB w1 : World} (h : OE base v Q w wr) (hq : Ivs wr q.a q.n q.c q.e.o) (hlt : ∀ p, q.a = some p → p.block < wr.heap.size ∧ v.ownBlock ≠ some p.block)
    (hB : wB = wr.alloc (.cells cs 35)) (ho : w1.ownsRow base 35 69 (.slice (some ⟨g, 0, none⟩) (Q.length + 1) cap) (Q.length + 1) (Q.flatMap ecC ++ ecC q)) (hg : wB.grownBy w1 v.ownBlock) (hl : v.ownBlock = some g ∨ g = wB.heap.size) : OE base (.slice (some ⟨g, 0, none⟩) (Q.length + 1) cap) (Q ++ [q]) w w1 := by
  have hb : Below wr.heap.size wr wB := by rw [hB]; exact (Below.refl _ _).alloc (Nat.le_refl _) _
  have hv : ∀ k, v.ownBlock = some k → base ≤ k := fun k hk => (h.own.lt k hk).1
  have hfar : ∀ {a : Option Addr} {n c : Nat} {l : List Int}, Ivs wr a n c l → (∀ p, a = some p → p.block < wr.heap.size ∧ v.ownBlock ≠ some p.block) → Ivs w1 a n c l ∧ ∀ p, a = some p → p.block < w1.heap.size ∧ (Value.slice (some ⟨g, 0, none⟩) (Q.length + 1) cap).ownBlock ≠ some p.block := by
    intro a n c l hi hn
    refine ⟨Ivs.grown (hi.below hb) hg (fun p e => (hn p e).2), fun p e => ?_⟩
    obtain ⟨h1, h2⟩ := hn p e
    have h3 := hb.size
    have h4 := hg.size
    refine ⟨by omega, ?_⟩
    show some g ≠ some p.block
    rcases hl with h5 | h5
    · rw [← h5]; exact h2
    · intro e2
      have e3 : g = p.block := Option.some.inj e2
      omega
  refine ⟨(h.low.trans (hb.mono h.size)).grown hg (Nat.le_trans h.size hb.size) hv, Nat.le_trans (Nat.le_trans h.size hb.size) hg.size, ?_, fun x hx => ?_⟩
  · rw [List.length_append, List.flatMap_append]
    simpa using ho
  · rcases List.mem_append.1 hx with h6 | h6
    · exact hfar (h.iv x h6).1 (h.iv x h6).2
    · rw [List.mem_singleton.1 h6]; exact hfar hq hlt
set_option maxRecDepth 100000 in
theorem OE.ens {base : Nat} {v : Value} {wr : World} (h : OE base v Q w wr) : (∃ a c, v = .slice a Q.length c ∧ Ens wr a Q.length c Q) ∧ EnsOk wr Q :=
  ⟨Ls.of_owns ecC_len h.own rfl, fun q hq => (h.iv q hq).1⟩
end
section
variable {H : Type} {enc : TypeId × Value → H} {W : World} {held : Bool} {bs : Nat}
set_option maxRecDepth 100000 in
theorem cells_ent {fuel : Nat} {cs : List Value} {x : DataW H × List MemPlace} (h : DataW.trod enc Tryd.prog W bs (fun _ => true) held fuel 35 cs = some x) : ∃ q : EC, cs = ecC q ∧ Ivs W q.a q.n q.c q.e.o := by
  obtain ⟨y0, y1, y2, y3, y4, n, hl, h0, h1, h2, h3, h4⟩ := trod_struct5E Tryd.underlying35 h
  have hct : Tryd.prog.cellsOf 35 = 69 := by kernel_rfl
  have q1 : Tryd.prog.cellsOf 3 = 1 := by kernel_rfl
  have q2 : Tryd.prog.cellsOf 30 = 32 := by kernel_rfl
  have q3 : Tryd.prog.cellsOf 33 = 3 := by kernel_rfl
  rw [hct] at hl
  replace h0 : DataW.trod enc Tryd.prog W bs (fun _ => true) held n 3 ((cs.drop 0).take 1) = some y0 := by rw [← q1]; exact h0
  replace h1 : DataW.trod enc Tryd.prog W bs (fun _ => true) held n 3 ((cs.drop 1).take 1) = some y1 := by rw [← q1]; exact h1
  replace h2 : DataW.trod enc Tryd.prog W bs (fun _ => true) held n 30 ((cs.drop 2).take 32) = some y2 := by rw [← q2]; exact h2
  replace h3 : DataW.trod enc Tryd.prog W bs (fun _ => true) held n 30 ((cs.drop 34).take 32) = some y3 := by rw [← q2]; exact h3
  replace h4 : DataW.trod enc Tryd.prog W bs (fun _ => true) held n 33 ((cs.drop 66).take 3) = some y4 := by rw [← q3]; exact h4
  obtain ⟨v0, e0⟩ := one_of (cs := cs) (i := 0) (by omega)
  obtain ⟨v1, e1⟩ := one_of (cs := cs) (i := 1) (by omega)
  rw [e0] at h0
  rw [e1] at h1
  obtain ⟨j, rfl, hj⟩ := cell_int h0
  obtain ⟨t, rfl, ht⟩ := cell_int h1
  obtain ⟨DH, e2, hDH⟩ := cells_dig h2
  obtain ⟨DS, e3, hDS⟩ := cells_dig h3
  obtain ⟨k, a, m, c, o, r, e4, hk, ho, hr⟩ := cells_verd h4
  exact ⟨⟨⟨j, t, DH, DS, k, r, o⟩, a, m, c, ⟨hDH, hDS⟩⟩, parts69 hl e0 e1 e2 e3 e4, ho.1⟩
set_option maxRecDepth 100000 in
theorem open_ens {a : Option Addr} {len cap : Nat} {d : DataW H} {p : List MemPlace} (h : DataW.Trod enc Tryd.prog W bs (fun _ => true) held 23 (.slice a len cap) d p) : ∃ Q, Ens W a len cap Q ∧ EnsOk W Q := by
  obtain ⟨fuel, hf⟩ := h
  have hC : Tryd.prog.cellsOf 35 = 69 := by kernel_rfl
  rcases Deep.open_slice Tryd.underlying23 hf with ⟨hcs, _⟩ | ⟨a, l, c, m, n, D, Pl, hcs, _, hl, hm, hmm, _, hel⟩
  · simp [Value.cells] at hcs
    obtain ⟨rfl, rfl, rfl⟩ := hcs
    exact ⟨[], Ls.empty _, fun q hq => by cases hq⟩
  · simp [Value.cells] at hcs
    obtain ⟨rfl, rfl, rfl⟩ := hcs
    have hmm' : m = cap := by simpa using hmm
    rw [hC] at hel
    have hone : ∀ i, i < len → ∃ k : EC, (∀ j, j < 69 → W.cell? ((a.add (i * 69)).add j) = (ecC k)[j]?) ∧ Ivs W k.a k.n k.c k.e.o := by
      intro i hi
      obtain ⟨cs, e1, e2⟩ := hel i (by omega)
      obtain ⟨_, hlen, hcell⟩ := World.cells?_some e1
      obtain ⟨q, rfl, hq⟩ := cells_ent e2
      refine ⟨q, fun j hj => ?_, hq⟩
      have hj2 : j < (ecC q).length := by rw [ecC_len]; exact hj
      rw [hcell j hj, List.getElem?_eq_getElem hj2]
    obtain ⟨f, hfn⟩ := @Deep.choose_lt EC ⟨⟨en0, none, 0, 0, en0_dig⟩⟩ _ _ hone
    refine ⟨(List.range len).map f, ⟨by simp, hl, hm, (fun hh => by cases hh), fun hp => ?_⟩, fun q hq => ?_⟩
    · obtain ⟨b, off, sp⟩ := a
      have h00 := (hfn 0 hp).1 0 (by decide)
      have hsm : (ecC (f 0))[0]? = some (.int .i64 (f 0).e.j) := rfl
      rw [hsm] at h00
      have hsp : sp = none := by simpa [Addr.add] using World.cell?_spot h00
      subst hsp
      refine ⟨b, off, rfl, by have := World.block_lt_of_cell? W _ h00; simpa [Addr.add] using this, fun i hi j hj => ?_⟩
      have hi2 : i < len := by simpa using hi
      have e0 := (hfn i hi2).1 j hj
      simp only [Addr.add_lit] at e0
      have hg : ((List.range len).map f)[i] = f i := by simp
      rw [hg]
      exact e0
    · obtain ⟨i, hi, rfl⟩ := List.mem_map.1 hq
      exact (hfn i (List.mem_range.1 hi)).2
end
end Go.Proofs.YtbednfacipphhaaDoor
