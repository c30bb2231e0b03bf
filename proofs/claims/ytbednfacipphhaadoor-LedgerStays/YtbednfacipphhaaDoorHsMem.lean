/- Heads: one that came in, lists of them. No walk. -/
import Derived.Test.YtbednfacipphhaaDoorAuah
import Derived.Test.YtbednfacipphhaaDoorAuac
import Derived.Lib.SmallJoins
namespace Go.Proofs.YtbednfacipphhaaDoor
open Go.ChangeShapes Go.WideShapes Go.ChangeAt Go.RowKit

/-- a head that came in -/
structure HdI (h : Hd) : Prop where
  dig : HdD h
  n : V64 h.n
/-- a head in a list -/
structure HC where
  h : Hd
  dig : HdD h
def hcC (q : HC) : List Value := hdC q.h
set_option maxRecDepth 100000 in
theorem hcC_len (q : HC) : (hcC q).length = 97 := hdC_len q.dig
set_option maxRecDepth 100000 in
theorem hcC_one (q : HC) : ∀ u ∈ hcC q, u.oneCell' = true := hdC_one
abbrev Hds := Ls hcC 97
set_option maxRecDepth 100000 in
theorem Ls.hc {w : World} {ao : Option Addr} {len cap : Nat} {Q : List HC} (h : Hds w ao len cap Q) (i : Nat) (hi : i < Q.length) : ∃ b off, ao = some ⟨b, off, none⟩ ∧ b < w.heap.size ∧ w.rangeAt b (off + i * 97) (hcC Q[i]) := by
  obtain ⟨b, off, e, hlt, hc⟩ := h.spot (by rw [← h.len_eq]; omega)
  refine ⟨b, off, e, hlt, fun j v hj => ?_⟩
  have hj2 : j < 97 := by have := (List.getElem?_eq_some_iff.1 hj).1; rwa [hcC_len] at this
  rw [hc i hi j hj2]; exact hj
set_option maxRecDepth 100000 in
/-- a head of a list is read whole, also under a guard -/
theorem wpList_load_hc {ops : Array Oper} {rest : List Oper} {o : Oper} {a : Act} {w : World} {R : Exit → Act → World → Prop} {b of : Nat} {h : Hd} (hw : Region.wanted o (yielded ops a.tmps) = true) (x : Operand) (ho : o.op = .load 47 x) (hx : a.eval x = .pointer (some ⟨b, of, none⟩))
    (hr : w.rangeAt b of (hdC h)) (hd : HdD h) (k : wpList Tryd.prog ops R rest (a.put o.dst (.agg (hdA h))) w) : wpList Tryd.prog ops R (o :: rest) a w :=
  wpList_step fun K hK => by
    rw [if_pos hw]
    exact wp_load_mid 47 x ho b of hx (hdC h) _ hr Tryd.underlying47 rfl (hdC_info hd) (hK _ _ k)
section
variable {H : Type} {enc : TypeId × Value → H} {W : World} {held : Bool} {bs : Nat}
set_option maxRecDepth 100000 in
theorem parts97 {cs : List Value} {v0 : Value} {d s t : List Value} (hl : cs.length = 97) (h0 : (cs.drop 0).take 1 = [v0]) (h1 : (cs.drop 1).take 32 = d) (h2 : (cs.drop 33).take 32 = s) (h3 : (cs.drop 65).take 32 = t) : cs = v0 :: (d ++ (s ++ t)) := by
  have e3 : cs.drop 65 = t := by rw [← h3, List.take_of_length_le (by rw [List.length_drop]; omega)]
  have e2 : cs.drop 33 = s ++ t := by rw [← h2, ← e3, show cs.drop 65 = (cs.drop 33).drop 32 from by rw [List.drop_drop], List.take_append_drop]
  have e1 : cs.drop 1 = d ++ (s ++ t) := by rw [← h1, ← e2, show cs.drop 33 = (cs.drop 1).drop 32 from by rw [List.drop_drop], List.take_append_drop]
  have e0 : cs.drop 0 = [v0] ++ (d ++ (s ++ t)) := by rw [← h0, ← e1, show cs.drop 1 = (cs.drop 0).drop 1 from by rw [List.drop_drop], List.take_append_drop]
  rw [List.drop_zero] at e0
  exact e0
set_option maxRecDepth 100000 in
theorem trod_struct4H {t : TypeId} {f0 f1 f2 f3 : Field} {fuel : Nat} {cs : List Value} {spare : Nat → Bool} {x : DataW H × List MemPlace} (ht : Tryd.prog.underlying t = some (.struct #[f0, f1, f2, f3])) (h : DataW.trod enc Tryd.prog W bs spare held fuel t cs = some x) :
    ∃ y0 y1 y2 y3 n, cs.length = Tryd.prog.cellsOf t ∧ DataW.trod enc Tryd.prog W bs spare held n f0.type ((cs.drop f0.offset).take (Tryd.prog.cellsOf f0.type)) = some y0 ∧
      DataW.trod enc Tryd.prog W bs spare held n f1.type ((cs.drop f1.offset).take (Tryd.prog.cellsOf f1.type)) = some y1 ∧ DataW.trod enc Tryd.prog W bs spare held n f2.type ((cs.drop f2.offset).take (Tryd.prog.cellsOf f2.type)) = some y2 ∧
      DataW.trod enc Tryd.prog W bs spare held n f3.type ((cs.drop f3.offset).take (Tryd.prog.cellsOf f3.type)) = some y3 := by
  obtain ⟨xs, n, _, rfl, hl, hlen, hf⟩ := DataW.trod_struct ht h
  match xs, hlen with
  | [y0, y1, y2, y3], _ => exact ⟨y0, y1, y2, y3, n, hl, by simpa using hf 0 f0 rfl, by simpa using hf 1 f1 rfl, by simpa using hf 2 f2 rfl, by simpa using hf 3 f3 rfl⟩
set_option maxRecDepth 100000 in
theorem open_head {base : Nat} {v : Value} {d : DataW H} {p : List MemPlace}
    (hv : Value.okWide Tryd.prog W .any base 47 v) (h : DataW.Trod enc Tryd.prog W bs (fun _ => true) held 47 v d p) : ∃ h : Hd, v = .agg (hdA h) ∧ HdI h := by
  obtain ⟨cs, rfl, hsz⟩ := okWide_struct Tryd.underlying47 hv
  obtain ⟨fuel, hf⟩ := h
  obtain ⟨y0, y1, y2, y3, n, hl, h0, h1, h2, h3⟩ := trod_struct4H Tryd.underlying47 hf
  have hct : Tryd.prog.cellsOf 47 = 97 := by kernel_rfl
  have q1 : Tryd.prog.cellsOf 3 = 1 := by kernel_rfl
  have q2 : Tryd.prog.cellsOf 30 = 32 := by kernel_rfl
  have hC : (Value.agg cs).cells.toList = cs.toList := rfl
  rw [hC] at hl h0 h1 h2 h3
  rw [hct] at hl
  replace h0 : DataW.trod enc Tryd.prog W bs (fun _ => true) held n 3 ((cs.toList.drop 0).take 1) = some y0 := by rw [← q1]; exact h0
  replace h1 : DataW.trod enc Tryd.prog W bs (fun _ => true) held n 30 ((cs.toList.drop 1).take 32) = some y1 := by rw [← q2]; exact h1
  replace h2 : DataW.trod enc Tryd.prog W bs (fun _ => true) held n 30 ((cs.toList.drop 33).take 32) = some y2 := by rw [← q2]; exact h2
  replace h3 : DataW.trod enc Tryd.prog W bs (fun _ => true) held n 30 ((cs.toList.drop 65).take 32) = some y3 := by rw [← q2]; exact h3
  obtain ⟨v0, e0⟩ := one_of (cs := cs.toList) (i := 0) (by omega)
  rw [e0] at h0
  obtain ⟨j, rfl, hj⟩ := cell_int h0
  obtain ⟨R, e1, hR⟩ := cells_dig h1
  obtain ⟨C, e2, hC2⟩ := cells_dig h2
  obtain ⟨G, e3, hG⟩ := cells_dig h3
  have hall : cs.toList = hdC ⟨j, R, C, G⟩ := parts97 hl e0 e1 e2 e3
  refine ⟨⟨j, R, C, G⟩, ?_, ⟨hR, hC2, hG⟩, hj⟩
  rw [show cs = (hdC ⟨j, R, C, G⟩).toArray from by rw [← hall]]
  rfl
end
end Go.Proofs.YtbednfacipphhaaDoor
