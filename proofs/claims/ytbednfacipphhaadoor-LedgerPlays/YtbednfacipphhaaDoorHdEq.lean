/- A head is equal to itself. -/
import Derived.Test.YtbednfacipphhaaDoorAuah
import Derived.Test.YtbednfacipphhaaDoorEqSelf
import Derived.Laws.StructEq
namespace Go.Proofs.YtbednfacipphhaaDoor
open Go.RowKit
set_option linter.unusedVariables false

set_option maxRecDepth 100000 in
theorem dig_eqD (d : Nat) (l : List Int) (hl : l.length = 32) (w : World) : (Op.equalIn (d + 1 + 1) 30 (.agg (bv l).toArray) (.agg (bv l).toArray)).run Tryd.prog w = .ok true w := by
  obtain ⟨i0, hi, hz0, hz1, hz2⟩ := info_parts Tryd.info5
  rw [run_equalIn_array w (d + 1) _ _ Tryd.underlying30 hi, show Tryd.prog.cellsOf 5 = 1 by kernel_rfl]
  refine eq_self 5 .u8 Tryd.underlying5 (by kernel_rfl) d _ w _ (fun i hi => ?_)
  rw [List.getElem?_toArray]
  have : i < 32 := by simpa using hi
  exact ⟨l.getD i 0, by unfold bv; rw [List.getElem?_map, List.getElem?_eq_getElem (by omega), List.getD_eq_getElem?_getD, List.getElem?_eq_getElem (by omega)]; rfl⟩
set_option maxRecDepth 100000 in
theorem dg_part {xs : Array Value} (off : Nat) (l : List Int) (hx : (xs.toList.drop off).take 32 = bv l) (w : World) : (part 30 xs off).run Tryd.prog w = .ok (.agg (bv l).toArray) w := by
  obtain ⟨i, hi⟩ := info_of_underlying Tryd.underlying30
  have hc : Tryd.prog.cellsOf 30 = 32 := by kernel_rfl
  have hl : xs.extract off (off + 32) = (bv l).toArray := by
    apply Array.ext'
    rw [Array.toList_extract]
    simp only [List.extract]
    rw [← hx]
    simp
  have hs := run_sizeOf (P := Tryd.prog) w hi
  rw [hc] at hs
  simp only [part, isAgg, Sem.run_bind, run_underlying Tryd.underlying30, Result.andThen_ok, Sem.run_pure, if_true, hs, hl]
set_option maxRecDepth 100000 in
theorem hd_fields : Tryd.prog.underlying 47 = some (.struct (Tryd.prog.fieldsOf 47)) := by
  unfold Program.fieldsOf; rw [Tryd.underlying47]
set_option maxRecDepth 100000 in
theorem hd_parts {h : Hd} (hd : HdD h) (w : World) : (part 3 (hdA h) 0).run Tryd.prog w = .ok (.int .i64 h.n) w ∧ (part 30 (hdA h) 1).run Tryd.prog w = .ok (.agg (bv h.R).toArray) w ∧ (part 30 (hdA h) 33).run Tryd.prog w = .ok (.agg (bv h.C).toArray) w ∧ (part 30 (hdA h) 65).run Tryd.prog w = .ok (.agg (bv h.G).toArray) w := by
  have hR : (bv h.R).length = 32 := by rw [bv_length, hd.R.1]
  have hC : (bv h.C).length = 32 := by rw [bv_length, hd.C.1]
  have hG : (bv h.G).length = 32 := by rw [bv_length, hd.G.1]
  have hL : (hdA h).toList = hdC h := rfl
  have e1 : (hdC h).drop 1 = bv h.R ++ (bv h.C ++ bv h.G) := rfl
  have e2 : (hdC h).drop 33 = bv h.C ++ bv h.G := by
    have : (hdC h).drop 33 = ((hdC h).drop 1).drop 32 := by rw [List.drop_drop]
    rw [this, e1, ← hR, List.drop_left]
  have e3 : (hdC h).drop 65 = bv h.G := by
    have : (hdC h).drop 65 = ((hdC h).drop 33).drop 32 := by rw [List.drop_drop]
    rw [this, e2, ← hC, List.drop_left]
  refine ⟨run_part_plain (P := Tryd.prog) w (by kernel_rfl) ?_, dg_part 1 h.R ?_ w, dg_part 33 h.C ?_ w, dg_part 65 h.G ?_ w⟩
  · unfold hdA; rw [List.getElem?_toArray, hdC_at hd]; rfl
  · rw [hL, e1, ← hR, List.take_left]
  · rw [hL, e2, ← hC, List.take_left]
  · rw [hL, e3, List.take_of_length_le (by omega)]
set_option maxRecDepth 100000 in
theorem eqF_step (k : Nat) (X : Array Value) (f : Field) (fs : List Field) (v : Value) (w : World) (hn : f.name ≠ "_") (hp : (part f.type X f.offset).run Tryd.prog w = .ok v w) (hq : (Op.equalIn k f.type v v).run Tryd.prog w = .ok true w) : (Op.eqFields k X X (f :: fs)).run Tryd.prog w = (Op.eqFields k X X fs).run Tryd.prog w := by
  simp [Op.eqFields, hn, hp, hq]
set_option maxRecDepth 100000 in
theorem hd_eqF (d : Nat) (n : Int) (X D1 D2 D3 : Array Value) (w : World) (p0 : (part 3 X 0).run Tryd.prog w = .ok (.int .i64 n) w) (p1 : (part 30 X 1).run Tryd.prog w = .ok (.agg D1) w) (p2 : (part 30 X 33).run Tryd.prog w = .ok (.agg D2) w) (p3 : (part 30 X 65).run Tryd.prog w = .ok (.agg D3) w)
    (q0 : (Op.equalIn (d + 1 + 1) 3 (.int .i64 n) (.int .i64 n)).run Tryd.prog w = .ok true w) (q1 : (Op.equalIn (d + 1 + 1) 30 (.agg D1) (.agg D1)).run Tryd.prog w = .ok true w) (q2 : (Op.equalIn (d + 1 + 1) 30 (.agg D2) (.agg D2)).run Tryd.prog w = .ok true w) (q3 : (Op.equalIn (d + 1 + 1) 30 (.agg D3) (.agg D3)).run Tryd.prog w = .ok true w) :
    (Op.eqFields (d + 1 + 1) X X (Tryd.prog.fieldsOf 47).toList).run Tryd.prog w = .ok true w := by
  unfold Program.fieldsOf
  rw [Tryd.underlying47]
  generalize d + 1 + 1 = k at q0 q1 q2 q3 ⊢
  refine (eqF_step k X _ _ _ w (by decide) p0 q0).trans ((eqF_step k X _ _ _ w (by decide) p1 q1).trans ((eqF_step k X _ _ _ w (by decide) p2 q2).trans ((eqF_step k X _ _ _ w (by decide) p3 q3).trans ?_)))
  simp [Op.eqFields]
set_option maxRecDepth 100000 in
theorem hd_eqD (d : Nat) {h : Hd} (hd : HdD h) (w : World) : (Op.equalIn (d + 1 + 1 + 1) 47 (.agg (hdA h)) (.agg (hdA h))).run Tryd.prog w = .ok true w := by
  obtain ⟨p0, p1, p2, p3⟩ := hd_parts hd w
  refine (run_equalIn_struct w (d + 1 + 1) 47 _ _ hd_fields (by kernel_rfl)).trans (hd_eqF d h.n _ _ _ _ w p0 p1 p2 p3 ?_ (dig_eqD d h.R hd.R.1 w) (dig_eqD d h.C hd.C.1 w) (dig_eqD d h.G hd.G.1 w))
  have h1 := run_equalIn_int (P := Tryd.prog) w (d + 1) 3 .i64 .i64 h.n h.n Tryd.underlying3
  simpa using h1
set_option maxRecDepth 100000 in
theorem hd_eq {h : Hd} (hd : HdD h) (w : World) : (Op.equalIn 10000 47 (.agg (hdA h)) (.agg (hdA h))).run Tryd.prog w = .ok true w := hd_eqD 9997 hd w
end Go.Proofs.YtbednfacipphhaaDoor
