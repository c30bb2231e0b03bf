/- There is a ledger at all. -/
import Derived.Test.YtbednfacipphhaaDoorLdAdd
import Derived.Test.YtbednfacipphhaaDoorEnCut
namespace Go.Proofs.YtbednfacipphhaaDoor
open Go.RowKit
set_option linter.unusedVariables false

set_option maxRecDepth 100000 in
theorem wpList_runW {ops : Array Oper} {rest : List Oper} {o : Oper} {a : Act} {w : World} {Q : Exit → Act → World → Prop} (hw : Region.wanted o (yielded ops a.tmps) = true) (v : Value) (w' : World)
    (hrun : (execOp a.eval o).run Tryd.prog w = .ok (.value v) w') (h : wpList Tryd.prog ops Q rest (a.put o.dst v) w') : wpList Tryd.prog ops Q (o :: rest) a w :=
  wpList_step fun K hK => by rw [if_pos hw]; unfold Oper.wp; rw [hrun]; exact hK _ _ h
set_option maxHeartbeats 4000000 in
set_option maxRecDepth 100000 in
theorem lives21_any (w : World) : Calls Tryd.prog 18 #[] w fun x w' => x = .returned (.bool true) ∧ Below w.heap.size w w' := by
  have hv33 : ∀ W : World, (Instr.build 33 #[(0, .int .i64 2)]).run Tryd.prog W = .ok (.agg #[.int .i64 2, .slice none 0 0, .int .i64 0]) W := fun W => by kernel_rfl
  have hv35 : ∀ W : World, (Instr.build 35 #[(4, .agg #[.int .i64 2, .slice none 0 0, .int .i64 0])]).run Tryd.prog W = .ok (.agg (enA enLv none 0 0)) W := fun W => by kernel_rfl
  have HT : Bx (addT [] enLv = ([enL enLv], 0)) := ⟨by unfold addT; rw [if_neg (fun h => h enLv_ok), if_neg (by decide), if_neg (by intro h; exact h rfl)]; rfl⟩
  go_enter Tryd.func18, Tryd.ntmps18
  go_wp2_with fail
  refine (new21_any none 0 0 [] w (Bts.none rfl) (by decide)).mono ?_
  rintro e w1 ⟨g, own, rfl, hl, hn, hb1⟩
  have HGN : Bx (w.heap.size ≤ g) := ⟨hn g hl.og⟩
  have HL1 := Bx.mk hl
  have HB1 := Bx.mk hb1
  clear hl hb1 hn
  go_wp2_with fail
  refine (add21_any own g [] [] enLv none 0 0 _ HL1.out (Ls.empty _) ⟨dg0_dig, dg0_dig⟩).mono ?_
  rintro e w2 ⟨rfl, own', hl2, hk2, _⟩
  rw [HT.out] at hl2 ⊢
  have HL2 := Bx.mk hl2
  have HB2 : Bx (Below w.heap.size w w2) := ⟨((Kept.of_below HB1.out).trans' hk2).low (fun k hk => by rw [hk]; exact HGN.out) (Nat.le_refl _)⟩
  clear hl2 hk2 HL1 HB1
  go_wp2_with fail
  refine (size21_yes HL2.out).mono ?_
  rintro e w3 ⟨rfl, hw3⟩
  subst hw3
  go_wp2_with fail
  go_ret
  exact ⟨rfl, HB2.out⟩
end Go.Proofs.YtbednfacipphhaaDoor
