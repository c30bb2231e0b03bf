/- The document's own queue: New, Put, Done. -/
import Derived.Test.YtedingegmiacmaaRQueue
namespace Go.Proofs.Ytedingegmiacmaa
open Go.RowKit
set_option linter.unusedVariables false

/-- the document's own queue in memory -/
structure Qx (N : Nat) (w : World) (g most : Nat) (vL : Value) (L : List Int) : Prop where
  row : w.heap[g]? = some (.cells #[.int .i64 most, vL] 42 (0, 0))
  gN : N ≤ g
  own : w.ownsRow N 3 1 vL L.length (L.flatMap ivC)
section
variable {N : Nat} {w w' : World} {g most : Nat} {vL : Value} {L : List Int}
set_option maxRecDepth 100000 in
theorem Qx.below (h : Qx N w g most vL L) (hb : Below w.heap.size w w') : Qx N w' g most vL L := ⟨up_row _ _ h.row hb, h.gN, owns_below h.own hb⟩
set_option maxRecDepth 100000 in
theorem Qx.c0 (h : Qx N w g most vL L) : w.cell? ⟨g, 0, none⟩ = some (.int .i64 most) := cell_of_row _ g 0 _ _ (0, 0) h.row
set_option maxRecDepth 100000 in
theorem Qx.c1 (h : Qx N w g most vL L) : w.cell? ⟨g, 1, none⟩ = some vL := cell_of_row _ g 1 _ _ (0, 0) h.row
set_option maxRecDepth 100000 in
theorem Qx.f1 (h : Qx N w g most vL L) : w.frozen? ⟨g, 1, none⟩ = false := frozen_of_row _ g 1 _ _ h.row
set_option maxRecDepth 100000 in
theorem Qx.lt (h : Qx N w g most vL L) : g < w.heap.size := (Array.getElem?_eq_some_iff.1 h.row).1
set_option maxRecDepth 100000 in
theorem Qx.ng (h : Qx N w g most vL L) : vL.ownBlock ≠ some g := own_off h.own h.row (by decide)
set_option maxRecDepth 100000 in
theorem q_sl {b : Nat} {T : TypeId} {k n : Nat} {v : Value} {xs : List Value} (h : w.ownsRow b T k v n xs) : ∃ ao cap, v = .slice ao n cap := by
  rcases h.2 with ⟨rfl, rfl⟩ | ⟨g, cap, cur, rfl, _⟩
  · exact ⟨none, 0, rfl⟩
  · exact ⟨_, _, rfl⟩
set_option maxRecDepth 100000 in
theorem Qx.ivs {aL : Option Addr} {cL : Nat} (h : Qx N w g most (.slice aL L.length cL) L) : Ivs w aL L.length cL L := by
  obtain ⟨ao, cap, e, hE⟩ := Ls.of_owns ivC_len h.own rfl
  cases e; exact hE
end
/-- what may be changed -/
def ownQ (g : Nat) (vL : Value) : Nat → Prop := fun j => j = g ∨ vL.ownBlock = some j
def AtQ (w : World) (v v' : Value) : Prop := ∀ j, v'.ownBlock = some j → v.ownBlock = some j ∨ w.heap.size ≤ j
/-- what Put and Done answer -/
def QpP (N g most : Nat) (vL : Value) (r : List Int × Int) (w : World) (e : Ending) (w' : World) : Prop := ∃ vL', e = .returned (.int .i64 r.2) ∧ Qx N w' g most vL' r.1 ∧ Kept (ownQ g vL) w w' ∧ AtQ w vL vL'
set_option maxRecDepth 100000 in
theorem qp_stay {N g most : Nat} {vL : Value} {L : List Int} {x : Int} {r : List Int × Int} {w w' : World} (h : Qx N w' g most vL L) (hb : Below w.heap.size w w') (hr : r = (L, x)) : QpP N g most vL r w (.returned (.int .i64 x)) w' := by
  subst hr; exact ⟨vL, rfl, h, Kept.of_below hb, fun j e => .inl e⟩
set_option maxHeartbeats 4000000 in
set_option maxRecDepth 100000 in
theorem refnew19_no (most : Int) (h : most < 1 ∨ 8 < most) (w : World) :
    Calls Try.prog 9 #[.int .i64 most] w fun e w' => e = .returned (.tuple #[.pointer none, .int .i64 2]) ∧ w' = w := by
  have hg : decide (most < 1) = true ∨ (decide (most < 1) = false ∧ decide (8 < most) = true) := by
    by_cases h1 : most < 1
    · exact .inl (decide_eq_true h1)
    · exact .inr ⟨decide_eq_false h1, decide_eq_true (by omega)⟩
  clear h
  rcases hg with hg | ⟨hg, hg2⟩
  · go_enter Try.func9, Try.ntmps9
    go_wp2_with fail
    go_ret2
    exact ⟨rfl, rfl⟩
  · go_enter Try.func9, Try.ntmps9
    go_wp2_with fail
    go_ret2
    exact ⟨rfl, rfl⟩
set_option maxHeartbeats 4000000 in
set_option maxRecDepth 100000 in
theorem refnew19_yes (most : Nat) (h1 : 1 ≤ most) (h2 : most ≤ 8) (w : World) :
    Calls Try.prog 9 #[.int .i64 most] w fun e w' => e = .returned (.tuple #[.pointer (some ⟨w.heap.size, 0, none⟩), .int .i64 0]) ∧ Qx w.heap.size w' w.heap.size most (.slice none 0 0) [] ∧ Below w.heap.size w w' := by
  have HQ : Bx (Qx w.heap.size (w.alloc (.cells #[.int .i64 most, .slice none 0 0] 42)) w.heap.size most (.slice none 0 0) []) := ⟨⟨heap_alloc_new _ _, Nat.le_refl _, World.ownsRow_nil _ _ _ _⟩⟩
  have HB : Bx (Below w.heap.size w (w.alloc (.cells #[.int .i64 most, .slice none 0 0] 42))) := ⟨(Below.refl _ _).alloc (Nat.le_refl _) _⟩
  have hg1 : ¬ (most : Int) < 1 := by omega
  have hg2 : ¬ (8 : Int) < (most : Int) := by omega
  go_enter Try.func9, Try.ntmps9
  go_wp2_with fail
  go_ret2
  exact ⟨rfl, HQ.out, HB.out⟩
set_option maxHeartbeats 4000000 in
set_option maxRecDepth 100000 in
theorem refput19_any (N g most : Nat) (vL : Value) (L : List Int) (j : Int) (w : World) (h : Qx N w g most vL L) (hl : L.length ≤ 8) :
    Calls Try.prog 13 #[.pointer (some ⟨g, 0, none⟩), .int .i64 j] w (QpP N g most vL (qPut most L j) w) := by
  have HQ := Bx.mk h
  have hl8 := hl
  have HL8 : Bx (L.length ≤ 1000) := ⟨by omega⟩
  have HE : Bx (qPut most L j = if j < 0 then (L, 2) else if j ∈ L then (L, 10) else if L.length = most then (L, 11) else (L ++ [j], 0)) := ⟨rfl⟩
  obtain ⟨R, HR⟩ : ∃ R, Bx (qPut most L j = R) := ⟨_, ⟨rfl⟩⟩
  rw [HR.out] at HE ⊢
  clear h hl HR
  by_cases hj : j < 0
  · have HF : Bx (R = (L, 2)) := ⟨by rw [HE.out, if_pos hj]⟩
    go_enter Try.func13, Try.ntmps13
    go_wp2_with fail
    go_ret
    exact qp_stay HQ.out (Below.refl _ _) HF.out
  · rw [if_neg hj] at HE
    have hjd : decide (j < 0) = false := decide_eq_false hj
    obtain ⟨aL, cL, rfl⟩ := q_sl HQ.out.own
    obtain ⟨Qq, HQ0⟩ : ∃ Qq : World → Prop, Bx (Qq = fun W => Qx N W g most (.slice aL L.length cL) L) := ⟨_, ⟨rfl⟩⟩
    have HQQ : Bx (∀ W, Qq W → Qx N W g most (.slice aL L.length cL) L) := ⟨fun W h => by rw [HQ0.out] at h; exact h⟩
    have HQI : Bx (∀ W, Qq W → Ivs W aL L.length cL L) := ⟨fun W h => (HQQ.out W h).ivs⟩
    have HHK : Bx (HX Qq w w.drew) := ⟨⟨(Below.refl _ _).drew, by rw [HQ0.out]; exact fun W W' h hb => h.below hb, by rw [HQ0.out]; exact HQ.out.below (Below.refl _ _).drew⟩⟩
    have HWI := Bx.mk (wout_iff (L := L) (j := j))
    clear HQ0
    go_enter Try.func13, Try.ntmps13
    go_upto_region 3 with fail
    have hk := HHK.out
    clear HHK HQ
    refine wp_region_held_drew (S := fun W => HX Qq w W) (by kernel_rfl) hk (fun _ => ?_)
    generalize w.drew = wk at hk ⊢
    refine wpAnyH_take (i := 0) (oi := { dst := some 7, op := Op.move (Operand.tmp 0), type := 27, pos := "ref.go:43", after := #[], guard := none }) (v := ?vrqp31) rfl (by kernel_rfl) (by kernel_rfl) (by kernel_rfl) (fun _ _ _ h => h) (Or.inl ⟨by rfl, ?yrqp31⟩) hk ?rrqp31
    case yrqp31 => (intro w hSw; (try dsimp only at hSw); go_simp; first | done | with_reducible rfl)
    simp only [Act.put, List.setIfInBounds_toArray, List.set_cons_zero, List.set_cons_succ]
    refine wpAnyH_take (i := 1) (oi := { dst := some 8, op := Op.nilCheck (Operand.tmp 7), type := 0, pos := "ref.go:43", after := #[{ on := 0, ground := Ground.data }], guard := none }) (v := ?vrqp32) rfl (by kernel_rfl) (by kernel_rfl) (by kernel_rfl) (fun _ _ _ h => h) (Or.inl ⟨by rfl, ?yrqp32⟩) hk ?rrqp32
    case yrqp32 => (intro w hSw; (try dsimp only at hSw); go_simp; first | done | with_reducible rfl)
    simp only [Act.put, List.setIfInBounds_toArray, List.set_cons_zero, List.set_cons_succ]
    refine wpAnyH_take (i := 2) (oi := { dst := some 9, op := Op.fieldAddr 42 (Operand.tmp 8) 1, type := 0, pos := "ref.go:43", after := #[{ on := 1, ground := Ground.data }], guard := none }) (v := ?vrqp33) rfl (by kernel_rfl) (by kernel_rfl) (by kernel_rfl) (fun _ _ _ h => h) (Or.inl ⟨by rfl, ?yrqp33⟩) hk ?rrqp33
    case yrqp33 => (intro w hSw; (try dsimp only at hSw); go_simp; first | done | with_reducible rfl)
    simp only [Act.put, List.setIfInBounds_toArray, List.set_cons_zero, List.set_cons_succ]
    refine wpAnyH_take (i := 3) (oi := { dst := some 10, op := Op.load 36 (Operand.tmp 9), type := 36, pos := "ref.go:43", after := #[{ on := 2, ground := Ground.data }], guard := none }) (v := ?vrqp34) rfl (by kernel_rfl) (by kernel_rfl) (by kernel_rfl) (fun _ _ _ h => h) (Or.inl ⟨by rfl, ?yrqp34⟩) hk ?rrqp34
    case yrqp34 => (intro w hSw; have hcw := (HQQ.out _ hSw.q).c1; clear hSw; go_simp; first | done | with_reducible rfl)
    simp only [Act.put, List.setIfInBounds_toArray, List.set_cons_zero, List.set_cons_succ]
    refine wpAnyH_take (i := 4) (oi := { dst := some 11, op := Op.move (Operand.tmp 1), type := 3, pos := "ref.go:43", after := #[], guard := none }) (v := ?vrqp35) rfl (by kernel_rfl) (by kernel_rfl) (by kernel_rfl) (fun _ _ _ h => h) (Or.inl ⟨by rfl, ?yrqp35⟩) hk ?rrqp35
    case yrqp35 => (intro w hSw; (try dsimp only at hSw); go_simp; first | done | with_reducible rfl)
    simp only [Act.put, List.setIfInBounds_toArray, List.set_cons_zero, List.set_cons_succ]
    refine wpAnyH_take (i := 7) (oi := { dst := some 14, op := Op.move (Operand.tmp 0), type := 27, pos := "ref.go:43", after := #[], guard := none }) (v := ?vrqp36) rfl (by kernel_rfl) (by kernel_rfl) (by kernel_rfl) (fun _ _ _ h => h) (Or.inl ⟨by rfl, ?yrqp36⟩) hk ?rrqp36
    case yrqp36 => (intro w hSw; (try dsimp only at hSw); go_simp; first | done | with_reducible rfl)
    simp only [Act.put, List.setIfInBounds_toArray, List.set_cons_zero, List.set_cons_succ]
    refine wpAnyH_take (i := 8) (oi := { dst := some 15, op := Op.nilCheck (Operand.tmp 14), type := 0, pos := "ref.go:43", after := #[{ on := 7, ground := Ground.data }], guard := none }) (v := ?vrqp37) rfl (by kernel_rfl) (by kernel_rfl) (by kernel_rfl) (fun _ _ _ h => h) (Or.inl ⟨by rfl, ?yrqp37⟩) hk ?rrqp37
    case yrqp37 => (intro w hSw; (try dsimp only at hSw); go_simp; first | done | with_reducible rfl)
    simp only [Act.put, List.setIfInBounds_toArray, List.set_cons_zero, List.set_cons_succ]
    refine wpAnyH_take (i := 9) (oi := { dst := some 16, op := Op.fieldAddr 42 (Operand.tmp 15) 1, type := 0, pos := "ref.go:43", after := #[{ on := 8, ground := Ground.data }], guard := none }) (v := ?vrqp38) rfl (by kernel_rfl) (by kernel_rfl) (by kernel_rfl) (fun _ _ _ h => h) (Or.inl ⟨by rfl, ?yrqp38⟩) hk ?rrqp38
    case yrqp38 => (intro w hSw; (try dsimp only at hSw); go_simp; first | done | with_reducible rfl)
    simp only [Act.put, List.setIfInBounds_toArray, List.set_cons_zero, List.set_cons_succ]
    refine wpAnyH_take (i := 10) (oi := { dst := some 17, op := Op.load 36 (Operand.tmp 16), type := 36, pos := "ref.go:43", after := #[{ on := 9, ground := Ground.data }], guard := none }) (v := ?vrqp39) rfl (by kernel_rfl) (by kernel_rfl) (by kernel_rfl) (fun _ _ _ h => h) (Or.inl ⟨by rfl, ?yrqp39⟩) hk ?rrqp39
    case yrqp39 => (intro w hSw; have hcw := (HQQ.out _ hSw.q).c1; clear hSw; go_simp; first | done | with_reducible rfl)
    simp only [Act.put, List.setIfInBounds_toArray, List.set_cons_zero, List.set_cons_succ]
    refine wpAnyH_take (i := 11) (oi := { dst := some 18, op := Op.call { callee := Callee.builtin Builtin.len, args := #[Operand.tmp 17], argTypes := #[36] }, type := 3, pos := "ref.go:43", after := #[{ on := 10, ground := Ground.data }], guard := none }) (v := ?vrqp310) rfl (by kernel_rfl) (by kernel_rfl) (by kernel_rfl) (fun _ _ _ h => h) (Or.inl ⟨by rfl, ?yrqp310⟩) hk ?rrqp310
    case yrqp310 => (intro w hSw; (try dsimp only at hSw); go_simp; first | done | with_reducible rfl)
    simp only [Act.put, List.setIfInBounds_toArray, List.set_cons_zero, List.set_cons_succ]
    refine wpAnyH_ready (rs := [5]) (by decide +kernel) (by simp) ?_
    refine AllReadyH.cons (o := { dst := some 12, op := Op.call { callee := Callee.value (Operand.func 26), args := #[Operand.tmp 10, Operand.tmp 11], argTypes := #[36, 3] }, type := 36, pos := "ref.go:43", after := #[{ on := 3, ground := Ground.data }, { on := 4, ground := Ground.data }], guard := none }) rfl (fun K hK => ?_) AllReadyH.nil
    go_simp
    refine (without_any aL L.length cL L j _ (HQI.out _ hk.q) HL8.out).mono ?_
    rintro e1 wk ⟨v1, rfl, ho1, hb1⟩
    obtain ⟨aV, cV, rfl⟩ := q_sl ho1
    replace hk := hk.step hb1
    clear hb1 ho1
    refine hK.out _ _ hk (fun _ => ?_)
    clear hK K
    try simp only [Act.put, List.setIfInBounds_toArray, List.set_cons_zero, List.set_cons_succ]
    refine wpAnyH_take (i := 6) (oi := { dst := some 13, op := Op.call { callee := Callee.builtin Builtin.len, args := #[Operand.tmp 12], argTypes := #[36] }, type := 3, pos := "ref.go:43", after := #[{ on := 5, ground := Ground.data }], guard := none }) (v := ?vrqp311) rfl (by kernel_rfl) (by kernel_rfl) (by kernel_rfl) (fun _ _ _ h => h) (Or.inl ⟨by rfl, ?yrqp311⟩) hk ?rrqp311
    case yrqp311 => (intro w hSw; (try dsimp only at hSw); go_simp; first | done | with_reducible rfl)
    simp only [Act.put, List.setIfInBounds_toArray, List.set_cons_zero, List.set_cons_succ]
    refine wpAnyH_take (i := 12) (oi := { dst := some 19, op := Op.binOp BinOp.lss 3 (Operand.tmp 13) (Operand.tmp 18) 3, type := 4, pos := "ref.go:43", after := #[{ on := 6, ground := Ground.data }, { on := 11, ground := Ground.data }], guard := none }) (v := ?vrqp312) rfl (by kernel_rfl) (by kernel_rfl) (by kernel_rfl) (fun _ _ _ h => h) (Or.inl ⟨by rfl, ?yrqp312⟩) hk ?rrqp312
    case yrqp312 => (intro w hSw; (try dsimp only at hSw); go_simp; first | done | with_reducible rfl)
    simp only [Act.put, List.setIfInBounds_toArray, List.set_cons_zero, List.set_cons_succ]
    refine wpAnyH_done (by decide +kernel) ?_ _
    have HQ1 := Bx.mk (HQQ.out _ hk.q)
    have HB1 := Bx.mk hk.low
    clear hk HQQ HQI
    by_cases hm : j ∈ L
    · have HF : Bx (R = (L, 10)) := ⟨by rw [HE.out, if_pos hm]⟩
      have hlt : (((wout L j).length : Nat) : Int) < ((L.length : Nat) : Int) := by have := HWI.out.2 hm; omega
      clear hm
      go_wp2_with fail
      go_ret
      exact qp_stay HQ1.out HB1.out HF.out
    · have hlt : ¬ (((wout L j).length : Nat) : Int) < ((L.length : Nat) : Int) := by intro h; exact hm (HWI.out.1 (by omega))
      rw [if_neg hm] at HE
      have c0 := HQ1.out.c0
      have c1 := HQ1.out.c1
      clear hm
      by_cases hf : L.length = most
      · have HF : Bx (R = (L, 11)) := ⟨by rw [HE.out, if_pos hf]⟩
        have hq : (((L.length : Nat) : Int) == (most : Int)) = true := by simp; omega
        have HQD := Bx.mk fun q => HQ1.out.below (below_drewN (Below.refl _ _) q)
        clear hf
        go_wp2_with fail
        go_quiet (fail)
        go_wp2_with fail
        go_ret
        exact qp_stay (HQD.out _) (below_drewN HB1.out _) HF.out
      · rw [if_neg hf] at HE
        have hq : (((L.length : Nat) : Int) == (most : Int)) = false := beq_false_of_ne (by omega)
        clear hf
        go_wp2_with fail
        go_quiet (fail)
        have HQ2 := Bx.mk (HQ1.out.below (below_drewN (Below.refl _ _) nq))
        have HB2 := Bx.mk (below_drewN HB1.out nq)
        generalize wk.drewN nq = w2 at HQ2 HB2 ⊢
        clear c0 c1 HQ1 HB1
        have c1 := HQ2.out.c1
        have hbA : Below w2.heap.size w2 (w2.alloc (.cells #[.int .i64 j] 3)) := (Below.refl _ _).alloc (Nat.le_refl _) _
        have HNW := Bx.mk (World.news_of_block (heap_alloc_new w2 (.cells #[.int .i64 j] 3)))
        have HQ3 := Bx.mk (HQ2.out.below hbA)
        have HBA := Bx.mk (bstep HB2.out hbA)
        have HNS : Bx (N ≤ (w2.alloc (.cells #[.int .i64 j] 3)).heap.size) := ⟨Nat.le_trans HQ3.out.gN (Nat.le_of_lt HQ3.out.lt)⟩
        obtain ⟨i0, hi, hz0, hz1, hz2⟩ := info_parts Try.infoI20
        clear hbA
        go_wp2_with (at_builtin; refine wpList_append_at rfl _ _ 36 rfl N 3 i0 (.int .i64 0) 1 8 Try.underlying36 hi hz0 hz1 hz2 rfl (by decide) _ L.length (L.flatMap ivC) rfl HQ3.out.own ⟨w2.heap.size, 0, none⟩ 1 1 [.int .i64 j] rfl rfl HNW.out (by simp [Value.oneCell']) (by decide) (by unfold maxLen; omega) (by omega) HNS.out ?_)
        intro v1 w4 ho1 hg1 ha1
        generalize w2.alloc (.cells #[.int .i64 j] 3) = w3 at HQ3 HBA HNS hg1 ha1 ⊢
        obtain ⟨aV, cV, rfl⟩ := q_sl ho1
        have hng := HQ3.out.ng
        have hgl := HQ3.out.lt
        have hvg : (Value.slice aV (L.length + 1) cV).ownBlock ≠ some g := by
          rcases ha1 with e | e
          · rw [e]; exact hng
          · rw [e]; intro x; cases x; exact absurd hgl (Nat.lt_irrefl _)
        have hrow : w4.heap[g]? = _ := (hg1.block g hgl (fun e => hng e.symm)).trans HQ3.out.row
        have c1 := cell_of_row _ g 1 _ _ (0, 0) hrow
        have f1 := frozen_of_row _ g 1 _ _ hrow
        have HQ5 : Bx (Qx N (w4.setCell ⟨g, 1, none⟩ (.slice aV (L.length + 1) cV)) g most (.slice aV (L.length + 1) cV) (L ++ [j])) := ⟨⟨heap_setCell_same w4 g 1 _ _ _ hrow, HQ3.out.gN, by
          have h1 := ownsRow_setCell_other ho1 (a := ⟨g, 1, none⟩) hvg (.slice aV (L.length + 1) cV)
          rw [List.length_append, List.flatMap_append]; exact h1⟩⟩
        have HK5 : Bx (Kept (ownQ g (.slice aL L.length cL)) w (w4.setCell ⟨g, 1, none⟩ (.slice aV (L.length + 1) cV))) := ⟨((Kept.of_below HBA.out).grown hg1 (fun k e => .inl (.inr e))).setCell (g := g) (.inl (.inl rfl)) 1 _⟩
        have HA5 : Bx (AtQ w (.slice aL L.length cL) (.slice aV (L.length + 1) cV)) := ⟨fun k e => by
          rcases ha1 with e1 | e1
          · exact .inl (by rw [← e1]; exact e)
          · rw [e1] at e; cases e; exact .inr HBA.out.size⟩
        have HF : Bx (R = (L ++ [j], 0)) := HE
        clear ho1 hg1 ha1 hng hgl hvg hrow hi hz0 hz1 hz2 HQ3 HBA HNS HQ2 HB2 HNW
        go_wp2_with fail
        go_ret
        exact ⟨_, by rw [HF.out]; rfl, by rw [HF.out]; exact HQ5.out, HK5.out, HA5.out⟩
set_option maxHeartbeats 4000000 in
set_option maxRecDepth 100000 in
theorem refdone19_any (N g most : Nat) (vL : Value) (L : List Int) (j : Int) (w : World) (h : Qx N w g most vL L) (hl : L.length ≤ 8) :
    Calls Try.prog 15 #[.pointer (some ⟨g, 0, none⟩), .int .i64 j] w (QpP N g most vL (qDone L j) w) := by
  have HQ := Bx.mk h
  have HGW := Bx.mk h.lt
  have HL8 : Bx (L.length ≤ 1000) := ⟨by omega⟩
  have HE : Bx (qDone L j = if j ∈ L then (wout L j, 0) else (L, 9)) := ⟨rfl⟩
  obtain ⟨R, HR⟩ : ∃ R, Bx (qDone L j = R) := ⟨_, ⟨rfl⟩⟩
  rw [HR.out] at HE ⊢
  obtain ⟨aL, cL, rfl⟩ := q_sl HQ.out.own
  have c1 := HQ.out.c1
  have HIV := Bx.mk HQ.out.ivs
  have HWI := Bx.mk (wout_iff (L := L) (j := j))
  have HWL := Bx.mk (wout_le L j)
  clear h hl HR
  go_enter Try.func15, Try.ntmps15
  go_wp2_with fail
  refine (without_any aL L.length cL L j _ HIV.out HL8.out).mono ?_
  rintro e w1 ⟨v1, rfl, ho1, hb1⟩
  obtain ⟨aV, cV, rfl⟩ := q_sl ho1
  have HQ1 := Bx.mk (HQ.out.below hb1)
  have HB1 := Bx.mk hb1
  have HO1 := Bx.mk ho1
  clear ho1 hb1 c1 HQ HIV
  have c1 := HQ1.out.c1
  by_cases hm : j ∈ L
  · have HF : Bx (R = (wout L j, 0)) := ⟨by rw [HE.out, if_pos hm]⟩
    have hlt : (((wout L j).length : Nat) : Int) < ((L.length : Nat) : Int) := by have := HWI.out.2 hm; omega
    have hq : ((((wout L j).length : Nat) : Int) == ((L.length : Nat) : Int)) = false := beq_false_of_ne (by omega)
    have f1 := HQ1.out.f1
    have hvg : (Value.slice aV (wout L j).length cV).ownBlock ≠ some g := own_off HO1.out HQ1.out.row (by decide)
    have HNS : Bx (N ≤ w.heap.size) := ⟨by
      have := HQ1.out.gN
      rcases Nat.lt_or_ge g w.heap.size with h | h
      · omega
      · have := HGW.out; omega⟩
    have HQ5 : Bx (Qx N (w1.setCell ⟨g, 1, none⟩ (.slice aV (wout L j).length cV)) g most (.slice aV (wout L j).length cV) (wout L j)) := ⟨⟨heap_setCell_same w1 g 1 _ _ _ HQ1.out.row, HQ1.out.gN, owns_base (ownsRow_setCell_other HO1.out (a := ⟨g, 1, none⟩) hvg _) HNS.out⟩⟩
    have HK5 : Bx (Kept (ownQ g (.slice aL L.length cL)) w (w1.setCell ⟨g, 1, none⟩ (.slice aV (wout L j).length cV))) := ⟨(Kept.of_below HB1.out).setCell (g := g) (.inl (.inl rfl)) 1 _⟩
    have HA5 : Bx (AtQ w (.slice aL L.length cL) (.slice aV (wout L j).length cV)) := ⟨fun k e => .inr (HO1.out.lt k e).1⟩
    clear hm hlt hvg
    go_wp2_with fail
    go_ret
    exact ⟨_, by rw [HF.out]; rfl, by rw [HF.out]; exact HQ5.out, HK5.out, HA5.out⟩
  · have HF : Bx (R = (L, 9)) := ⟨by rw [HE.out, if_neg hm]⟩
    have hge : (wout L j).length = L.length := by
      have h1 := HWL.out
      rcases Nat.lt_or_ge (wout L j).length L.length with h | h
      · exact absurd (HWI.out.1 h) hm
      · omega
    have hq : ((((wout L j).length : Nat) : Int) == ((L.length : Nat) : Int)) = true := by simp; omega
    clear hm hge
    go_wp2_with fail
    go_ret
    exact qp_stay HQ1.out HB1.out HF.out
end Go.Proofs.Ytedingegmiacmaa
