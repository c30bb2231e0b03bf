/- VmCells: what is stored is loaded, and the other cells stay. -/
import Derived.Test.YtpbdgacdbhabhaaRows
import Derived.Test.YtpbdgacdbhabhaaCallIn
import Derived.Test.YtpbdgacdbhabhaaVLaw
import Derived.WalkKit
import Derived.ProofKit
import Derived.OpenShut
import Derived.ShutString
import Derived.ChangeOld
import Derived.Below
namespace Go.Proofs.Ytpbdgacdbhabhaa.vmCells
open Go.ChangeShapes Go.WideShapes Go.ChangeAt Go.RowKit
open Go.ChangeMaps (open_string shut_string)
set_option linter.unusedVariables false

theorem own : ownKnob Try.prog.godebug = none := by kernel_rfl
theorem laidOut : laidOutB Try.prog = true := by kernel_rfl

theorem four_ins (w : World) (p q : Int) : Ics (w.alloc (.cells #[.int .i64 6, .int .i64 0, .int .i64 5, .int .i64 p, .int .i64 4, .int .i64 q, .int .i64 18, .int .i64 0] 36)) (some ⟨w.heap.size, 0, none⟩) 4 4 [⟨6, 0⟩, ⟨5, p⟩, ⟨4, q⟩, ⟨18, 0⟩] := by
  have hown : (w.alloc (.cells #[.int .i64 6, .int .i64 0, .int .i64 5, .int .i64 p, .int .i64 4, .int .i64 q, .int .i64 18, .int .i64 0] 36)).ownsRow w.heap.size 36 2 (.slice (some ⟨w.heap.size, 0, none⟩) 4 4) 4 ([(⟨6, 0⟩ : Ic), ⟨5, p⟩, ⟨4, q⟩, ⟨18, 0⟩].flatMap icC) := World.ownsRow_lit w #[.int .i64 6, .int .i64 0, .int .i64 5, .int .i64 p, .int .i64 4, .int .i64 q, .int .i64 18, .int .i64 0] 4 (Nat.le_refl _) (by unfold maxLen; omega) rfl
  obtain ⟨ao, cap, e, hE⟩ := Ls.of_owns icC_len hown rfl
  cases e
  exact hE

set_option maxRecDepth 100000 in
set_option maxHeartbeats 4000000 in
theorem walk (c : Cl) (at' : Int) (fr : Int) (x : Int) (w : World) (hc : ClK c) (hat' : I64 at') (hfr : I64 fr) (hx : I64 x) :
    Calls Try.prog 8 #[.agg #[.int .i64 c.s0, .int .i64 c.s1, .int .i64 c.s2, .int .i64 c.s3], .int .i64 at', .int .i64 fr, .int .i64 x] w fun e w' => e = .returned (.bool true) ∧ Below w.heap.size w w' := by
  obtain ⟨p, HP⟩ : ∃ p, Bx (leastV at' 0 3 = p) := ⟨_, ⟨rfl⟩⟩
  obtain ⟨q, HQ2⟩ : ∃ q, Bx (leastV fr 0 3 = q) := ⟨_, ⟨rfl⟩⟩
  have hp := least_bd at' 0 3 (by decide)
  have hq := least_bd fr 0 3 (by decide)
  rw [HP.out] at hp
  rw [HQ2.out] at hq
  obtain ⟨i, rfl⟩ : ∃ i : Nat, p = (i : Int) := ⟨p.toNat, by omega⟩
  obtain ⟨j, rfl⟩ : ∃ j : Nat, q = (j : Int) := ⟨q.toNat, by omega⟩
  have hi : i < 4 := by omega
  have hj : j < 4 := by omega
  have hiI : (i : Int) < 4 := by omega
  have hjI : (j : Int) < 4 := by omega
  have HS := Bx.mk hc.s
  have HX6 : Bx (V64 x) := ⟨hx⟩
  have HRUN := Bx.mk (cells_run [c.s0, c.s1, c.s2, c.s3] rfl (p := (i : Int)) (q := (j : Int)) hp hq x)
  have HIK : Bx (IcsK [⟨6, 0⟩, ⟨5, (i : Int)⟩, ⟨4, (j : Int)⟩, ⟨18, 0⟩]) := ⟨fun y hy => by
    rcases List.mem_cons.1 hy with e | hy
    · rw [e]; exact zero_in
    rcases List.mem_cons.1 hy with e | hy
    · rw [e]; show V64 (i : Int); unfold V64; omega
    rcases List.mem_cons.1 hy with e | hy
    · rw [e]; show V64 (j : Int); unfold V64; omega
    rcases List.mem_cons.1 hy with e | hy
    · rw [e]; exact zero_in
    cases hy⟩
  obtain ⟨t0, t1, t2, t3, ht⟩ := four_list (S := [c.s0, c.s1, c.s2, c.s3].set i x) (by rw [List.length_set]; rfl)
  have HT := Bx.mk ht
  obtain ⟨y, HY⟩ : ∃ y, Bx (([c.s0, c.s1, c.s2, c.s3].set i x).getD j 0 = y) := ⟨_, ⟨rfl⟩⟩
  have HST : Bx (stC (stpV [⟨6, 0⟩, ⟨5, (i : Int)⟩, ⟨4, (j : Int)⟩, ⟨18, 0⟩] [c.s0, c.s1, c.s2, c.s3] 3 x 4) = .agg #[.int .i64 1, .int .i64 t0, .int .i64 t1, .int .i64 t2, .int .i64 t3, .int .i64 y, .int .i64 4]) := ⟨by
    have h2 := HRUN.out.2
    rw [h2]
    show stC (1, [c.s0, c.s1, c.s2, c.s3].set i x, ([c.s0, c.s1, c.s2, c.s3].set i x).getD j 0, 4) = _
    rw [HY.out, ht]; rfl⟩
  have heq := step_eq 1 t0 t1 t2 t3 y 4
  obtain ⟨gs, HGS⟩ : ∃ gs, Bx (gs = w.heap.size) := ⟨_, ⟨rfl⟩⟩
  have HB0 : Bx (Below w.heap.size w (w.alloc (.cells #[.int .i64 c.s0, .int .i64 c.s1, .int .i64 c.s2, .int .i64 c.s3] 24))) := ⟨(Below.refl _ _).alloc (Nat.le_refl _) _⟩
  have HR0 := Bx.mk (heap_alloc_new w (.cells #[.int .i64 c.s0, .int .i64 c.s1, .int .i64 c.s2, .int .i64 c.s3] 24))
  rw [← HGS.out] at HR0
  clear hc hx hat' hfr ht
  go_enter Try.func8, Try.ntmps8
  go_upto_region 1 with fail
  rw [← HGS.out]
  generalize w.alloc (.cells #[.int .i64 c.s0, .int .i64 c.s1, .int .i64 c.s2, .int .i64 c.s3] 24) = w0 at HB0 HR0 ⊢
  go_upto_region 2 with (first | (go_at_call_of 17 at'; refine (least_any _ _ _ _).mono ?_; rintro e wz ⟨rfl, hw⟩; subst hw; rw [HP.out]) | (go_at_call 17; refine (least_any _ _ _ _).mono ?_; rintro e wz ⟨rfl, hw⟩; subst hw; rw [HQ2.out]))
  have HE := Bx.mk (four_ins w0 (i : Int) (j : Int))
  have HB1 : Bx (Below w0.heap.size w0 (w0.alloc (.cells #[.int .i64 6, .int .i64 0, .int .i64 5, .int .i64 (i : Int), .int .i64 4, .int .i64 (j : Int), .int .i64 18, .int .i64 0] 36))) := ⟨(Below.refl _ _).alloc (Nat.le_refl _) _⟩
  go_wp2_with fail
  generalize w0.alloc (.cells #[.int .i64 6, .int .i64 0, .int .i64 5, .int .i64 (i : Int), .int .i64 4, .int .i64 (j : Int), .int .i64 18, .int .i64 0] 36) = w1 at HE HB1 ⊢
  refine (vnew_yes _ 4 4 _ _ HE.out HRUN.out.1).mono ?_
  rintro e w2 ⟨gm, gc, cc, rfl, hm, _, _, hb2⟩
  have HM := Bx.mk hm
  have HB2 := Bx.mk (bstep HB0.out (bstep HB1.out hb2))
  have HR2 : Bx (w2.heap[gs]? = some (.cells #[.int .i64 c.s0, .int .i64 c.s1, .int .i64 c.s2, .int .i64 c.s3] 24 (0, 0))) := ⟨up_row _ _ HR0.out (bstep HB1.out hb2)⟩
  clear hm hb2 HB1 HE HR0 HB0
  have q0 := cell_of_row _ gs 0 _ _ (0, 0) HR2.out
  have q1 := cell_of_row _ gs 1 _ _ (0, 0) HR2.out
  have q2 := cell_of_row _ gs 2 _ _ (0, 0) HR2.out
  have q3 := cell_of_row _ gs 3 _ _ (0, 0) HR2.out
  go_upto_region 6 with fail
  obtain ⟨gw, HGW⟩ : ∃ gw, Bx (gw = w2.heap.size) := ⟨_, ⟨rfl⟩⟩
  have HBW : Bx (Below w2.heap.size w2 (w2.alloc (.cells #[.int .i64 c.s0, .int .i64 c.s1, .int .i64 c.s2, .int .i64 c.s3] 24))) := ⟨(Below.refl _ _).alloc (Nat.le_refl _) _⟩
  have HNB : Bx (Nb 24 4 (w2.alloc (.cells #[.int .i64 c.s0, .int .i64 c.s1, .int .i64 c.s2, .int .i64 c.s3] 24)) gw [c.s0, c.s1, c.s2, c.s3]) := ⟨by rw [HGW.out]; exact Nb.new w2 [c.s0, c.s1, c.s2, c.s3] 24⟩
  have HLT : Bx (gm < gw ∧ gc < gw ∧ gs < gw ∧ w.heap.size ≤ gw) := ⟨by rw [HGW.out]; exact ⟨HM.out.lt.1, HM.out.lt.2, (Array.getElem?_eq_some_iff.1 HR2.out).1, HB2.out.size⟩⟩
  have HM3 := Bx.mk (HM.out.below HBW.out)
  have HR3 : Bx ((w2.alloc (.cells #[.int .i64 c.s0, .int .i64 c.s1, .int .i64 c.s2, .int .i64 c.s3] 24)).heap[gs]? = some (.cells #[.int .i64 c.s0, .int .i64 c.s1, .int .i64 c.s2, .int .i64 c.s3] 24 (0, 0))) := ⟨up_row _ _ HR2.out HBW.out⟩
  have HB3 := Bx.mk (bstep HB2.out HBW.out)
  rw [← HGW.out]
  generalize w2.alloc (.cells #[.int .i64 c.s0, .int .i64 c.s1, .int .i64 c.s2, .int .i64 c.s3] 24) = w3 at HBW HNB HM3 HR3 HB3 ⊢
  clear q0 q1 q2 q3 HM HR2 HB2 HBW HGW
  have ci := HNB.out.cell i hi
  have fi := HNB.out.froz i
  have HN4 := Bx.mk (HNB.out.set i x)
  have hne := HLT.out
  have HM4 : Bx (Mc (w3.setCell ⟨gw, i, none⟩ (.int .i64 x)) gm gc cc [⟨6, 0⟩, ⟨5, (i : Int)⟩, ⟨4, (j : Int)⟩, ⟨18, 0⟩]) := ⟨HM3.out.keep (heap_setCell_other w3 ⟨gw, i, none⟩ gm _ (by show gm ≠ gw; omega)) (heap_setCell_other w3 ⟨gw, i, none⟩ gc _ (by show gc ≠ gw; omega)) (by simp [World.setCell])⟩
  have HR4 : Bx ((w3.setCell ⟨gw, i, none⟩ (.int .i64 x)).heap[gs]? = some (.cells #[.int .i64 c.s0, .int .i64 c.s1, .int .i64 c.s2, .int .i64 c.s3] 24 (0, 0))) := ⟨(heap_setCell_other w3 ⟨gw, i, none⟩ gs _ (by show gs ≠ gw; omega)).trans HR3.out⟩
  have HB4 : Bx (Below w.heap.size w (w3.setCell ⟨gw, i, none⟩ (.int .i64 x))) := ⟨HB3.out.setCell (p := ⟨gw, i, none⟩) hne.2.2.2 _⟩
  generalize ([c.s0, c.s1, c.s2, c.s3] : List Int).getD i 0 = xi at ci
  clear hne
  go_upto_region 7 with fail
  generalize w3.setCell ⟨gw, i, none⟩ (.int .i64 x) = wd at HN4 HM4 HR4 HB4 ⊢
  rw [HT.out] at HN4
  have HRW : Bx (wd.heap[gw]? = some (.cells #[.int .i64 t0, .int .i64 t1, .int .i64 t2, .int .i64 t3] 24 (0, 0))) := ⟨HN4.out.row⟩
  have HWJ : Bx (∀ W : World, W.heap[gw]? = some (.cells #[.int .i64 t0, .int .i64 t1, .int .i64 t2, .int .i64 t3] 24 (0, 0)) → W.cell? ⟨gw, j, none⟩ = some (.int .i64 y)) := ⟨fun W h => by
    have h2 : Nb 24 4 W gw [t0, t1, t2, t3] := ⟨h, rfl⟩
    rw [h2.cell j hj, ← HT.out, HY.out]⟩
  clear ci fi HNB HM3 HR3 HB3 HN4
  obtain ⟨Qc, HQ0⟩ : ∃ Qc : World → Prop, Bx (Qc = fun W => W.heap[gs]? = some (.cells #[.int .i64 c.s0, .int .i64 c.s1, .int .i64 c.s2, .int .i64 c.s3] 24 (0, 0)) ∧ W.heap[gw]? = some (.cells #[.int .i64 t0, .int .i64 t1, .int .i64 t2, .int .i64 t3] 24 (0, 0)) ∧ Mc W gm gc cc [⟨6, 0⟩, ⟨5, (i : Int)⟩, ⟨4, (j : Int)⟩, ⟨18, 0⟩]) := ⟨_, ⟨rfl⟩⟩
  have HQ : Bx (∀ W, Qc W → W.heap[gs]? = some (.cells #[.int .i64 c.s0, .int .i64 c.s1, .int .i64 c.s2, .int .i64 c.s3] 24 (0, 0)) ∧ W.heap[gw]? = some (.cells #[.int .i64 t0, .int .i64 t1, .int .i64 t2, .int .i64 t3] 24 (0, 0)) ∧ Mc W gm gc cc [⟨6, 0⟩, ⟨5, (i : Int)⟩, ⟨4, (j : Int)⟩, ⟨18, 0⟩]) := ⟨fun W h => by rw [HQ0.out] at h; exact h⟩
  have hk : HX Qc w wd.drew := ⟨HB4.out.drew, by rw [HQ0.out]; exact up_row.and (up_row.and up_mc), by rw [HQ0.out]; exact (up_row.and (up_row.and up_mc)) _ _ ⟨HR4.out, HRW.out, HM4.out⟩ (Below.refl _ _).drew⟩
  clear HQ0 HR4 HRW HM4 HB4
  refine wp_region_held_drew (S := fun W => HX Qc w W) (by kernel_rfl) hk (fun _ => ?_)
  generalize wd.drew = wk at hk ⊢
  refine wpAnyH_take (i := 0) (oi := { dst := some 33, op := Op.move (Operand.tmp 9), type := 28, pos := "law.go:128", after := #[], guard := none }) (v := ?vvce71) rfl (by kernel_rfl) (by kernel_rfl) (by kernel_rfl) (fun _ _ _ h => h) (Or.inl ⟨by rfl, ?yvce71⟩) hk ?rvce71
  case yvce71 => (intro w hSw; (try dsimp only at hSw); go_simp; first | done | with_reducible rfl)
  simp only [Act.put, List.setIfInBounds_toArray, List.set_cons_zero, List.set_cons_succ]
  refine wpAnyH_take (i := 1) (oi := { dst := some 34, op := Op.load 24 (Operand.tmp 4), type := 24, pos := "law.go:128", after := #[], guard := none }) (v := .agg #[.int .i64 c.s0, .int .i64 c.s1, .int .i64 c.s2, .int .i64 c.s3]) rfl (by kernel_rfl) (by kernel_rfl) (by kernel_rfl) (fun _ _ _ h => h) (Or.inl ⟨by rfl, ?yvce72⟩) hk ?rvce72
  case yvce72 => (intro w hSw; have hq1 := (HQ.out _ hSw.q).1; have q0 := cell_of_row _ gs 0 _ _ (0, 0) hq1; have q1 := cell_of_row _ gs 1 _ _ (0, 0) hq1; have q2 := cell_of_row _ gs 2 _ _ (0, 0) hq1; have q3 := cell_of_row _ gs 3 _ _ (0, 0) hq1; clear hSw hq1; go_simp; first | done | with_reducible rfl)
  simp only [Act.put, List.setIfInBounds_toArray, List.set_cons_zero, List.set_cons_succ]
  refine wpAnyH_take (i := 2) (oi := { dst := some 35, op := Op.move (Operand.tmp 3), type := 2, pos := "law.go:128", after := #[], guard := none }) (v := ?vvce73) rfl (by kernel_rfl) (by kernel_rfl) (by kernel_rfl) (fun _ _ _ h => h) (Or.inl ⟨by rfl, ?yvce73⟩) hk ?rvce73
  case yvce73 => (intro w hSw; (try dsimp only at hSw); go_simp; first | done | with_reducible rfl)
  simp only [Act.put, List.setIfInBounds_toArray, List.set_cons_zero, List.set_cons_succ]
  refine wpAnyH_take (i := 4) (oi := { dst := some 37, op := Op.load 24 (Operand.tmp 11), type := 24, pos := "law.go:128", after := #[], guard := none }) (v := .agg #[.int .i64 t0, .int .i64 t1, .int .i64 t2, .int .i64 t3]) rfl (by kernel_rfl) (by kernel_rfl) (by kernel_rfl) (fun _ _ _ h => h) (Or.inl ⟨by rfl, ?yvce74⟩) hk ?rvce74
  case yvce74 => (intro w hSw; have hq1 := (HQ.out _ hSw.q).2.1; have q0 := cell_of_row _ gw 0 _ _ (0, 0) hq1; have q1 := cell_of_row _ gw 1 _ _ (0, 0) hq1; have q2 := cell_of_row _ gw 2 _ _ (0, 0) hq1; have q3 := cell_of_row _ gw 3 _ _ (0, 0) hq1; clear hSw hq1; go_simp; first | done | with_reducible rfl)
  simp only [Act.put, List.setIfInBounds_toArray, List.set_cons_zero, List.set_cons_succ]
  refine wpAnyH_take (i := 5) (oi := { dst := some 38, op := Op.move (Operand.tmp 2), type := 3, pos := "law.go:128", after := #[], guard := none }) (v := ?vvce75) rfl (by kernel_rfl) (by kernel_rfl) (by kernel_rfl) (fun _ _ _ h => h) (Or.inl ⟨by rfl, ?yvce75⟩) hk ?rvce75
  case yvce75 => (intro w hSw; (try dsimp only at hSw); go_simp; first | done | with_reducible rfl)
  simp only [Act.put, List.setIfInBounds_toArray, List.set_cons_zero, List.set_cons_succ]
  refine wpAnyH_take (i := 6) (oi := { dst := some 39, op := Op.indexAddr 24 (Operand.tmp 11) (Operand.tmp 38), type := 0, pos := "law.go:128", after := #[{ on := 5, ground := Ground.data }], guard := none }) (v := ?vvce76) rfl (by kernel_rfl) (by kernel_rfl) (by kernel_rfl) (fun _ _ _ h => h) (Or.inl ⟨by rfl, ?yvce76⟩) hk ?rvce76
  case yvce76 => (intro w hSw; (try dsimp only at hSw); go_simp; first | done | with_reducible rfl)
  simp only [Act.put, List.setIfInBounds_toArray, List.set_cons_zero, List.set_cons_succ]
  refine wpAnyH_take (i := 7) (oi := { dst := some 40, op := Op.load 2 (Operand.tmp 39), type := 2, pos := "law.go:128", after := #[{ on := 6, ground := Ground.data }], guard := none }) (v := ?vvce77) rfl (by kernel_rfl) (by kernel_rfl) (by kernel_rfl) (fun _ _ _ h => h) (Or.inl ⟨by rfl, ?yvce77⟩) hk ?rvce77
  case yvce77 => (intro w hSw; have hcw := HWJ.out _ (HQ.out _ hSw.q).2.1; clear hSw; go_simp; first | done | with_reducible rfl)
  simp only [Act.put, List.setIfInBounds_toArray, List.set_cons_zero, List.set_cons_succ]
  refine wpAnyH_take (i := 8) (oi := { dst := some 41, op := Op.build 38 #[(0, Operand.const (Value.int IntKind.i64 1)), (1, Operand.tmp 37), (2, Operand.tmp 40), (3, Operand.const (Value.int IntKind.i64 4))], type := 38, pos := "law.go:128", after := #[{ on := 4, ground := Ground.data }, { on := 7, ground := Ground.data }], guard := none }) (v := ?vvce78) rfl (by kernel_rfl) (by kernel_rfl) (by kernel_rfl) (fun _ _ _ h => h) (Or.inl ⟨by rfl, ?yvce78⟩) hk ?rvce78
  case yvce78 => (intro w hSw; (try dsimp only at hSw); go_simp; first | done | with_reducible rfl)
  simp only [Act.put, List.setIfInBounds_toArray, List.set_cons_zero, List.set_cons_succ]
  refine wpAnyH_ready (rs := [3]) (by decide +kernel) (by simp) ?_
  refine AllReadyH.cons (o := { dst := some 36, op := Op.call { callee := Callee.value (Operand.func 13), args := #[Operand.tmp 33, Operand.tmp 34, Operand.const (Value.int IntKind.i64 3), Operand.tmp 35, Operand.const (Value.int IntKind.i64 4)], argTypes := #[28, 24, 3, 2, 3] }, type := 38, pos := "law.go:128", after := #[{ on := 0, ground := Ground.data }, { on := 1, ground := Ground.data }, { on := 2, ground := Ground.data }], guard := none }) rfl (fun K hK => ?_) AllReadyH.nil
  go_simp
  refine (step_any gm gc cc _ c.s0 c.s1 c.s2 c.s3 3 x 4 _ (HQ.out _ hk.q).2.2 HIK.out HS.out ⟨by decide, by decide⟩ HX6.out ⟨by decide, by decide⟩).mono ?_
  rintro e1 wk ⟨rfl, hb1⟩
  rw [HST.out]
  replace hk := hk.step hb1
  clear hb1
  refine hK.out _ _ hk (fun _ => ?_)
  clear hK K
  try simp only [Act.put, List.setIfInBounds_toArray, List.set_cons_zero, List.set_cons_succ]
  refine wpAnyH_take (i := 9) (oi := { dst := some 42, op := Op.binOp BinOp.eql 38 (Operand.tmp 36) (Operand.tmp 41) 38, type := 4, pos := "law.go:128", after := #[{ on := 3, ground := Ground.data }, { on := 8, ground := Ground.data }], guard := none }) (v := ?vvce79) rfl (by kernel_rfl) (by kernel_rfl) (by kernel_rfl) (fun _ _ _ h => h) (Or.inl ⟨by rfl, ?yvce79⟩) hk ?rvce79
  case yvce79 => (intro w hSw; (try dsimp only at hSw); go_simp; first | done | with_reducible rfl)
  simp only [Act.put, List.setIfInBounds_toArray, List.set_cons_zero, List.set_cons_succ]
  refine wpAnyH_take (i := 10) (oi := { dst := some 43, op := Op.move (Operand.tmp 42), type := 4, pos := "law.go:128", after := #[{ on := 9, ground := Ground.data }, { on := 3, ground := Ground.chain }], guard := none }) (v := ?vvce710) rfl (by kernel_rfl) (by kernel_rfl) (by kernel_rfl) (fun _ _ _ h => h) (Or.inl ⟨by rfl, ?yvce710⟩) hk ?rvce710
  case yvce710 => (intro w hSw; (try dsimp only at hSw); go_simp; first | done | with_reducible rfl)
  simp only [Act.put, List.setIfInBounds_toArray, List.set_cons_zero, List.set_cons_succ]
  refine wpAnyH_ready (rs := [11]) (by decide +kernel) (by simp) ?_
  refine AllReadyH.cons (o := { dst := some 44, op := Op.call { callee := Callee.value (Operand.func 16), args := #[], argTypes := #[] }, type := 4, pos := "law.go:128", after := #[{ on := 10, ground := Ground.chain }, { on := 10, ground := Ground.guard }], guard := some (10, true) }) rfl (fun K hK => ?_) AllReadyH.nil
  go_simp
  refine (lives16_any _).mono ?_
  rintro e1 wk ⟨rfl, hb1⟩
  replace hk := hk.step hb1
  clear hb1
  refine hK.out _ _ hk (fun _ => ?_)
  clear hK K
  try simp only [Act.put, List.setIfInBounds_toArray, List.set_cons_zero, List.set_cons_succ]
  refine wpAnyH_take (i := 12) (oi := { dst := some 45, op := Op.pick (Operand.tmp 43) (Operand.tmp 44) (Operand.const (Value.bool false)), type := 4, pos := "law.go:128", after := #[{ on := 10, ground := Ground.data }, { on := 11, ground := Ground.data }], guard := none }) (v := ?vvce711) rfl (by kernel_rfl) (by kernel_rfl) (by kernel_rfl) (fun _ _ _ h => h) (Or.inl ⟨by rfl, ?yvce711⟩) hk ?rvce711
  case yvce711 => (intro w hSw; (try dsimp only at hSw); go_simp; first | done | with_reducible rfl)
  simp only [Act.put, List.setIfInBounds_toArray, List.set_cons_zero, List.set_cons_succ]
  refine wpAnyH_take (i := 13) (oi := { dst := some 8, op := Op.assign (Operand.tmp 45), type := 4, pos := "law.go:128", after := #[{ on := 12, ground := Ground.data }, { on := 11, ground := Ground.chain }, { on := 0, ground := Ground.phase }, { on := 1, ground := Ground.phase }, { on := 2, ground := Ground.phase }, { on := 3, ground := Ground.phase }, { on := 4, ground := Ground.phase }, { on := 5, ground := Ground.phase }, { on := 6, ground := Ground.phase }, { on := 7, ground := Ground.phase }, { on := 8, ground := Ground.phase }, { on := 9, ground := Ground.phase }, { on := 10, ground := Ground.phase }, { on := 11, ground := Ground.phase }, { on := 12, ground := Ground.phase }], guard := none }) (v := ?vvce712) rfl (by kernel_rfl) (by kernel_rfl) (by kernel_rfl) (fun _ _ _ h => h) (Or.inl ⟨by rfl, ?yvce712⟩) hk ?rvce712
  case yvce712 => (intro w hSw; (try dsimp only at hSw); go_simp; first | done | with_reducible rfl)
  simp only [Act.put, List.setIfInBounds_toArray, List.set_cons_zero, List.set_cons_succ]
  refine wpAnyH_done (by decide +kernel) ?_ _
  go_wp2_with fail
  go_ret
  exact ⟨rfl, hk.low⟩

set_option maxRecDepth 100000 in
theorem lifted (os : Os) (started : os.Started) (H : Type) (enc : TypeId × Value → H) :
    ReturnsInHanded {} Try.checked os 8 .any (Rows.vmCellsSpec.pre6 enc Try.prog Try.f8 Rows.vmCellsRow.domain false) (Rows.vmCellsSpec.post enc Try.prog Try.f8 false true false false) := by
  refine returnsInHanded_of_change (C := Try.checked) own started (by kernel_rfl) Try.func8
    (ChangeSpec.witness6 (enc := enc) (C := Try.checked) false ⟨#[], #[.agg #[.int .i64 0, .int .i64 0, .int .i64 0, .int .i64 0], .int .i64 0, .int .i64 0, .int .i64 0], []⟩ 8 (by kernel_rfl) (by kernel_rfl) (by kernel_rfl) (by kernel_rfl)) ?_
  intro W base args ds gs before hval0 hW hcnd _
  have hval : ∀ (j : Nat) t v, Try.f8.params[j]? = some t → args[j]? = some v → Value.okWide Try.prog W .any base t v := hval0
  have hW' := hW
  obtain ⟨p, q, hA0, hV, rfl, hfz, hnd⟩ := hW
  have hA : DataW.TrodAll enc Try.prog W 0 (fun _ => true) true Try.f8.params.toList args.toList ds p := hA0
  rw [Try.params8] at hA hval
  obtain ⟨v0, vs0, d0, ds0, p0, q0, hargs, rfl, rfl, h0, r0⟩ := trodAll_cons hA
  obtain ⟨v1, vs1, d1, ds1, p1, q1, rfl, rfl, rfl, h1, r1⟩ := trodAll_cons r0
  obtain ⟨v2, vs2, d2, ds2, p2, q2, rfl, rfl, rfl, h2, r2⟩ := trodAll_cons r1
  obtain ⟨v3, vs3, d3, ds3, p3, q3, rfl, rfl, rfl, h3, r3⟩ := trodAll_cons r2
  obtain ⟨rfl, rfl, rfl⟩ := trodAll_nil r3
  obtain rfl : args = #[v0, v1, v2, v3] := by cases args; simp_all
  obtain ⟨rfl, rfl⟩ := trodVars_none hV
  have k0 := h0
  have lt0 : ∀ x ∈ p0, x.block < W.heap.size := by obtain ⟨m, hm⟩ := k0; exact DataW.trod_lt m _ _ _ hm
  have k1 := h1
  have lt1 : ∀ x ∈ p1, x.block < W.heap.size := by obtain ⟨m, hm⟩ := k1; exact DataW.trod_lt m _ _ _ hm
  have k2 := h2
  have lt2 : ∀ x ∈ p2, x.block < W.heap.size := by obtain ⟨m, hm⟩ := k2; exact DataW.trod_lt m _ _ _ hm
  have k3 := h3
  have lt3 : ∀ x ∈ p3, x.block < W.heap.size := by obtain ⟨m, hm⟩ := k3; exact DataW.trod_lt m _ _ _ hm
  obtain ⟨c, rfl, hc⟩ := open_sta (hval 0 24 v0 rfl rfl) h0
  obtain ⟨at', rfl, hat'⟩ := open_i64 (hval 1 3 v1 rfl rfl) h1
  obtain ⟨fr, rfl, hfr⟩ := open_i64 (hval 2 3 v2 rfl rfl) h2
  obtain ⟨x, rfl, hx⟩ := open_long (hval 3 2 v3 rfl rfl) h3
  clear hA0 hval0
  refine (walk c at' fr x W hc hat' hfr hx).mono fun e W' ⟨he, bel⟩ => ?_
  subst he
  exact ⟨_, rfl, _, _, _, [], _, [], hW', trodAll_mk1 (shut_bool Try.underlying4 _), (trodAll_cons_mk (Below.trod laidOut (by kernel_rfl) (of_decide_eq_true (by kernel_rfl)) k0 bel lt0) (trodAll_cons_mk (Below.trod laidOut (by kernel_rfl) (of_decide_eq_true (by kernel_rfl)) k1 bel lt1) (trodAll_cons_mk (Below.trod laidOut (by kernel_rfl) (of_decide_eq_true (by kernel_rfl)) k2 bel lt2) (trodAll_cons_mk (Below.trod laidOut (by kernel_rfl) (of_decide_eq_true (by kernel_rfl)) k3 bel lt3) trodAll_mk0)))), rfl, bel.frame _, fun h => by cases h⟩

theorem over : Rows.vmCellsRow.holds Try.pinned (OpenSpec.ofChange Rows.vmCellsSpec) :=
  OpenClaim.holds_of_wide 8 Try.f8 rfl rfl rfl rfl rfl rfl rfl ⟨rfl, rfl, rfl, rfl, rfl⟩ rfl rfl rfl rfl rfl (by kernel_rfl) Try.func8 (by kernel_rfl)
    (of_decide_eq_true (by kernel_rfl)) (by unfold Func.isWrapper; first | (rw [if_pos (by decide +kernel)]; kernel_rfl) | (rw [if_neg (by decide +kernel)]; exact ⟨rfl, rfl⟩))
    (fun os started H enc _ => lifted os started H enc)

/-- the statement -/
theorem proved : Rows.VmCellsSaid := over
end Go.Proofs.Ytpbdgacdbhabhaa.vmCells
namespace Go.Proofs.Ytpbdgacdbhabhaa
theorem vmCells_holds : Rows.VmCellsSaid := vmCells.proved
#print axioms vmCells_holds
end Go.Proofs.Ytpbdgacdbhabhaa
