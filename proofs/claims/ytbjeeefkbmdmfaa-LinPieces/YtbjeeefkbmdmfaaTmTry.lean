/- A task does one try. -/
import Derived.Test.YtbjeeefkbmdmfaaLnk
import Derived.Test.YtbjeeefkbmdmfaaLnd
import Derived.Test.YtbjeeefkbmdmfaaLnc
import Derived.Test.YtbjeeefkbmdmfaaLinMem
import Derived.Deep.MidRow
namespace Go.Proofs.Ytbjeeefkbmdmfaa
open Go.RowKit
set_option linter.unusedVariables false
open Go.MapKept Go.Maps

set_option maxRecDepth 100000 in
theorem op_zero18 : (Try.prog.info? 35).map (fun i => i.zero.map (·.cells.size)) = some (some 7) := by kernel_rfl
set_option maxRecDepth 100000 in
theorem op_size18 : (Try.prog.info? 35).map (·.size) = some 7 := by kernel_rfl
set_option maxRecDepth 100000 in
theorem op_one18 (X : Opr) : (#[Value.int .i64 X.c, .int .i64 X.o, .int .i64 X.a, .bool X.d, .int .i64 X.r, .int .i64 X.f, .int .i64 X.t]).all (·.oneCell') = true := by simp [Value.oneCell']
set_option maxRecDepth 100000 in
theorem ps_zero18 : (Try.prog.info? 72).map (fun i => i.zero.map (·.cells.size)) = some (some 5) := by kernel_rfl
set_option maxRecDepth 100000 in
theorem ps_size18 : (Try.prog.info? 72).map (·.size) = some 5 := by kernel_rfl
set_option maxRecDepth 100000 in
theorem ps_one18 (x : Nat) (a b c d : Int) : (#[Value.int .u64 (x : Nat), .int .i64 a, .int .i64 b, .int .i64 c, .int .i64 d]).all (·.oneCell') = true := by simp [Value.oneCell']
/-- what holds while a try is done -/
structure TrI (D : TD) (w : World) (vF : Value) (F : List Fr) (M : List Ps) (k : Nat) (vO : Value) (W : World) : Prop where
  tm : Tm D W vF F M k 0 vO []
  kp : Kept (ownT D vF) w W
  lo : D.g < w.heap.size ∧ (∀ j, vF.ownBlock = some j → j < w.heap.size) ∧ (∀ j, vO.ownBlock = some j → j < w.heap.size)
section
variable {D : TD} {w W W' : World} {vF : Value} {F B : List Fr} {M : List Ps} {k : Nat} {vO : Value} {gF cF x kf : Nat} {s0 s1 s2 s3 : Int}
set_option maxRecDepth 100000 in
theorem TrI.below (h : TrI D w vF F M k vO W) (hb : Below W.heap.size W W') : TrI D w vF F M k vO W' := ⟨h.tm.below hb, h.kp.below hb, h.lo⟩
set_option maxRecDepth 100000 in
theorem TrI.put (h : TrI D w vF F M k vO W) (hk : TDK D) {z : Nat} (hz : w.heap.size ≤ z) (vs : List Value) : TrI D w vF F M k vO (W.setCells z 0 vs) :=
  ⟨h.tm.keep (by rw [setCells_size]; exact Nat.le_refl _) (fun j _ e => setCells_other (fun e2 => by
    rcases e with e | e | e
    · have := h.lo.1; omega
    · have := h.lo.2.1 j e; omega
    · have := h.lo.2.2 j e; omega) vs 0) hk, h.kp.setCells (.inr hz) vs 0, h.lo⟩
set_option maxRecDepth 100000 in
theorem TrI.fx (h : TrI D w (.slice (some ⟨gF, 0, none⟩) (B.length + 1) cF) (B ++ [⟨x, [s0, s1, s2, s3], kf⟩]) M k vO W) {L : Nat} (hL : B.length = L) :
    W.cell? ⟨gF, L * 6, none⟩ = some (.int .u64 (x : Nat)) ∧ W.cell? ⟨gF, L * 6 + 1, none⟩ = some (.int .i64 s0) ∧ W.cell? ⟨gF, L * 6 + 2, none⟩ = some (.int .i64 s1) ∧ W.cell? ⟨gF, L * 6 + 3, none⟩ = some (.int .i64 s2) ∧ W.cell? ⟨gF, L * 6 + 4, none⟩ = some (.int .i64 s3) ∧ W.cell? ⟨gF, L * 6 + 5, none⟩ = some (.int .i64 (kf : Nat)) := by
  subst hL; exact h.tm.top
set_option maxRecDepth 100000 in
theorem TrI.opc (h : TrI D w vF F M k vO W) {bO oO n : Nat} (hA : D.aO = some ⟨bO, oO, none⟩) (hN : D.n = n) : W.cell? ⟨D.g, 3, none⟩ = some (.slice (some ⟨bO, oO, none⟩) n D.cO) := by rw [← hA, ← hN]; exact h.tm.cells.2.2.2.1
set_option maxRecDepth 100000 in
theorem TrI.ops (h : TrI D w vF F M k vO W) {bO oO n : Nat} (hA : D.aO = some ⟨bO, oO, none⟩) (hN : D.n = n) {i : Nat} {X : Opr} (hX : D.ops.getD i op0 = X) (hi : i < n) :
    W.cell? ⟨bO, oO + i * 7, none⟩ = some (.int .i64 X.c) ∧ W.cell? ⟨bO, oO + i * 7 + 1, none⟩ = some (.int .i64 X.o) ∧ W.cell? ⟨bO, oO + i * 7 + 2, none⟩ = some (.int .i64 X.a) ∧ W.cell? ⟨bO, oO + i * 7 + 3, none⟩ = some (.bool X.d) ∧
    W.cell? ⟨bO, oO + i * 7 + 4, none⟩ = some (.int .i64 X.r) ∧ W.cell? ⟨bO, oO + i * 7 + 5, none⟩ = some (.int .i64 X.f) ∧ W.cell? ⟨bO, oO + i * 7 + 6, none⟩ = some (.int .i64 X.t) := by
  have h1 := h.tm.oo
  rw [hA, hN] at h1
  exact or_spot h1 i hi hX
end
/-- a task has done a try, or some -/
def TryP (D : TD) (k : Nat) (w : World) (vF : Value) (e : Ending) (w' : World) : Prop := ∃ vF', e = .returned (.tuple #[]) ∧ (∃ F M kd vO o, TaT D w' vF' k F M kd vO o) ∧ Kept (ownT D vF) w w' ∧ At3 w vF vF'
section
variable {D : TD} {w : World} {vF : Value} {k : Nat} {F : List Fr} {M : List Ps} {kd : Int} {vO : Value} {o : List Nat}
set_option maxRecDepth 100000 in
theorem OrsK.at {ops : List Opr} (h : OrsK ops) (i : Nat) : V64 (opN ops i).o ∧ V64 (opN ops i).a := by
  unfold opN
  rw [List.getD_eq_getElem?_getD]
  by_cases hi : i < ops.length
  · rw [List.getElem?_eq_getElem hi]
    have := h _ (List.getElem_mem hi)
    exact ⟨this.o, this.a⟩
  · rw [List.getElem?_eq_none (by omega)]
    exact ⟨by unfold V64; decide, by unfold V64; decide⟩
set_option maxHeartbeats 4000000 in
set_option maxRecDepth 100000 in
theorem try_any (h : TaT D w vF k F M kd vO o) (hk : TDK D) (hs : stopS (tS D) (tP D) (tB D) k = false) :
    Calls Try.prog 40 #[.pointer (some ⟨D.g, 0, none⟩)] w (TryP D (k + 1) w vF) := by
  have HTK := Bx.mk (tk_next h.tk hs)
  have HDK := Bx.mk hk
  have HKB : Bx (((k + 1 : Nat) : Int) ≤ D.bu) := ⟨by have := HTK.out.1; have := hk.bu; unfold tB at *; omega⟩
  have hkb : k ≤ 1073741824 := by have := HKB.out; have := hk.bu; omega
  obtain ⟨B, f, rfl, hrun, hok, rfl, rfl⟩ : ∃ B f, F = B ++ [f] ∧ Run (tS D) (sqS (tS D) (tP D) k) B f M k ∧ TOk D B f M k ∧ kd = 0 ∧ o = [] := by
    rcases h.st with ⟨_, h1, h2, B, f, h3, h4, h5⟩ | ⟨h1, _⟩
    · exact ⟨B, f, h3, h4, h5, h1, h2⟩
    · rw [h1] at hs; cases hs
  have htm := h.tm
  obtain ⟨x, S, kf⟩ := f
  obtain ⟨s0, s1, s2, s3, rfl⟩ : ∃ s0 s1 s2 s3, S = [s0, s1, s2, s3] := by
    have := hok.pf.four
    match S, this with
    | [a, b, c, d], _ => exact ⟨a, b, c, d, rfl⟩
  obtain ⟨gF, cF, rfl, _, _, _⟩ := htm.form
  obtain ⟨n, HN⟩ : ∃ n, Bx (D.n = n) := ⟨_, ⟨rfl⟩⟩
  have hkn : kf < n := by have h1 : kf < D.ops.length := hrun.2.1; rw [hk.len, HN.out] at h1; exact h1
  have hkI : (kf : Int) < (n : Int) := by omega
  have hn64 : n ≤ 64 := by rw [← HN.out]; exact hk.n64
  obtain ⟨bO, oO, haO, _⟩ := htm.oo.or kf (by rw [HN.out]; exact hkn)
  have HAO := Bx.mk haO
  obtain ⟨X, HXE⟩ : ∃ X, Bx (D.ops.getD kf op0 = X) := ⟨_, ⟨rfl⟩⟩
  have HXV : Bx (V64 X.o ∧ V64 X.a) := ⟨by rw [← HXE.out]; exact hk.ok.at kf⟩
  have HFV : Bx (V64 D.fu) := ⟨by have := hk.fu; unfold V64; omega⟩
  have HSV : Bx (V64 s0 ∧ V64 s1 ∧ V64 s2 ∧ V64 s3) := ⟨four_in hok.pf.v⟩
  obtain ⟨kS, t0, t1, t2, t3, rt, us, hst⟩ := stpV_form htm.mc.ok s0 s1 s2 s3 X.o X.a D.fu
  have HST := Bx.mk hst
  have HTV : Bx (∀ y ∈ [t0, t1, t2, t3], V64 y) := ⟨by
    have := stpV_cv htm.mc.ok (fun y hy => hk.lk y hy) (S := [s0, s1, s2, s3]) rfl (in_four HSV.out) HXV.out.1 HXV.out.2 D.fu
    rw [hst] at this; exact this⟩
  obtain ⟨L, HL⟩ : ∃ L : Nat, Bx (B.length = L) := ⟨_, ⟨rfl⟩⟩
  have HBL : Bx (B.length ≤ 1073741824) := ⟨by have := hok.nb; omega⟩
  have HRUN := Bx.mk hrun
  have HOK := Bx.mk hok
  have HT0 := Bx.mk htm
  have HLO : Bx (D.g < w.heap.size ∧ (∀ j, (Value.slice (some ⟨gF, 0, none⟩) (B.length + 1) cF).ownBlock = some j → j < w.heap.size) ∧ (∀ j, vO.ownBlock = some j → j < w.heap.size)) := ⟨htm.lt, fun j e => (htm.ltF j e).2, fun j e => (htm.od.lt j e).2⟩
  clear h hk hs hrun hok htm haO hst
  go_enter Try.func40, Try.ntmps40
  go_wp2_with fail
  refine (last_any HT0.out HBL.out).mono ?_
  rintro e w1 ⟨rfl, q, rfl⟩
  rw [HL.out]
  have HI1 : Bx (TrI D w (.slice (some ⟨gF, 0, none⟩) (B.length + 1) cF) (B ++ [⟨x, [s0, s1, s2, s3], kf⟩]) M k vO (w.drewN q)) := ⟨⟨HT0.out.drewN q, (Kept.refl _ _).drewN q, HLO.out⟩⟩
  clear HT0
  generalize w.drewN q = w1 at HI1 ⊢
  go_upto_region 1 with fail
  have hk : TrI D w (.slice (some ⟨gF, 0, none⟩) (B.length + 1) cF) (B ++ [⟨x, [s0, s1, s2, s3], kf⟩]) M k vO w1.drew := HI1.out.below (Below.refl _ _).drew
  clear HI1
  refine wp_region_held_drew (S := fun W => TrI D w (.slice (some ⟨gF, 0, none⟩) (B.length + 1) cF) (B ++ [⟨x, [s0, s1, s2, s3], kf⟩]) M k vO W) (by kernel_rfl) hk (fun _ => ?_)
  generalize w1.drew = wk at hk ⊢
  refine wpAnyH_take (i := 0) (oi := { dst := some 8, op := Op.move (Operand.tmp 0), type := 26, pos := "search.go:52", after := #[], guard := none }) (v := ?vttn11) rfl (by kernel_rfl) (by kernel_rfl) (by kernel_rfl) (fun _ _ _ h => h) (Or.inl ⟨by rfl, ?yttn11⟩) hk ?rttn11
  case yttn11 => (intro w hSw; (try dsimp only at hSw); go_simp; first | done | with_reducible rfl)
  simp only [Act.put, List.setIfInBounds_toArray, List.set_cons_zero, List.set_cons_succ]
  refine wpAnyH_take (i := 1) (oi := { dst := some 9, op := Op.nilCheck (Operand.tmp 8), type := 0, pos := "search.go:52", after := #[{ on := 0, ground := Ground.data }], guard := none }) (v := ?vttn12) rfl (by kernel_rfl) (by kernel_rfl) (by kernel_rfl) (fun _ _ _ h => h) (Or.inl ⟨by rfl, ?yttn12⟩) hk ?rttn12
  case yttn12 => (intro w hSw; (try dsimp only at hSw); go_simp; first | done | with_reducible rfl)
  simp only [Act.put, List.setIfInBounds_toArray, List.set_cons_zero, List.set_cons_succ]
  refine wpAnyH_take (i := 2) (oi := { dst := some 10, op := Op.fieldAddr 67 (Operand.tmp 9) 3, type := 0, pos := "search.go:52", after := #[{ on := 1, ground := Ground.data }], guard := none }) (v := ?vttn13) rfl (by kernel_rfl) (by kernel_rfl) (by kernel_rfl) (fun _ _ _ h => h) (Or.inl ⟨by rfl, ?yttn13⟩) hk ?rttn13
  case yttn13 => (intro w hSw; (try dsimp only at hSw); go_simp; first | done | with_reducible rfl)
  simp only [Act.put, List.setIfInBounds_toArray, List.set_cons_zero, List.set_cons_succ]
  refine wpAnyH_take (i := 3) (oi := { dst := some 11, op := Op.load 23 (Operand.tmp 10), type := 23, pos := "search.go:52", after := #[{ on := 2, ground := Ground.data }], guard := none }) (v := ?vttn14) rfl (by kernel_rfl) (by kernel_rfl) (by kernel_rfl) (fun _ _ _ h => h) (Or.inl ⟨by rfl, ?yttn14⟩) hk ?rttn14
  case yttn14 => (intro w hSw; have hcw := hSw.opc HAO.out HN.out; clear hSw; go_simp; first | done | with_reducible rfl)
  simp only [Act.put, List.setIfInBounds_toArray, List.set_cons_zero, List.set_cons_succ]
  refine wpAnyH_take (i := 4) (oi := { dst := some 12, op := Op.move (Operand.tmp 2), type := 101, pos := "search.go:52", after := #[], guard := none }) (v := ?vttn15) rfl (by kernel_rfl) (by kernel_rfl) (by kernel_rfl) (fun _ _ _ h => h) (Or.inl ⟨by rfl, ?yttn15⟩) hk ?rttn15
  case yttn15 => (intro w hSw; (try dsimp only at hSw); go_simp; first | done | with_reducible rfl)
  simp only [Act.put, List.setIfInBounds_toArray, List.set_cons_zero, List.set_cons_succ]
  refine wpAnyH_take (i := 5) (oi := { dst := some 13, op := Op.nilCheck (Operand.tmp 12), type := 0, pos := "search.go:52", after := #[{ on := 4, ground := Ground.data }], guard := none }) (v := ?vttn16) rfl (by kernel_rfl) (by kernel_rfl) (by kernel_rfl) (fun _ _ _ h => h) (Or.inl ⟨by rfl, ?yttn16⟩) hk ?rttn16
  case yttn16 => (intro w hSw; (try dsimp only at hSw); go_simp; first | done | with_reducible rfl)
  simp only [Act.put, List.setIfInBounds_toArray, List.set_cons_zero, List.set_cons_succ]
  refine wpAnyH_take (i := 6) (oi := { dst := some 14, op := Op.fieldAddr 100 (Operand.tmp 13) 1, type := 0, pos := "search.go:52", after := #[{ on := 5, ground := Ground.data }], guard := none }) (v := ?vttn17) rfl (by kernel_rfl) (by kernel_rfl) (by kernel_rfl) (fun _ _ _ h => h) (Or.inl ⟨by rfl, ?yttn17⟩) hk ?rttn17
  case yttn17 => (intro w hSw; (try dsimp only at hSw); go_simp; first | done | with_reducible rfl)
  simp only [Act.put, List.setIfInBounds_toArray, List.set_cons_zero, List.set_cons_succ]
  refine wpAnyH_take (i := 7) (oi := { dst := some 15, op := Op.load 3 (Operand.tmp 14), type := 3, pos := "search.go:52", after := #[{ on := 6, ground := Ground.data }], guard := none }) (v := ?vttn18) rfl (by kernel_rfl) (by kernel_rfl) (by kernel_rfl) (fun _ _ _ h => h) (Or.inl ⟨by rfl, ?yttn18⟩) hk ?rttn18
  case yttn18 => (intro w hSw; have hcw := (hSw.fx HL.out).2.2.2.2.2; clear hSw; go_simp; first | done | with_reducible rfl)
  simp only [Act.put, List.setIfInBounds_toArray, List.set_cons_zero, List.set_cons_succ]
  refine wpAnyH_take (i := 8) (oi := { dst := some 16, op := Op.indexAddr 23 (Operand.tmp 11) (Operand.tmp 15), type := 0, pos := "search.go:52", after := #[{ on := 3, ground := Ground.data }, { on := 7, ground := Ground.data }], guard := none }) (v := ?vttn19) rfl (by kernel_rfl) (by kernel_rfl) (by kernel_rfl) (fun _ _ _ h => h) (Or.inl ⟨by rfl, ?yttn19⟩) hk ?rttn19
  case yttn19 => (intro w hSw; (try dsimp only at hSw); go_simp; first | done | with_reducible rfl)
  simp only [Act.put, List.setIfInBounds_toArray, List.set_cons_zero, List.set_cons_succ]
  refine wpAnyH_take (i := 9) (oi := { dst := some 17, op := Op.load 35 (Operand.tmp 16), type := 35, pos := "search.go:52", after := #[{ on := 8, ground := Ground.data }], guard := none }) (v := .agg #[.int .i64 X.c, .int .i64 X.o, .int .i64 X.a, .bool X.d, .int .i64 X.r, .int .i64 X.f, .int .i64 X.t]) rfl (by kernel_rfl) (by kernel_rfl) (by kernel_rfl) (fun _ _ _ h => h) (Or.inl ⟨by rfl, ?yttn110⟩) hk ?rttn110
  case yttn110 => (intro w hSw; obtain ⟨q0, q1, q2, q3, q4, q5, q6⟩ := hSw.ops HAO.out HN.out HXE.out hkn; clear hSw; go_simp; first | done | with_reducible rfl)
  simp only [Act.put, List.setIfInBounds_toArray, List.set_cons_zero, List.set_cons_succ]
  refine wpAnyH_ready (rs := [10]) (by decide +kernel) (by simp) ?_
  refine AllReadyH.cons (o := { dst := some 3, op := Op.alloc 35, type := 0, pos := "search.go:52", after := #[], guard := none }) rfl (fun K hK => ?_) AllReadyH.nil
  rw [if_pos (by rfl)]
  refine wp_alloc_of 35 7 rfl op_zero18 ?_
  intro cs hcs
  have hz := NV.new (T := 35) (N0 := w.heap.size) (wr := wk) hk.kp.size hcs
  have hne := trivial
  have hbA : Below wk.heap.size wk (wk.alloc (.cells cs 35)) := (Below.refl _ _).alloc (Nat.le_refl _) _
  replace hk := hk.below hbA
  clear hbA hcs
  generalize hgn : wk.heap.size = g1 at hz hne ⊢
  clear hgn
  generalize wk.alloc (.cells cs 35) = wk at hz hk ⊢
  simp only [Act.put, List.setIfInBounds_toArray, List.set_cons_zero, List.set_cons_succ]
  refine hK.out _ _ hk (fun _ => ?_)
  clear hK K
  try simp only [Act.put, List.setIfInBounds_toArray, List.set_cons_zero, List.set_cons_succ]
  refine wpAnyH_ready (rs := [11]) (by decide +kernel) (by simp) ?_
  refine AllReadyH.cons (o := { dst := none, op := Op.store 35 (Operand.tmp 3) (Operand.tmp 17), type := 0, pos := "search.go:52", after := #[{ on := 10, ground := Ground.data }, { on := 9, ground := Ground.data }, { on := 0, ground := Ground.phase }, { on := 1, ground := Ground.phase }, { on := 2, ground := Ground.phase }, { on := 3, ground := Ground.phase }, { on := 4, ground := Ground.phase }, { on := 5, ground := Ground.phase }, { on := 6, ground := Ground.phase }, { on := 7, ground := Ground.phase }, { on := 8, ground := Ground.phase }, { on := 9, ground := Ground.phase }, { on := 10, ground := Ground.phase }], guard := none }) rfl (fun K hK => ?_) AllReadyH.nil
  rw [if_pos (by rfl)]
  refine wp_store_mid 35 (.tmp 3) (.tmp 17) rfl g1 0 #[.int .i64 X.c, .int .i64 X.o, .int .i64 X.a, .bool X.d, .int .i64 X.r, .int .i64 X.f, .int .i64 X.t] rfl rfl ?htttn112 op_size18 (op_one18 X) ?_
  case htttn112 => exact hz.there rfl
  have hrz := hz.put (D := #[.int .i64 X.c, .int .i64 X.o, .int .i64 X.a, .bool X.d, .int .i64 X.r, .int .i64 X.f, .int .i64 X.t]) rfl
  have hge := hz.ge
  replace hk := hk.put HDK.out hge #[.int .i64 X.c, .int .i64 X.o, .int .i64 X.a, .bool X.d, .int .i64 X.r, .int .i64 X.f, .int .i64 X.t].toList
  clear hz
  generalize wk.setCells g1 0 (#[.int .i64 X.c, .int .i64 X.o, .int .i64 X.a, .bool X.d, .int .i64 X.r, .int .i64 X.f, .int .i64 X.t] : Array Value).toList = wk at hk hrz ⊢
  simp only [Act.put]
  refine hK.out _ _ hk (fun _ => ?_)
  clear hK K
  try simp only [Act.put, List.setIfInBounds_toArray, List.set_cons_zero, List.set_cons_succ]
  refine wpAnyH_done (by decide +kernel) ?_ _
  obtain ⟨w2, hw2⟩ : ∃ w2, w2 = wk := ⟨_, rfl⟩
  subst hw2
  have HG1 := Bx.mk hge
  have c8 := hk.tm.cells.2.2.2.2.2.2.2.2.1
  have f8 := hk.tm.froz 8
  have HI3 : Bx (TrI D w (.slice (some ⟨gF, 0, none⟩) (B.length + 1) cF) (B ++ [⟨x, [s0, s1, s2, s3], kf⟩]) M (k + 1) vO (w2.setCell ⟨D.g, 8, none⟩ (.int .i64 ((k : Int) + 1)))) := ⟨⟨hk.tm.try1 HDK.out, hk.kp.setCell (g := D.g) (.inl (.inl rfl)) _ _, HLO.out⟩⟩
  have HR1 : Bx ((w2.setCell ⟨D.g, 8, none⟩ (.int .i64 ((k : Int) + 1))).heap[g1]? = some (.cells #[.int .i64 X.c, .int .i64 X.o, .int .i64 X.a, .bool X.d, .int .i64 X.r, .int .i64 X.f, .int .i64 X.t] 35 (0, 0))) := ⟨(heap_setCell_other w2 ⟨D.g, 8, none⟩ g1 _ (by have := HLO.out.1; have := HG1.out; show g1 ≠ D.g; omega)).trans hrz⟩
  clear hk hrz hge hne
  go_upto_region 3 with fail
  generalize w2.setCell ⟨D.g, 8, none⟩ (.int .i64 ((k : Int) + 1)) = w3 at HI3 HR1 ⊢
  clear c8 f8
  go_cut [4] from 25 to 42 (fun s4 wx => ∃ g2, s4 = .pointer (some ⟨g2, 0, none⟩) ∧ Bx (w.heap.size ≤ g2 ∧ g1 ≠ g2 ∧ wx.heap[g2]? = some (.cells #[.int .i64 kS, .int .i64 t0, .int .i64 t1, .int .i64 t2, .int .i64 t3, .int .i64 rt, .int .i64 us] 109 (0, 0)) ∧ wx.heap[g1]? = some (.cells #[.int .i64 X.c, .int .i64 X.o, .int .i64 X.a, .bool X.d, .int .i64 X.r, .int .i64 X.f, .int .i64 X.t] 35 (0, 0)) ∧ TrI D w (.slice (some ⟨gF, 0, none⟩) (B.length + 1) cF) (B ++ [⟨x, [s0, s1, s2, s3], kf⟩]) M (k + 1) vO wx))
  case first =>
    have hk : TrI D w (.slice (some ⟨gF, 0, none⟩) (B.length + 1) cF) (B ++ [⟨x, [s0, s1, s2, s3], kf⟩]) M (k + 1) vO w3.drew ∧ w3.drew.heap[g1]? = some (.cells #[.int .i64 X.c, .int .i64 X.o, .int .i64 X.a, .bool X.d, .int .i64 X.r, .int .i64 X.f, .int .i64 X.t] 35 (0, 0)) := ⟨HI3.out.below (Below.refl _ _).drew, HR1.out⟩
    clear HI3 HR1
    refine wp_region_held_drew (S := fun W => TrI D w (.slice (some ⟨gF, 0, none⟩) (B.length + 1) cF) (B ++ [⟨x, [s0, s1, s2, s3], kf⟩]) M (k + 1) vO W ∧ W.heap[g1]? = some (.cells #[.int .i64 X.c, .int .i64 X.o, .int .i64 X.a, .bool X.d, .int .i64 X.r, .int .i64 X.f, .int .i64 X.t] 35 (0, 0))) (by kernel_rfl) hk (fun _ => ?_)
    generalize w3.drew = wk at hk ⊢
    refine wpAnyH_take (i := 0) (oi := { dst := some 25, op := Op.move (Operand.tmp 0), type := 26, pos := "search.go:54", after := #[], guard := none }) (v := ?vttn31) rfl (by kernel_rfl) (by kernel_rfl) (by kernel_rfl) (fun _ _ _ h => h) (Or.inl ⟨by rfl, ?yttn31⟩) hk ?rttn31
    case yttn31 => (intro w hSw; (try dsimp only at hSw); go_simp; first | done | with_reducible rfl)
    simp only [Act.put, List.setIfInBounds_toArray, List.set_cons_zero, List.set_cons_succ]
    refine wpAnyH_take (i := 1) (oi := { dst := some 26, op := Op.nilCheck (Operand.tmp 25), type := 0, pos := "search.go:54", after := #[{ on := 0, ground := Ground.data }], guard := none }) (v := ?vttn32) rfl (by kernel_rfl) (by kernel_rfl) (by kernel_rfl) (fun _ _ _ h => h) (Or.inl ⟨by rfl, ?yttn32⟩) hk ?rttn32
    case yttn32 => (intro w hSw; (try dsimp only at hSw); go_simp; first | done | with_reducible rfl)
    simp only [Act.put, List.setIfInBounds_toArray, List.set_cons_zero, List.set_cons_succ]
    refine wpAnyH_take (i := 2) (oi := { dst := some 27, op := Op.fieldAddr 67 (Operand.tmp 26) 0, type := 0, pos := "search.go:54", after := #[{ on := 1, ground := Ground.data }], guard := none }) (v := ?vttn33) rfl (by kernel_rfl) (by kernel_rfl) (by kernel_rfl) (fun _ _ _ h => h) (Or.inl ⟨by rfl, ?yttn33⟩) hk ?rttn33
    case yttn33 => (intro w hSw; (try dsimp only at hSw); go_simp; first | done | with_reducible rfl)
    simp only [Act.put, List.setIfInBounds_toArray, List.set_cons_zero, List.set_cons_succ]
    refine wpAnyH_take (i := 3) (oi := { dst := some 28, op := Op.load 53 (Operand.tmp 27), type := 53, pos := "search.go:54", after := #[{ on := 2, ground := Ground.data }], guard := none }) (v := ?vttn34) rfl (by kernel_rfl) (by kernel_rfl) (by kernel_rfl) (fun _ _ _ h => h) (Or.inl ⟨by rfl, ?yttn34⟩) hk ?rttn34
    case yttn34 => (intro w hSw; have hcw := hSw.1.tm.cells.1; clear hSw; go_simp; first | done | with_reducible rfl)
    simp only [Act.put, List.setIfInBounds_toArray, List.set_cons_zero, List.set_cons_succ]
    refine wpAnyH_take (i := 4) (oi := { dst := some 29, op := Op.move (Operand.tmp 2), type := 101, pos := "search.go:54", after := #[], guard := none }) (v := ?vttn35) rfl (by kernel_rfl) (by kernel_rfl) (by kernel_rfl) (fun _ _ _ h => h) (Or.inl ⟨by rfl, ?yttn35⟩) hk ?rttn35
    case yttn35 => (intro w hSw; (try dsimp only at hSw); go_simp; first | done | with_reducible rfl)
    simp only [Act.put, List.setIfInBounds_toArray, List.set_cons_zero, List.set_cons_succ]
    refine wpAnyH_take (i := 5) (oi := { dst := some 30, op := Op.nilCheck (Operand.tmp 29), type := 0, pos := "search.go:54", after := #[{ on := 4, ground := Ground.data }], guard := none }) (v := ?vttn36) rfl (by kernel_rfl) (by kernel_rfl) (by kernel_rfl) (fun _ _ _ h => h) (Or.inl ⟨by rfl, ?yttn36⟩) hk ?rttn36
    case yttn36 => (intro w hSw; (try dsimp only at hSw); go_simp; first | done | with_reducible rfl)
    simp only [Act.put, List.setIfInBounds_toArray, List.set_cons_zero, List.set_cons_succ]
    refine wpAnyH_take (i := 6) (oi := { dst := some 31, op := Op.fieldAddr 100 (Operand.tmp 30) 0, type := 0, pos := "search.go:54", after := #[{ on := 5, ground := Ground.data }], guard := none }) (v := ?vttn37) rfl (by kernel_rfl) (by kernel_rfl) (by kernel_rfl) (fun _ _ _ h => h) (Or.inl ⟨by rfl, ?yttn37⟩) hk ?rttn37
    case yttn37 => (intro w hSw; (try dsimp only at hSw); go_simp; first | done | with_reducible rfl)
    simp only [Act.put, List.setIfInBounds_toArray, List.set_cons_zero, List.set_cons_succ]
    refine wpAnyH_take (i := 7) (oi := { dst := some 32, op := Op.fieldAddr 72 (Operand.tmp 31) 1, type := 0, pos := "search.go:54", after := #[{ on := 6, ground := Ground.data }], guard := none }) (v := ?vttn38) rfl (by kernel_rfl) (by kernel_rfl) (by kernel_rfl) (fun _ _ _ h => h) (Or.inl ⟨by rfl, ?yttn38⟩) hk ?rttn38
    case yttn38 => (intro w hSw; (try dsimp only at hSw); go_simp; first | done | with_reducible rfl)
    simp only [Act.put, List.setIfInBounds_toArray, List.set_cons_zero, List.set_cons_succ]
    refine wpAnyH_take (i := 8) (oi := { dst := some 33, op := Op.load 70 (Operand.tmp 32), type := 70, pos := "search.go:54", after := #[{ on := 7, ground := Ground.data }], guard := none }) (v := .agg #[.int .i64 s0, .int .i64 s1, .int .i64 s2, .int .i64 s3]) rfl (by kernel_rfl) (by kernel_rfl) (by kernel_rfl) (fun _ _ _ h => h) (Or.inl ⟨by rfl, ?yttn39⟩) hk ?rttn39
    case yttn39 => (intro w hSw; obtain ⟨_, q0, q1, q2, q3, _⟩ := hSw.1.fx HL.out; clear hSw; go_simp; first | done | with_reducible rfl)
    simp only [Act.put, List.setIfInBounds_toArray, List.set_cons_zero, List.set_cons_succ]
    refine wpAnyH_take (i := 9) (oi := { dst := some 34, op := Op.fieldAddr 35 (Operand.tmp 3) 1, type := 0, pos := "search.go:54", after := #[], guard := none }) (v := ?vttn310) rfl (by kernel_rfl) (by kernel_rfl) (by kernel_rfl) (fun _ _ _ h => h) (Or.inl ⟨by rfl, ?yttn310⟩) hk ?rttn310
    case yttn310 => (intro w hSw; (try dsimp only at hSw); go_simp; first | done | with_reducible rfl)
    simp only [Act.put, List.setIfInBounds_toArray, List.set_cons_zero, List.set_cons_succ]
    refine wpAnyH_take (i := 10) (oi := { dst := some 35, op := Op.load 3 (Operand.tmp 34), type := 3, pos := "search.go:54", after := #[{ on := 9, ground := Ground.data }], guard := none }) (v := ?vttn311) rfl (by kernel_rfl) (by kernel_rfl) (by kernel_rfl) (fun _ _ _ h => h) (Or.inl ⟨by rfl, ?yttn311⟩) hk ?rttn311
    case yttn311 => (intro w hSw; have hcw := cell_of_row _ g1 1 _ _ (0, 0) hSw.2; clear hSw; go_simp; first | done | with_reducible rfl)
    simp only [Act.put, List.setIfInBounds_toArray, List.set_cons_zero, List.set_cons_succ]
    refine wpAnyH_take (i := 11) (oi := { dst := some 36, op := Op.fieldAddr 35 (Operand.tmp 3) 2, type := 0, pos := "search.go:54", after := #[], guard := none }) (v := ?vttn312) rfl (by kernel_rfl) (by kernel_rfl) (by kernel_rfl) (fun _ _ _ h => h) (Or.inl ⟨by rfl, ?yttn312⟩) hk ?rttn312
    case yttn312 => (intro w hSw; (try dsimp only at hSw); go_simp; first | done | with_reducible rfl)
    simp only [Act.put, List.setIfInBounds_toArray, List.set_cons_zero, List.set_cons_succ]
    refine wpAnyH_take (i := 12) (oi := { dst := some 37, op := Op.load 2 (Operand.tmp 36), type := 2, pos := "search.go:54", after := #[{ on := 11, ground := Ground.data }], guard := none }) (v := ?vttn313) rfl (by kernel_rfl) (by kernel_rfl) (by kernel_rfl) (fun _ _ _ h => h) (Or.inl ⟨by rfl, ?yttn313⟩) hk ?rttn313
    case yttn313 => (intro w hSw; have hcw := cell_of_row _ g1 2 _ _ (0, 0) hSw.2; clear hSw; go_simp; first | done | with_reducible rfl)
    simp only [Act.put, List.setIfInBounds_toArray, List.set_cons_zero, List.set_cons_succ]
    refine wpAnyH_take (i := 13) (oi := { dst := some 38, op := Op.move (Operand.tmp 0), type := 26, pos := "search.go:54", after := #[], guard := none }) (v := ?vttn314) rfl (by kernel_rfl) (by kernel_rfl) (by kernel_rfl) (fun _ _ _ h => h) (Or.inl ⟨by rfl, ?yttn314⟩) hk ?rttn314
    case yttn314 => (intro w hSw; (try dsimp only at hSw); go_simp; first | done | with_reducible rfl)
    simp only [Act.put, List.setIfInBounds_toArray, List.set_cons_zero, List.set_cons_succ]
    refine wpAnyH_take (i := 14) (oi := { dst := some 39, op := Op.nilCheck (Operand.tmp 38), type := 0, pos := "search.go:54", after := #[{ on := 13, ground := Ground.data }], guard := none }) (v := ?vttn315) rfl (by kernel_rfl) (by kernel_rfl) (by kernel_rfl) (fun _ _ _ h => h) (Or.inl ⟨by rfl, ?yttn315⟩) hk ?rttn315
    case yttn315 => (intro w hSw; (try dsimp only at hSw); go_simp; first | done | with_reducible rfl)
    simp only [Act.put, List.setIfInBounds_toArray, List.set_cons_zero, List.set_cons_succ]
    refine wpAnyH_take (i := 15) (oi := { dst := some 40, op := Op.fieldAddr 67 (Operand.tmp 39) 1, type := 0, pos := "search.go:54", after := #[{ on := 14, ground := Ground.data }], guard := none }) (v := ?vttn316) rfl (by kernel_rfl) (by kernel_rfl) (by kernel_rfl) (fun _ _ _ h => h) (Or.inl ⟨by rfl, ?yttn316⟩) hk ?rttn316
    case yttn316 => (intro w hSw; (try dsimp only at hSw); go_simp; first | done | with_reducible rfl)
    simp only [Act.put, List.setIfInBounds_toArray, List.set_cons_zero, List.set_cons_succ]
    refine wpAnyH_take (i := 16) (oi := { dst := some 41, op := Op.load 3 (Operand.tmp 40), type := 3, pos := "search.go:54", after := #[{ on := 15, ground := Ground.data }], guard := none }) (v := ?vttn317) rfl (by kernel_rfl) (by kernel_rfl) (by kernel_rfl) (fun _ _ _ h => h) (Or.inl ⟨by rfl, ?yttn317⟩) hk ?rttn317
    case yttn317 => (intro w hSw; have hcw := hSw.1.tm.cells.2.1; clear hSw; go_simp; first | done | with_reducible rfl)
    simp only [Act.put, List.setIfInBounds_toArray, List.set_cons_zero, List.set_cons_succ]
    refine wpAnyH_ready (rs := [17, 18]) (by decide +kernel) (by simp) ?_
    refine (AllReadyH.cons (o := { dst := some 42, op := Op.call { callee := Callee.value (Operand.func 59), args := #[Operand.tmp 28, Operand.tmp 33, Operand.tmp 35, Operand.tmp 37, Operand.tmp 41], argTypes := #[53, 70, 3, 2, 3] }, type := 109, pos := "search.go:54", after := #[{ on := 3, ground := Ground.data }, { on := 8, ground := Ground.data }, { on := 10, ground := Ground.data }, { on := 12, ground := Ground.data }, { on := 16, ground := Ground.data }], guard := none }) rfl (fun K hK => ?_) (AllReadyH.cons (o := { dst := some 4, op := Op.alloc 109, type := 0, pos := "search.go:54", after := #[], guard := none }) rfl (fun K hK => ?_) AllReadyH.nil))
    · go_simp
      refine (step_any D.gm D.gc D.cc D.l s0 s1 s2 s3 X.o X.a D.fu _ hk.1.tm.mc HDK.out.lk HSV.out HXV.out.1 HXV.out.2 HFV.out).mono ?_
      rintro e1 wk ⟨rfl, hb1⟩
      rw [HST.out, stC_form]
      replace hk := And.intro (hk.1.below hb1) (up_row _ _ hk.2 hb1)
      try replace hz := hz.step hb1
      clear hb1
      refine hK.out _ _ hk (fun _ => ?_)
      clear hK K
      try simp only [Act.put, List.setIfInBounds_toArray, List.set_cons_zero, List.set_cons_succ]
      refine wpAnyH_ready (rs := [18]) (by decide +kernel) (by simp) ?_
      refine AllReadyH.cons (o := { dst := some 4, op := Op.alloc 109, type := 0, pos := "search.go:54", after := #[], guard := none }) rfl (fun K hK => ?_) AllReadyH.nil
      rw [if_pos (by rfl)]
      refine wp_alloc_of 109 7 rfl st_zero ?_
      intro cs hcs
      have hz := NV.new (T := 109) (N0 := w.heap.size) (wr := wk) hk.1.kp.size hcs
      have hne := Nat.ne_of_lt (Array.getElem?_eq_some_iff.1 hk.2).1
      have hbA : Below wk.heap.size wk (wk.alloc (.cells cs 109)) := (Below.refl _ _).alloc (Nat.le_refl _) _
      replace hk := And.intro (hk.1.below hbA) (up_row _ _ hk.2 hbA)
      clear hbA hcs
      generalize hgn : wk.heap.size = g2 at hz hne ⊢
      clear hgn
      generalize wk.alloc (.cells cs 109) = wk at hz hk ⊢
      simp only [Act.put, List.setIfInBounds_toArray, List.set_cons_zero, List.set_cons_succ]
      refine hK.out _ _ hk (fun _ => ?_)
      clear hK K
      try simp only [Act.put, List.setIfInBounds_toArray, List.set_cons_zero, List.set_cons_succ]
      refine wpAnyH_ready (rs := [19]) (by decide +kernel) (by simp) ?_
      refine AllReadyH.cons (o := { dst := none, op := Op.store 109 (Operand.tmp 4) (Operand.tmp 42), type := 0, pos := "search.go:54", after := #[{ on := 18, ground := Ground.data }, { on := 17, ground := Ground.data }, { on := 17, ground := Ground.chain }, { on := 0, ground := Ground.phase }, { on := 1, ground := Ground.phase }, { on := 2, ground := Ground.phase }, { on := 3, ground := Ground.phase }, { on := 4, ground := Ground.phase }, { on := 5, ground := Ground.phase }, { on := 6, ground := Ground.phase }, { on := 7, ground := Ground.phase }, { on := 8, ground := Ground.phase }, { on := 9, ground := Ground.phase }, { on := 10, ground := Ground.phase }, { on := 11, ground := Ground.phase }, { on := 12, ground := Ground.phase }, { on := 13, ground := Ground.phase }, { on := 14, ground := Ground.phase }, { on := 15, ground := Ground.phase }, { on := 16, ground := Ground.phase }, { on := 17, ground := Ground.phase }, { on := 18, ground := Ground.phase }], guard := none }) rfl (fun K hK => ?_) AllReadyH.nil
      rw [if_pos (by rfl)]
      refine wp_store_mid 109 (.tmp 4) (.tmp 42) rfl g2 0 #[.int .i64 kS, .int .i64 t0, .int .i64 t1, .int .i64 t2, .int .i64 t3, .int .i64 rt, .int .i64 us] rfl rfl ?htttn319 st_info (st_one kS t0 t1 t2 t3 rt us) ?_
      case htttn319 => exact hz.there rfl
      have hrz := hz.put (D := #[.int .i64 kS, .int .i64 t0, .int .i64 t1, .int .i64 t2, .int .i64 t3, .int .i64 rt, .int .i64 us]) rfl
      have hge := hz.ge
      replace hk := And.intro (hk.1.put HDK.out hge #[.int .i64 kS, .int .i64 t0, .int .i64 t1, .int .i64 t2, .int .i64 t3, .int .i64 rt, .int .i64 us].toList) (nv_but hk.2 hne #[.int .i64 kS, .int .i64 t0, .int .i64 t1, .int .i64 t2, .int .i64 t3, .int .i64 rt, .int .i64 us].toList)
      clear hz
      generalize wk.setCells g2 0 (#[.int .i64 kS, .int .i64 t0, .int .i64 t1, .int .i64 t2, .int .i64 t3, .int .i64 rt, .int .i64 us] : Array Value).toList = wk at hk hrz ⊢
      simp only [Act.put]
      refine hK.out _ _ hk (fun _ => ?_)
      clear hK K
      try simp only [Act.put, List.setIfInBounds_toArray, List.set_cons_zero, List.set_cons_succ]
      refine wpAnyH_done (by decide +kernel) ?_ _
      go_wp2_with fail
      go_meet
      case rel => exact ⟨g2, rfl, ⟨hge, hne, hrz, hk.2, hk.1⟩⟩
    · rw [if_pos (by rfl)]
      refine wp_alloc_of 109 7 rfl st_zero ?_
      intro cs hcs
      have hz := NV.new (T := 109) (N0 := w.heap.size) (wr := wk) hk.1.kp.size hcs
      have hne := Nat.ne_of_lt (Array.getElem?_eq_some_iff.1 hk.2).1
      have hbA : Below wk.heap.size wk (wk.alloc (.cells cs 109)) := (Below.refl _ _).alloc (Nat.le_refl _) _
      replace hk := And.intro (hk.1.below hbA) (up_row _ _ hk.2 hbA)
      clear hbA hcs
      generalize hgn : wk.heap.size = g2 at hz hne ⊢
      clear hgn
      generalize wk.alloc (.cells cs 109) = wk at hz hk ⊢
      simp only [Act.put, List.setIfInBounds_toArray, List.set_cons_zero, List.set_cons_succ]
      refine hK.out _ _ hk (fun _ => ?_)
      clear hK K
      try simp only [Act.put, List.setIfInBounds_toArray, List.set_cons_zero, List.set_cons_succ]
      refine wpAnyH_ready (rs := [17]) (by decide +kernel) (by simp) ?_
      refine AllReadyH.cons (o := { dst := some 42, op := Op.call { callee := Callee.value (Operand.func 59), args := #[Operand.tmp 28, Operand.tmp 33, Operand.tmp 35, Operand.tmp 37, Operand.tmp 41], argTypes := #[53, 70, 3, 2, 3] }, type := 109, pos := "search.go:54", after := #[{ on := 3, ground := Ground.data }, { on := 8, ground := Ground.data }, { on := 10, ground := Ground.data }, { on := 12, ground := Ground.data }, { on := 16, ground := Ground.data }], guard := none }) rfl (fun K hK => ?_) AllReadyH.nil
      go_simp
      refine (step_any D.gm D.gc D.cc D.l s0 s1 s2 s3 X.o X.a D.fu _ hk.1.tm.mc HDK.out.lk HSV.out HXV.out.1 HXV.out.2 HFV.out).mono ?_
      rintro e1 wk ⟨rfl, hb1⟩
      rw [HST.out, stC_form]
      replace hk := And.intro (hk.1.below hb1) (up_row _ _ hk.2 hb1)
      try replace hz := hz.step hb1
      clear hb1
      refine hK.out _ _ hk (fun _ => ?_)
      clear hK K
      try simp only [Act.put, List.setIfInBounds_toArray, List.set_cons_zero, List.set_cons_succ]
      refine wpAnyH_ready (rs := [19]) (by decide +kernel) (by simp) ?_
      refine AllReadyH.cons (o := { dst := none, op := Op.store 109 (Operand.tmp 4) (Operand.tmp 42), type := 0, pos := "search.go:54", after := #[{ on := 18, ground := Ground.data }, { on := 17, ground := Ground.data }, { on := 17, ground := Ground.chain }, { on := 0, ground := Ground.phase }, { on := 1, ground := Ground.phase }, { on := 2, ground := Ground.phase }, { on := 3, ground := Ground.phase }, { on := 4, ground := Ground.phase }, { on := 5, ground := Ground.phase }, { on := 6, ground := Ground.phase }, { on := 7, ground := Ground.phase }, { on := 8, ground := Ground.phase }, { on := 9, ground := Ground.phase }, { on := 10, ground := Ground.phase }, { on := 11, ground := Ground.phase }, { on := 12, ground := Ground.phase }, { on := 13, ground := Ground.phase }, { on := 14, ground := Ground.phase }, { on := 15, ground := Ground.phase }, { on := 16, ground := Ground.phase }, { on := 17, ground := Ground.phase }, { on := 18, ground := Ground.phase }], guard := none }) rfl (fun K hK => ?_) AllReadyH.nil
      rw [if_pos (by rfl)]
      refine wp_store_mid 109 (.tmp 4) (.tmp 42) rfl g2 0 #[.int .i64 kS, .int .i64 t0, .int .i64 t1, .int .i64 t2, .int .i64 t3, .int .i64 rt, .int .i64 us] rfl rfl ?htttn321 st_info (st_one kS t0 t1 t2 t3 rt us) ?_
      case htttn321 => exact hz.there rfl
      have hrz := hz.put (D := #[.int .i64 kS, .int .i64 t0, .int .i64 t1, .int .i64 t2, .int .i64 t3, .int .i64 rt, .int .i64 us]) rfl
      have hge := hz.ge
      replace hk := And.intro (hk.1.put HDK.out hge #[.int .i64 kS, .int .i64 t0, .int .i64 t1, .int .i64 t2, .int .i64 t3, .int .i64 rt, .int .i64 us].toList) (nv_but hk.2 hne #[.int .i64 kS, .int .i64 t0, .int .i64 t1, .int .i64 t2, .int .i64 t3, .int .i64 rt, .int .i64 us].toList)
      clear hz
      generalize wk.setCells g2 0 (#[.int .i64 kS, .int .i64 t0, .int .i64 t1, .int .i64 t2, .int .i64 t3, .int .i64 rt, .int .i64 us] : Array Value).toList = wk at hk hrz ⊢
      simp only [Act.put]
      refine hK.out _ _ hk (fun _ => ?_)
      clear hK K
      try simp only [Act.put, List.setIfInBounds_toArray, List.set_cons_zero, List.set_cons_succ]
      refine wpAnyH_done (by decide +kernel) ?_ _
      go_wp2_with fail
      go_meet
      case rel => exact ⟨g2, rfl, ⟨hge, hne, hrz, hk.2, hk.1⟩⟩
  case rest =>
    obtain ⟨g2, rfl, HC4⟩ := hcut
    obtain ⟨w4, hw4⟩ : ∃ w4, w4 = wc := ⟨_, rfl⟩
    subst hw4
    clear HI3 HR1
    have HI4 := Bx.mk HC4.out.2.2.2.2
    have y0 := cell_of_row _ g2 0 _ _ (0, 0) HC4.out.2.2.1
    by_cases hK3 : kS = 3
    · subst hK3
      have HFU := Bx.mk (HRUN.out.fuel (tr_fuel HXE.out HST.out rfl))
      go_wp2_with fail
      refine (end_not HI4.out.tm HDK.out 3 (by decide)).mono ?_
      rintro e w7 ⟨rfl, ht7, hk7⟩
      have HT7 := Bx.mk ht7
      have HK7 := Bx.mk (kept_on HI4.out.kp hk7 (At3.refl _ _))
      clear ht7 hk7 y0
      go_wp2_with fail
      refine bodyPost_ret (results_none rfl _ _ _) rfl ?_
      exact ⟨.slice none 0 0, rfl, ⟨_, _, _, _, _, ta_of HDK.out HTK.out ⟨HT7.out, .inr ⟨rfl, .inl ⟨by show (st1 _ _).ov ≠ 0; rw [HFU.out.1]; decide, by show _ = ((st1 _ _).ov : Int); rw [HFU.out.1]; rfl, HFU.out.2.symm⟩⟩⟩⟩, HK7.out, at_none _ _⟩
    · have hq3 : (kS == 3) = false := beq_false_of_ne hK3
      have HK3 := Bx.mk hK3
      clear hK3
      have HKF : Bx (kf < 64) := ⟨by omega⟩
      have HX64 := Bx.mk (low64 HDK.out.n64 HOK.out.pf.lt)
      obtain ⟨x2, HX2⟩ : ∃ x2 : Nat, Bx (x ||| 2 ^ kf = x2) := ⟨_, ⟨rfl⟩⟩
      have HQ2 : Bx (PsK D.n (x2, [t0, t1, t2, t3])) := ⟨⟨by rw [← HX2.out]; exact bs_lt HOK.out.pf.lt (by rw [HN.out]; exact hkn), rfl, HTV.out⟩⟩
      go_upto_region 6 with fail
      go_cut [5] from 48 to 60 (fun s5 wx => ∃ g3, s5 = .pointer (some ⟨g3, 0, none⟩) ∧ Bx (w.heap.size ≤ g3 ∧ wx.heap[g3]? = some (.cells #[.int .u64 (x2 : Nat), .int .i64 t0, .int .i64 t1, .int .i64 t2, .int .i64 t3] 72 (0, 0)) ∧ wx.heap[g2]? = some (.cells #[.int .i64 kS, .int .i64 t0, .int .i64 t1, .int .i64 t2, .int .i64 t3, .int .i64 rt, .int .i64 us] 109 (0, 0)) ∧ wx.heap[g1]? = some (.cells #[.int .i64 X.c, .int .i64 X.o, .int .i64 X.a, .bool X.d, .int .i64 X.r, .int .i64 X.f, .int .i64 X.t] 35 (0, 0)) ∧ TrI D w (.slice (some ⟨gF, 0, none⟩) (B.length + 1) cF) (B ++ [⟨x, [s0, s1, s2, s3], kf⟩]) M (k + 1) vO wx))
      case first =>
        have hk : (TrI D w (.slice (some ⟨gF, 0, none⟩) (B.length + 1) cF) (B ++ [⟨x, [s0, s1, s2, s3], kf⟩]) M (k + 1) vO w4.drew ∧ w4.drew.heap[g1]? = some (.cells #[.int .i64 X.c, .int .i64 X.o, .int .i64 X.a, .bool X.d, .int .i64 X.r, .int .i64 X.f, .int .i64 X.t] 35 (0, 0))) ∧ w4.drew.heap[g2]? = some (.cells #[.int .i64 kS, .int .i64 t0, .int .i64 t1, .int .i64 t2, .int .i64 t3, .int .i64 rt, .int .i64 us] 109 (0, 0)) := ⟨⟨HI4.out.below (Below.refl _ _).drew, HC4.out.2.2.2.1⟩, HC4.out.2.2.1⟩
        clear HI4 HC4 y0
        refine wp_region_held_drew (S := fun W => (TrI D w (.slice (some ⟨gF, 0, none⟩) (B.length + 1) cF) (B ++ [⟨x, [s0, s1, s2, s3], kf⟩]) M (k + 1) vO W ∧ W.heap[g1]? = some (.cells #[.int .i64 X.c, .int .i64 X.o, .int .i64 X.a, .bool X.d, .int .i64 X.r, .int .i64 X.f, .int .i64 X.t] 35 (0, 0))) ∧ W.heap[g2]? = some (.cells #[.int .i64 kS, .int .i64 t0, .int .i64 t1, .int .i64 t2, .int .i64 t3, .int .i64 rt, .int .i64 us] 109 (0, 0))) (by kernel_rfl) hk (fun _ => ?_)
        generalize w4.drew = wk at hk ⊢
        refine wpAnyH_take (i := 0) (oi := { dst := some 48, op := Op.move (Operand.tmp 2), type := 101, pos := "search.go:59", after := #[], guard := none }) (v := ?vttn61) rfl (by kernel_rfl) (by kernel_rfl) (by kernel_rfl) (fun _ _ _ h => h) (Or.inl ⟨by rfl, ?yttn61⟩) hk ?rttn61
        case yttn61 => (intro w hSw; (try dsimp only at hSw); go_simp; first | done | with_reducible rfl)
        simp only [Act.put, List.setIfInBounds_toArray, List.set_cons_zero, List.set_cons_succ]
        refine wpAnyH_take (i := 1) (oi := { dst := some 49, op := Op.nilCheck (Operand.tmp 48), type := 0, pos := "search.go:59", after := #[{ on := 0, ground := Ground.data }], guard := none }) (v := ?vttn62) rfl (by kernel_rfl) (by kernel_rfl) (by kernel_rfl) (fun _ _ _ h => h) (Or.inl ⟨by rfl, ?yttn62⟩) hk ?rttn62
        case yttn62 => (intro w hSw; (try dsimp only at hSw); go_simp; first | done | with_reducible rfl)
        simp only [Act.put, List.setIfInBounds_toArray, List.set_cons_zero, List.set_cons_succ]
        refine wpAnyH_take (i := 2) (oi := { dst := some 50, op := Op.fieldAddr 100 (Operand.tmp 49) 0, type := 0, pos := "search.go:59", after := #[{ on := 1, ground := Ground.data }], guard := none }) (v := ?vttn63) rfl (by kernel_rfl) (by kernel_rfl) (by kernel_rfl) (fun _ _ _ h => h) (Or.inl ⟨by rfl, ?yttn63⟩) hk ?rttn63
        case yttn63 => (intro w hSw; (try dsimp only at hSw); go_simp; first | done | with_reducible rfl)
        simp only [Act.put, List.setIfInBounds_toArray, List.set_cons_zero, List.set_cons_succ]
        refine wpAnyH_take (i := 3) (oi := { dst := some 51, op := Op.fieldAddr 72 (Operand.tmp 50) 0, type := 0, pos := "search.go:59", after := #[{ on := 2, ground := Ground.data }], guard := none }) (v := ?vttn64) rfl (by kernel_rfl) (by kernel_rfl) (by kernel_rfl) (fun _ _ _ h => h) (Or.inl ⟨by rfl, ?yttn64⟩) hk ?rttn64
        case yttn64 => (intro w hSw; (try dsimp only at hSw); go_simp; first | done | with_reducible rfl)
        simp only [Act.put, List.setIfInBounds_toArray, List.set_cons_zero, List.set_cons_succ]
        refine wpAnyH_take (i := 4) (oi := { dst := some 52, op := Op.load 60 (Operand.tmp 51), type := 60, pos := "search.go:59", after := #[{ on := 3, ground := Ground.data }], guard := none }) (v := ?vttn65) rfl (by kernel_rfl) (by kernel_rfl) (by kernel_rfl) (fun _ _ _ h => h) (Or.inl ⟨by rfl, ?yttn65⟩) hk ?rttn65
        case yttn65 => (intro w hSw; have hcw := (hSw.1.1.fx HL.out).1; clear hSw; go_simp; first | done | with_reducible rfl)
        simp only [Act.put, List.setIfInBounds_toArray, List.set_cons_zero, List.set_cons_succ]
        refine wpAnyH_take (i := 5) (oi := { dst := some 53, op := Op.move (Operand.tmp 2), type := 101, pos := "search.go:59", after := #[], guard := none }) (v := ?vttn66) rfl (by kernel_rfl) (by kernel_rfl) (by kernel_rfl) (fun _ _ _ h => h) (Or.inl ⟨by rfl, ?yttn66⟩) hk ?rttn66
        case yttn66 => (intro w hSw; (try dsimp only at hSw); go_simp; first | done | with_reducible rfl)
        simp only [Act.put, List.setIfInBounds_toArray, List.set_cons_zero, List.set_cons_succ]
        refine wpAnyH_take (i := 6) (oi := { dst := some 54, op := Op.nilCheck (Operand.tmp 53), type := 0, pos := "search.go:59", after := #[{ on := 5, ground := Ground.data }], guard := none }) (v := ?vttn67) rfl (by kernel_rfl) (by kernel_rfl) (by kernel_rfl) (fun _ _ _ h => h) (Or.inl ⟨by rfl, ?yttn67⟩) hk ?rttn67
        case yttn67 => (intro w hSw; (try dsimp only at hSw); go_simp; first | done | with_reducible rfl)
        simp only [Act.put, List.setIfInBounds_toArray, List.set_cons_zero, List.set_cons_succ]
        refine wpAnyH_take (i := 7) (oi := { dst := some 55, op := Op.fieldAddr 100 (Operand.tmp 54) 1, type := 0, pos := "search.go:59", after := #[{ on := 6, ground := Ground.data }], guard := none }) (v := ?vttn68) rfl (by kernel_rfl) (by kernel_rfl) (by kernel_rfl) (fun _ _ _ h => h) (Or.inl ⟨by rfl, ?yttn68⟩) hk ?rttn68
        case yttn68 => (intro w hSw; (try dsimp only at hSw); go_simp; first | done | with_reducible rfl)
        simp only [Act.put, List.setIfInBounds_toArray, List.set_cons_zero, List.set_cons_succ]
        refine wpAnyH_take (i := 8) (oi := { dst := some 56, op := Op.load 3 (Operand.tmp 55), type := 3, pos := "search.go:59", after := #[{ on := 7, ground := Ground.data }], guard := none }) (v := ?vttn69) rfl (by kernel_rfl) (by kernel_rfl) (by kernel_rfl) (fun _ _ _ h => h) (Or.inl ⟨by rfl, ?yttn69⟩) hk ?rttn69
        case yttn69 => (intro w hSw; have hcw := (hSw.1.1.fx HL.out).2.2.2.2.2; clear hSw; go_simp; first | done | with_reducible rfl)
        simp only [Act.put, List.setIfInBounds_toArray, List.set_cons_zero, List.set_cons_succ]
        refine wpAnyH_take (i := 10) (oi := { dst := some 58, op := Op.fieldAddr 109 (Operand.tmp 4) 1, type := 0, pos := "search.go:59", after := #[], guard := none }) (v := ?vttn610) rfl (by kernel_rfl) (by kernel_rfl) (by kernel_rfl) (fun _ _ _ h => h) (Or.inl ⟨by rfl, ?yttn610⟩) hk ?rttn610
        case yttn610 => (intro w hSw; (try dsimp only at hSw); go_simp; first | done | with_reducible rfl)
        simp only [Act.put, List.setIfInBounds_toArray, List.set_cons_zero, List.set_cons_succ]
        refine wpAnyH_take (i := 11) (oi := { dst := some 59, op := Op.load 70 (Operand.tmp 58), type := 70, pos := "search.go:59", after := #[{ on := 10, ground := Ground.data }], guard := none }) (v := .agg #[.int .i64 t0, .int .i64 t1, .int .i64 t2, .int .i64 t3]) rfl (by kernel_rfl) (by kernel_rfl) (by kernel_rfl) (fun _ _ _ h => h) (Or.inl ⟨by rfl, ?yttn611⟩) hk ?rttn611
        case yttn611 => (intro w hSw; have hrw := hSw.2; have q1 := cell_of_row _ g2 1 _ _ (0, 0) hrw; have q2 := cell_of_row _ g2 2 _ _ (0, 0) hrw; have q3 := cell_of_row _ g2 3 _ _ (0, 0) hrw; have q4 := cell_of_row _ g2 4 _ _ (0, 0) hrw; clear hSw hrw; go_simp; first | done | with_reducible rfl)
        simp only [Act.put, List.setIfInBounds_toArray, List.set_cons_zero, List.set_cons_succ]
        refine wpAnyH_ready (rs := [9, 13]) (by decide +kernel) (by simp) ?_
        refine (AllReadyH.cons (o := { dst := some 57, op := Op.call { callee := Callee.value (Operand.func 52), args := #[Operand.tmp 52, Operand.tmp 56], argTypes := #[60, 3] }, type := 60, pos := "search.go:59", after := #[{ on := 4, ground := Ground.data }, { on := 8, ground := Ground.data }], guard := none }) rfl (fun K hK => ?_) (AllReadyH.cons (o := { dst := some 5, op := Op.alloc 72, type := 0, pos := "search.go:59", after := #[], guard := none }) rfl (fun K hK => ?_) AllReadyH.nil))
        · go_simp
          refine (with_any x kf HKF.out HX64.out _).mono ?_
          rintro e1 wz ⟨rfl, hw⟩
          obtain rfl : wk = wz := hw.symm
          clear hw
          rw [HX2.out]
          refine hK.out _ _ hk (fun _ => ?_)
          clear hK K
          try simp only [Act.put, List.setIfInBounds_toArray, List.set_cons_zero, List.set_cons_succ]
          refine wpAnyH_take (i := 12) (oi := { dst := some 60, op := Op.build 72 #[(0, Operand.tmp 57), (1, Operand.tmp 59)], type := 72, pos := "search.go:59", after := #[{ on := 9, ground := Ground.data }, { on := 11, ground := Ground.data }], guard := none }) (v := ?vttn612) rfl (by kernel_rfl) (by kernel_rfl) (by kernel_rfl) (fun _ _ _ h => h) (Or.inl ⟨by rfl, ?yttn612⟩) hk ?rttn612
          case yttn612 => (intro w hSw; (try dsimp only at hSw); go_simp; first | done | with_reducible rfl)
          simp only [Act.put, List.setIfInBounds_toArray, List.set_cons_zero, List.set_cons_succ]
          refine wpAnyH_ready (rs := [13]) (by decide +kernel) (by simp) ?_
          refine AllReadyH.cons (o := { dst := some 5, op := Op.alloc 72, type := 0, pos := "search.go:59", after := #[], guard := none }) rfl (fun K hK => ?_) AllReadyH.nil
          rw [if_pos (by rfl)]
          refine wp_alloc_of 72 5 rfl ps_zero18 ?_
          intro cs hcs
          have hz := NV.new (T := 72) (N0 := w.heap.size) (wr := wk) hk.1.1.kp.size hcs
          have hne := And.intro (Nat.ne_of_lt (Array.getElem?_eq_some_iff.1 hk.1.2).1) (Nat.ne_of_lt (Array.getElem?_eq_some_iff.1 hk.2).1)
          have hbA : Below wk.heap.size wk (wk.alloc (.cells cs 72)) := (Below.refl _ _).alloc (Nat.le_refl _) _
          replace hk := And.intro (And.intro (hk.1.1.below hbA) (up_row _ _ hk.1.2 hbA)) (up_row _ _ hk.2 hbA)
          clear hbA hcs
          generalize hgn : wk.heap.size = g3 at hz hne ⊢
          clear hgn
          generalize wk.alloc (.cells cs 72) = wk at hz hk ⊢
          simp only [Act.put, List.setIfInBounds_toArray, List.set_cons_zero, List.set_cons_succ]
          refine hK.out _ _ hk (fun _ => ?_)
          clear hK K
          try simp only [Act.put, List.setIfInBounds_toArray, List.set_cons_zero, List.set_cons_succ]
          refine wpAnyH_ready (rs := [14]) (by decide +kernel) (by simp) ?_
          refine AllReadyH.cons (o := { dst := none, op := Op.store 72 (Operand.tmp 5) (Operand.tmp 60), type := 0, pos := "search.go:59", after := #[{ on := 13, ground := Ground.data }, { on := 12, ground := Ground.data }, { on := 9, ground := Ground.chain }, { on := 0, ground := Ground.phase }, { on := 1, ground := Ground.phase }, { on := 2, ground := Ground.phase }, { on := 3, ground := Ground.phase }, { on := 4, ground := Ground.phase }, { on := 5, ground := Ground.phase }, { on := 6, ground := Ground.phase }, { on := 7, ground := Ground.phase }, { on := 8, ground := Ground.phase }, { on := 9, ground := Ground.phase }, { on := 10, ground := Ground.phase }, { on := 11, ground := Ground.phase }, { on := 12, ground := Ground.phase }, { on := 13, ground := Ground.phase }], guard := none }) rfl (fun K hK => ?_) AllReadyH.nil
          rw [if_pos (by rfl)]
          refine wp_store_mid 72 (.tmp 5) (.tmp 60) rfl g3 0 #[.int .u64 (x2 : Nat), .int .i64 t0, .int .i64 t1, .int .i64 t2, .int .i64 t3] rfl rfl ?htttn614 ps_size18 (ps_one18 x2 t0 t1 t2 t3) ?_
          case htttn614 => exact hz.there rfl
          have hrz := hz.put (D := #[.int .u64 (x2 : Nat), .int .i64 t0, .int .i64 t1, .int .i64 t2, .int .i64 t3]) rfl
          have hge := hz.ge
          replace hk := And.intro (And.intro (hk.1.1.put HDK.out hge #[.int .u64 (x2 : Nat), .int .i64 t0, .int .i64 t1, .int .i64 t2, .int .i64 t3].toList) (nv_but hk.1.2 hne.1 #[.int .u64 (x2 : Nat), .int .i64 t0, .int .i64 t1, .int .i64 t2, .int .i64 t3].toList)) (nv_but hk.2 hne.2 #[.int .u64 (x2 : Nat), .int .i64 t0, .int .i64 t1, .int .i64 t2, .int .i64 t3].toList)
          clear hz
          generalize wk.setCells g3 0 (#[.int .u64 (x2 : Nat), .int .i64 t0, .int .i64 t1, .int .i64 t2, .int .i64 t3] : Array Value).toList = wk at hk hrz ⊢
          simp only [Act.put]
          refine hK.out _ _ hk (fun _ => ?_)
          clear hK K
          try simp only [Act.put, List.setIfInBounds_toArray, List.set_cons_zero, List.set_cons_succ]
          refine wpAnyH_done (by decide +kernel) ?_ _
          go_wp2_with fail
          go_meet
          case rel => exact ⟨g3, rfl, ⟨hge, hrz, hk.2, hk.1.2, hk.1.1⟩⟩
        · rw [if_pos (by rfl)]
          refine wp_alloc_of 72 5 rfl ps_zero18 ?_
          intro cs hcs
          have hz := NV.new (T := 72) (N0 := w.heap.size) (wr := wk) hk.1.1.kp.size hcs
          have hne := And.intro (Nat.ne_of_lt (Array.getElem?_eq_some_iff.1 hk.1.2).1) (Nat.ne_of_lt (Array.getElem?_eq_some_iff.1 hk.2).1)
          have hbA : Below wk.heap.size wk (wk.alloc (.cells cs 72)) := (Below.refl _ _).alloc (Nat.le_refl _) _
          replace hk := And.intro (And.intro (hk.1.1.below hbA) (up_row _ _ hk.1.2 hbA)) (up_row _ _ hk.2 hbA)
          clear hbA hcs
          generalize hgn : wk.heap.size = g3 at hz hne ⊢
          clear hgn
          generalize wk.alloc (.cells cs 72) = wk at hz hk ⊢
          simp only [Act.put, List.setIfInBounds_toArray, List.set_cons_zero, List.set_cons_succ]
          refine hK.out _ _ hk (fun _ => ?_)
          clear hK K
          try simp only [Act.put, List.setIfInBounds_toArray, List.set_cons_zero, List.set_cons_succ]
          refine wpAnyH_ready (rs := [9]) (by decide +kernel) (by simp) ?_
          refine AllReadyH.cons (o := { dst := some 57, op := Op.call { callee := Callee.value (Operand.func 52), args := #[Operand.tmp 52, Operand.tmp 56], argTypes := #[60, 3] }, type := 60, pos := "search.go:59", after := #[{ on := 4, ground := Ground.data }, { on := 8, ground := Ground.data }], guard := none }) rfl (fun K hK => ?_) AllReadyH.nil
          go_simp
          refine (with_any x kf HKF.out HX64.out _).mono ?_
          rintro e1 wz ⟨rfl, hw⟩
          obtain rfl : wk = wz := hw.symm
          clear hw
          rw [HX2.out]
          refine hK.out _ _ hk (fun _ => ?_)
          clear hK K
          try simp only [Act.put, List.setIfInBounds_toArray, List.set_cons_zero, List.set_cons_succ]
          refine wpAnyH_take (i := 12) (oi := { dst := some 60, op := Op.build 72 #[(0, Operand.tmp 57), (1, Operand.tmp 59)], type := 72, pos := "search.go:59", after := #[{ on := 9, ground := Ground.data }, { on := 11, ground := Ground.data }], guard := none }) (v := ?vttn616) rfl (by kernel_rfl) (by kernel_rfl) (by kernel_rfl) (fun _ _ _ h => h) (Or.inl ⟨by rfl, ?yttn616⟩) hk ?rttn616
          case yttn616 => (intro w hSw; (try dsimp only at hSw); go_simp; first | done | with_reducible rfl)
          simp only [Act.put, List.setIfInBounds_toArray, List.set_cons_zero, List.set_cons_succ]
          refine wpAnyH_ready (rs := [14]) (by decide +kernel) (by simp) ?_
          refine AllReadyH.cons (o := { dst := none, op := Op.store 72 (Operand.tmp 5) (Operand.tmp 60), type := 0, pos := "search.go:59", after := #[{ on := 13, ground := Ground.data }, { on := 12, ground := Ground.data }, { on := 9, ground := Ground.chain }, { on := 0, ground := Ground.phase }, { on := 1, ground := Ground.phase }, { on := 2, ground := Ground.phase }, { on := 3, ground := Ground.phase }, { on := 4, ground := Ground.phase }, { on := 5, ground := Ground.phase }, { on := 6, ground := Ground.phase }, { on := 7, ground := Ground.phase }, { on := 8, ground := Ground.phase }, { on := 9, ground := Ground.phase }, { on := 10, ground := Ground.phase }, { on := 11, ground := Ground.phase }, { on := 12, ground := Ground.phase }, { on := 13, ground := Ground.phase }], guard := none }) rfl (fun K hK => ?_) AllReadyH.nil
          rw [if_pos (by rfl)]
          refine wp_store_mid 72 (.tmp 5) (.tmp 60) rfl g3 0 #[.int .u64 (x2 : Nat), .int .i64 t0, .int .i64 t1, .int .i64 t2, .int .i64 t3] rfl rfl ?htttn617 ps_size18 (ps_one18 x2 t0 t1 t2 t3) ?_
          case htttn617 => exact hz.there rfl
          have hrz := hz.put (D := #[.int .u64 (x2 : Nat), .int .i64 t0, .int .i64 t1, .int .i64 t2, .int .i64 t3]) rfl
          have hge := hz.ge
          replace hk := And.intro (And.intro (hk.1.1.put HDK.out hge #[.int .u64 (x2 : Nat), .int .i64 t0, .int .i64 t1, .int .i64 t2, .int .i64 t3].toList) (nv_but hk.1.2 hne.1 #[.int .u64 (x2 : Nat), .int .i64 t0, .int .i64 t1, .int .i64 t2, .int .i64 t3].toList)) (nv_but hk.2 hne.2 #[.int .u64 (x2 : Nat), .int .i64 t0, .int .i64 t1, .int .i64 t2, .int .i64 t3].toList)
          clear hz
          generalize wk.setCells g3 0 (#[.int .u64 (x2 : Nat), .int .i64 t0, .int .i64 t1, .int .i64 t2, .int .i64 t3] : Array Value).toList = wk at hk hrz ⊢
          simp only [Act.put]
          refine hK.out _ _ hk (fun _ => ?_)
          clear hK K
          try simp only [Act.put, List.setIfInBounds_toArray, List.set_cons_zero, List.set_cons_succ]
          refine wpAnyH_done (by decide +kernel) ?_ _
          go_wp2_with fail
          go_meet
          case rel => exact ⟨g3, rfl, ⟨hge, hrz, hk.2, hk.1.2, hk.1.1⟩⟩
      case rest =>
        obtain ⟨g3, rfl, HC5⟩ := hcut
        obtain ⟨w5, hw5⟩ : ∃ w5, w5 = wc := ⟨_, rfl⟩
        subst hw5
        clear HI4 HC4 y0
        have HI5 := Bx.mk HC5.out.2.2.2.2
        have p0 := cell_of_row _ g1 0 _ _ (0, 0) HC5.out.2.2.2.1
        have p1 := cell_of_row _ g1 1 _ _ (0, 0) HC5.out.2.2.2.1
        have p2 := cell_of_row _ g1 2 _ _ (0, 0) HC5.out.2.2.2.1
        have p3 := cell_of_row _ g1 3 _ _ (0, 0) HC5.out.2.2.2.1
        have p4 := cell_of_row _ g1 4 _ _ (0, 0) HC5.out.2.2.2.1
        have p5 := cell_of_row _ g1 5 _ _ (0, 0) HC5.out.2.2.2.1
        have p6 := cell_of_row _ g1 6 _ _ (0, 0) HC5.out.2.2.2.1
        have r0 := cell_of_row _ g2 0 _ _ (0, 0) HC5.out.2.2.1
        have r1 := cell_of_row _ g2 1 _ _ (0, 0) HC5.out.2.2.1
        have r2 := cell_of_row _ g2 2 _ _ (0, 0) HC5.out.2.2.1
        have r3 := cell_of_row _ g2 3 _ _ (0, 0) HC5.out.2.2.1
        have r4 := cell_of_row _ g2 4 _ _ (0, 0) HC5.out.2.2.1
        have r5 := cell_of_row _ g2 5 _ _ (0, 0) HC5.out.2.2.1
        have r6 := cell_of_row _ g2 6 _ _ (0, 0) HC5.out.2.2.1
        have HR3 := Bx.mk HC5.out.2.1
        go_wp2_with fail
        refine (agrees_any X kS t0 t1 t2 t3 rt us _).mono ?_
        rintro e w6 ⟨rfl, hb6⟩
        have HI6 := Bx.mk (HI5.out.below hb6)
        have HR6 := Bx.mk (up_row _ _ HR3.out hb6)
        clear hb6 HI5 HR3 HC5 p0 p1 p2 p3 p4 p5 p6 r0 r1 r2 r3 r4 r5 r6
        have HLN : Bx (D.ops.length = n) := ⟨HDK.out.len.trans HN.out⟩
        have HPI : Bx (psO (tS D).n (x2, [t0, t1, t2, t3]) = ⟨(bsI D.ops.length x).set kf true, [t0, t1, t2, t3]⟩) := ⟨by show (bsI D.ops.length x2, _) = _; rw [← HX2.out, bs_set (by rw [HLN.out]; exact hkn)]⟩
        cases hag : agB kS X.d X.r rt with
        | false =>
          have HNO := Bx.mk (HRUN.out.no (tr_no (I := bsI D.ops.length x) HXE.out HST.out HK3.out (by
            unfold agB at hag
            by_cases h1 : kS = 1
            · right
              rw [h1] at hag
              cases hd : X.d with
              | false => rw [hd] at hag; cases hag
              | true =>
                rw [hd] at hag
                exact ⟨rfl, by simpa using hag⟩
            · exact .inl h1)))
          clear hag
          have x5 := (HI6.out.fx HL.out).2.2.2.2.2
          have fz := HI6.out.tm.frozF (L * 6 + 5)
          have hp6 := HI6.out.tm.place HDK.out (kf + 1)
          rw [HL.out] at hp6
          have HT8 : Bx (Tm D (w6.setCell ⟨gF, L * 6 + 5, none⟩ (.int .i64 ((kf : Int) + 1))) (.slice (some ⟨gF, 0, none⟩) (B.length + 1) cF) (B ++ [⟨x, [s0, s1, s2, s3], kf + 1⟩]) M (k + 1) 0 vO []) := ⟨by rw [HL.out]; exact hp6⟩
          have HK8 : Bx (Kept (ownT D (.slice (some ⟨gF, 0, none⟩) (B.length + 1) cF)) w (w6.setCell ⟨gF, L * 6 + 5, none⟩ (.int .i64 ((kf : Int) + 1)))) := ⟨HI6.out.kp.setCell (g := gF) (.inl (.inr (.inr rfl))) _ _⟩
          have HO8 : Bx (TOk D B ⟨x, [s0, s1, s2, s3], kf + 1⟩ M (k + 1)) := ⟨⟨HOK.out.pm, HOK.out.pb, HOK.out.pf, by rw [HN.out]; exact hkn, Nat.le_succ_of_le HOK.out.nb⟩⟩
          clear hp6
          go_wp2_with fail
          generalize w6.setCell ⟨gF, L * 6 + 5, none⟩ (.int .i64 ((kf : Int) + 1)) = w8 at HT8 HK8 ⊢
          refine (settle_any HT8.out HDK.out HKB.out HNO.out HO8.out).mono ?_
          rintro e w9 ⟨vF9, rfl, ⟨F9, M9, kd9, vO9, o9, hs9⟩, hk9, ha9⟩
          have HS9 := Bx.mk (ta_of HDK.out HTK.out hs9)
          have HK9 := Bx.mk (kept_on HK8.out hk9 (At3.refl _ _))
          have HA9 : Bx (At3 w (.slice (some ⟨gF, 0, none⟩) (B.length + 1) cF) vF9) := ⟨At3.trans (At3.refl _ _) ha9 HK8.out.size⟩
          clear hs9 hk9 ha9
          go_wp2_with fail
          go_end0
          exact ⟨vF9, rfl, ⟨_, _, _, _, _, HS9.out⟩, HK9.out, HA9.out⟩
        | true =>
          have HYS : Bx ((srO D.l D.fu D.ops).tr ((⟨x, [s0, s1, s2, s3], kf⟩ : Fr).p (tS D).n) kf = .yes (psO (tS D).n (x2, [t0, t1, t2, t3]))) := ⟨by
            rw [HPI.out]
            refine tr_ok HXE.out HST.out ?_ (bs_len _ _) (by rw [HLN.out]; exact hkn)
            unfold agB at hag
            simp only [Bool.and_eq_true, Bool.or_eq_true, beq_iff_eq, Bool.not_eq_true'] at hag
            rintro (h1 | ⟨h1, h2⟩)
            · exact h1 hag.1
            · rcases hag.2 with h3 | h3
              · rw [h1] at h3; cases h3
              · exact h2 h3⟩
          clear hag
          have z0 := cell_of_row _ g3 0 _ _ (0, 0) HR6.out
          have z1 := cell_of_row _ g3 1 _ _ (0, 0) HR6.out
          have z2 := cell_of_row _ g3 2 _ _ (0, 0) HR6.out
          have z3 := cell_of_row _ g3 3 _ _ (0, 0) HR6.out
          have z4 := cell_of_row _ g3 4 _ _ (0, 0) HR6.out
          go_wp2_with fail
          refine (was_any HI6.out.tm HDK.out HOK.out.pm x2 t0 t1 t2 t3 HQ2.out).mono ?_
          rintro e w7 ⟨rfl, hb7⟩
          have HI7 := Bx.mk (HI6.out.below hb7)
          have HR7 := Bx.mk (up_row _ _ HR6.out hb7)
          clear hb7 HI6 HR6 z0 z1 z2 z3 z4
          have HIFF := Bx.mk (psO_mem (n := D.n) HQ2.out HOK.out.pm)
          rw [← HDK.out.len] at HIFF
          by_cases hme : (x2, [t0, t1, t2, t3]) ∈ M
          · have HWA := Bx.mk (HRUN.out.was HYS.out (HIFF.out.2 hme))
            rw [decide_eq_true hme]
            clear hme
            obtain ⟨w6, hw6⟩ : ∃ w6, w6 = w7 := ⟨_, rfl⟩
            subst hw6
            have HI6 := HI7
            clear HI7
            have x5 := (HI6.out.fx HL.out).2.2.2.2.2
            have fz := HI6.out.tm.frozF (L * 6 + 5)
            have hp6 := HI6.out.tm.place HDK.out (kf + 1)
            rw [HL.out] at hp6
            have HT8 : Bx (Tm D (w6.setCell ⟨gF, L * 6 + 5, none⟩ (.int .i64 ((kf : Int) + 1))) (.slice (some ⟨gF, 0, none⟩) (B.length + 1) cF) (B ++ [⟨x, [s0, s1, s2, s3], kf + 1⟩]) M (k + 1) 0 vO []) := ⟨by rw [HL.out]; exact hp6⟩
            have HK8 : Bx (Kept (ownT D (.slice (some ⟨gF, 0, none⟩) (B.length + 1) cF)) w (w6.setCell ⟨gF, L * 6 + 5, none⟩ (.int .i64 ((kf : Int) + 1)))) := ⟨HI6.out.kp.setCell (g := gF) (.inl (.inr (.inr rfl))) _ _⟩
            have HO8 : Bx (TOk D B ⟨x, [s0, s1, s2, s3], kf + 1⟩ M (k + 1)) := ⟨⟨HOK.out.pm, HOK.out.pb, HOK.out.pf, by rw [HN.out]; exact hkn, Nat.le_succ_of_le HOK.out.nb⟩⟩
            clear hp6
            go_wp2_with fail
            generalize w6.setCell ⟨gF, L * 6 + 5, none⟩ (.int .i64 ((kf : Int) + 1)) = w8 at HT8 HK8 ⊢
            refine (settle_any HT8.out HDK.out HKB.out HWA.out HO8.out).mono ?_
            rintro e w9 ⟨vF9, rfl, ⟨F9, M9, kd9, vO9, o9, hs9⟩, hk9, ha9⟩
            have HS9 := Bx.mk (ta_of HDK.out HTK.out hs9)
            have HK9 := Bx.mk (kept_on HK8.out hk9 (At3.refl _ _))
            have HA9 : Bx (At3 w (.slice (some ⟨gF, 0, none⟩) (B.length + 1) cF) vF9) := ⟨At3.trans (At3.refl _ _) ha9 HK8.out.size⟩
            clear hs9 hk9 ha9
            go_wp2_with fail
            go_end0
            exact ⟨vF9, rfl, ⟨_, _, _, _, _, HS9.out⟩, HK9.out, HA9.out⟩
          · have HON := Bx.mk (HRUN.out.on HYS.out (fun h => hme (HIFF.out.1 h)))
            have HME := Bx.mk hme
            rw [decide_eq_false hme]
            clear hme
            have z0 := cell_of_row _ g3 0 _ _ (0, 0) HR7.out
            have z1 := cell_of_row _ g3 1 _ _ (0, 0) HR7.out
            have z2 := cell_of_row _ g3 2 _ _ (0, 0) HR7.out
            have z3 := cell_of_row _ g3 3 _ _ (0, 0) HR7.out
            have z4 := cell_of_row _ g3 4 _ _ (0, 0) HR7.out
            have HFL : Bx ((B ++ [(⟨x, [s0, s1, s2, s3], kf⟩ : Fr)]).length ≤ 1073741824) := ⟨by rw [List.length_append]; have := HOK.out.nb; have := HKB.out; have := HDK.out.bu; simp only [List.length_cons, List.length_nil]; omega⟩
            go_wp2_with fail
            refine (enter_any HI7.out.tm HDK.out HOK.out.pm HFL.out x2 t0 t1 t2 t3 HQ2.out HME.out).mono ?_
            rintro e w8 ⟨vF8, rfl, ht8, hk8, ha8⟩
            have HT8 := Bx.mk ht8
            have HK8 := Bx.mk (kept_on HI7.out.kp hk8 (At3.refl _ _))
            have HA8 : Bx (At3 w (.slice (some ⟨gF, 0, none⟩) (B.length + 1) cF) vF8) := ⟨At3.trans (At3.refl _ _) (At3.of ha8) HI7.out.kp.size⟩
            have HO8 : Bx (TOk D (B ++ [⟨x, [s0, s1, s2, s3], kf⟩]) ⟨x2, [t0, t1, t2, t3], 0⟩ (M ++ [(x2, [t0, t1, t2, t3])]) (k + 1)) := ⟨⟨fun y hy => by
              rcases List.mem_append.1 hy with hy | hy
              · exact HOK.out.pm y hy
              · rw [List.mem_singleton.1 hy]; exact HQ2.out, fun y hy => by
              rcases List.mem_append.1 hy with hy | hy
              · exact HOK.out.pb y hy
              · rw [List.mem_singleton.1 hy]; exact ⟨HOK.out.pf, by rw [HN.out]; exact hkn, HRUN.out.2.2.2⟩, HQ2.out, Nat.zero_le _, by rw [List.length_append]; have := HOK.out.nb; simp only [List.length_cons, List.length_nil]; omega⟩⟩
            clear ht8 hk8 ha8 HI7 HR7 z0 z1 z2 z3 z4
            go_wp2_with fail
            refine (settle_any HT8.out HDK.out HKB.out HON.out HO8.out).mono ?_
            rintro e w9 ⟨vF9, rfl, ⟨F9, M9, kd9, vO9, o9, hs9⟩, hk9, ha9⟩
            have HS9 := Bx.mk (ta_of HDK.out HTK.out hs9)
            have HK9 := Bx.mk (kept_on HK8.out hk9 HA8.out)
            have HA9 := Bx.mk (HA8.out.trans ha9 HK8.out.size)
            clear hs9 hk9 ha9
            go_wp2_with fail
            go_end0
            exact ⟨vF9, rfl, ⟨_, _, _, _, _, HS9.out⟩, HK9.out, HA9.out⟩
end
end Go.Proofs.Ytbjeeefkbmdmfaa
