/- What opens of a life answers. -/
import Derived.Test.YtigaciflbgbolaaLife10
import Derived.Deep.CutRange
namespace Go.Proofs.Ytigaciflbgbolaa
open Go.RowKit
set_option linter.unusedVariables false

set_option maxRecDepth 100000 in
set_option maxHeartbeats 2000000 in
theorem opens_same (w wr : World) (X : Nat → Prop) (gx gd n : Nat) (s : DS) (pl vs : Value) (am : Option Addr) (lm cm : Nat) (S T : List (List Int)) (M : List Int) (doubt : Bool) (hD : DD w wr X gd s) (hLf : Lf w.heap.size wr gx X gd pl vs am lm cm S M doubt) (hLeft : Left n s S M doubt T) (hTS : T = S) :
    Calls Try.prog 31 #[.pointer (some ⟨gx, 0, none⟩)] wr fun e w' => e = .returned (.bool true) ∧ ∃ gl X2 vs2 s2, DL w w' X2 gd gl s2 (lgs T) ∧ Lf w.heap.size w' gx X2 gd (.pointer (some ⟨gl, 0, none⟩)) vs2 am lm cm T M false ∧ Rest s2 T ∧ s2.F.length = n ∧ s2.armed = false := by
  obtain ⟨hF, hOn, hoff, harm, hTO, hLy, hTT0⟩ := hLeft
  have hOl : s.O.length ≤ 900000 := by rw [hOn]; exact Nat.zero_le _
  have hwl : s.wipE (FrS 0 T).length = 0 ∧ Rest (s.wipS (FrS 0 T).length) T ∧ (s.wipS (FrS 0 T).length).F.length = n ∧ (s.wipS (FrS 0 T).length).armed = false := by
    rcases wip_lay hoff hOn hTO hLy with ⟨h1, h2, h3, h4⟩ | ⟨_, h2, _⟩
    · exact ⟨h1, h2, by rw [h3, hF], h4 harm⟩
    · rw [harm] at h2; cases h2
  have hrd : rdF s.now = some (T, (FrS 0 T).length) := by
    have e : s.now = s.F := by unfold DS.now; rw [hOn]; rfl
    rw [e]; exact rd_lay hD.ok.f hLy hTO hD.ok.n2
  have HLF0 : Bx _ := ⟨hLf⟩
  have HD0 : Bx _ := ⟨hD⟩
  have c0 := rx0 hLf.row
  have HRS : Bx (Rest (s.wipS (FrS 0 T).length) T ∧ (s.wipS (FrS 0 T).length).F.length = n ∧ (s.wipS (FrS 0 T).length).armed = false) := ⟨hwl.2⟩
  clear hLf hD
  go_enter Try.func31, Try.ntmps31
  go_wp2_with fail
  refine (dd_open w _ X gd s T HD0.out hoff hOl hrd hwl.1).mono ?_
  rintro e w4 ⟨gl, rfl, hDL4, hxk4⟩
  have HLF4 : Bx _ := ⟨HLF0.out.xk hxk4⟩
  have HDL4 : Bx _ := ⟨hDL4⟩
  clear hDL4 hxk4 hwl hrd hoff hOl harm hLy c0 HLF0 HD0 hOn hF
  generalize s.wipS (FrS 0 T).length = s' at HDL4 HRS
  go_wp2_with fail
  refine (dl_texts w _ X gd gl s' (lgs T) HDL4.out).mono ?_
  rintro e w5 ⟨v5, rfl, hT5, hb5⟩
  obtain ⟨a5, c5, hv5, hx5⟩ := hT5.txs
  rw [hv5] at hT5 ⊢
  have HX5 : Bx (Txs w5 a5 T.length c5 T) := ⟨hx5⟩
  have HDL : Bx (DL w w5.drew X gd gl s' (lgs T)) := ⟨(HDL4.out.step hb5).drewN 1⟩
  have HLF5 : Bx (Lf w.heap.size w5 gx X gd pl vs am lm cm S M doubt) := ⟨HLF4.out.below hb5⟩
  obtain ⟨av, cv, hvs, hcv⟩ := HLF5.out.tl.form
  obtain ⟨N4, HN4⟩ : ∃ N4, Bx (N4 = w4.heap.size) := ⟨_, ⟨rfl⟩⟩
  obtain ⟨N5, HN5⟩ : ∃ N5, Bx (N5 = w5.heap.size) := ⟨_, ⟨rfl⟩⟩
  have HGX : Bx (gx < N4) := ⟨by rw [HN4.out]; exact HLF4.out.lt gx HLF4.out.og⟩
  have HXL : Bx (∀ k, X k → k < N4) := ⟨by rw [HN4.out]; exact HLF4.out.lt⟩
  obtain ⟨m, HMT⟩ : ∃ m, Bx (m = T.length) := ⟨_, ⟨rfl⟩⟩
  obtain ⟨q, HSQ'⟩ : ∃ q, Bx (q = S.length) := ⟨_, ⟨rfl⟩⟩
  have e1 : (lgs T).T.length = m := HMT.out.symm
  rw [e1] at hT5 ⊢
  rw [← HN4.out, ← HN5.out] at hT5
  have HTT : Bx (TL w5.drew (fun k => N4 ≤ k ∧ k < N5) (.slice a5 m c5) T) := ⟨hT5.keep (fun _ _ _ => rfl) (Nat.le_refl _) (fun _ _ h => h)⟩
  have HLF : Bx (Lf w.heap.size w5.drew gx X gd pl (.slice av q cv) am lm cm S M doubt) := ⟨by
    have h1 := HLF5.out
    rw [hvs, ← HSQ'.out] at h1
    exact h1.below (below_drewN (Below.refl _ _) 1)⟩
  have hm4 : m ≤ 4096 := by
    have h1 := rest_next HRS.out.1
    have h2 := FrS_len_ge 0 T
    have h3 := HDL4.out.ok.n2
    rw [HMT.out]; omega
  have HGE : Bx (∀ k, X k → w.heap.size ≤ k) := ⟨HLF4.out.ge⟩
  clear hT5 hb5 HDL4 HLF4 hx5 e1 HN4 HN5
  have hmq : m = q := by rw [HMT.out, HSQ'.out, hTS]
  replace HLF : Bx (Lf w.heap.size w5.drew gx X gd pl (.slice av q cv) am lm cm T M doubt) := ⟨by rw [hTS]; exact HLF.out⟩
  have hq4 : q ≤ 4096 := by omega
  have hk : w5.drew.cell? ⟨gx, 2, none⟩ = some (.slice av q cv) := rx2 HLF.out.row
  have g1 : ((m : Int) == (q : Int) + 1) = false := beq_eq_false_iff_ne.2 (by omega)
  have hw1 : IntKind.i64.wrap ((q : Int) + 1) = (q : Int) + 1 := IntWalk.i64_in _ (by omega)
  clear HX5 HLF5 HXL hvs HSQ' hTT0 hTS hmq
  go_wp2_with fail
  refine wp_region_held_drew (S := fun W => W.cell? ⟨gx, 2, none⟩ = some (.slice av q cv)) (by kernel_rfl) hk (fun _ => ?_)
  generalize w5.drew = wd at hk HDL HLF HTT ⊢
  refine wpAnyH_take (i := 0) (oi := { dst := some 22, op := Op.move (Operand.tmp 5), type := 60, pos := "law.go:138", after := #[], guard := none }) (v := ?vopA1) rfl (by kernel_rfl) (by kernel_rfl) (by kernel_rfl) (fun _ _ _ h => h) (Or.inl ⟨by rfl, ?yopA1⟩) hk ?ropA1
  case yopA1 => (intro w hSw; (try dsimp only at hSw); go_simp; first | done | with_reducible rfl)
  simp only [Act.put, List.setIfInBounds_toArray, List.set_cons_zero, List.set_cons_succ]
  refine wpAnyH_take (i := 1) (oi := { dst := some 23, op := Op.call { callee := Callee.builtin Builtin.len, args := #[Operand.tmp 22], argTypes := #[60] }, type := 3, pos := "law.go:138", after := #[{ on := 0, ground := Ground.data }], guard := none }) (v := ?vopA2) rfl (by kernel_rfl) (by kernel_rfl) (by kernel_rfl) (fun _ _ _ h => h) (Or.inl ⟨by rfl, ?yopA2⟩) hk ?ropA2
  case yopA2 => (intro w hSw; (try dsimp only at hSw); go_simp; first | done | with_reducible rfl)
  simp only [Act.put, List.setIfInBounds_toArray, List.set_cons_zero, List.set_cons_succ]
  refine wpAnyH_take (i := 2) (oi := { dst := some 24, op := Op.move (Operand.tmp 0), type := 59, pos := "law.go:138", after := #[], guard := none }) (v := ?vopA3) rfl (by kernel_rfl) (by kernel_rfl) (by kernel_rfl) (fun _ _ _ h => h) (Or.inl ⟨by rfl, ?yopA3⟩) hk ?ropA3
  case yopA3 => (intro w hSw; (try dsimp only at hSw); go_simp; first | done | with_reducible rfl)
  simp only [Act.put, List.setIfInBounds_toArray, List.set_cons_zero, List.set_cons_succ]
  refine wpAnyH_take (i := 3) (oi := { dst := some 25, op := Op.nilCheck (Operand.tmp 24), type := 0, pos := "law.go:138", after := #[{ on := 2, ground := Ground.data }], guard := none }) (v := ?vopA4) rfl (by kernel_rfl) (by kernel_rfl) (by kernel_rfl) (fun _ _ _ h => h) (Or.inl ⟨by rfl, ?yopA4⟩) hk ?ropA4
  case yopA4 => (intro w hSw; (try dsimp only at hSw); go_simp; first | done | with_reducible rfl)
  simp only [Act.put, List.setIfInBounds_toArray, List.set_cons_zero, List.set_cons_succ]
  refine wpAnyH_take (i := 4) (oi := { dst := some 26, op := Op.fieldAddr 62 (Operand.tmp 25) 2, type := 0, pos := "law.go:138", after := #[{ on := 3, ground := Ground.data }], guard := none }) (v := ?vopA5) rfl (by kernel_rfl) (by kernel_rfl) (by kernel_rfl) (fun _ _ _ h => h) (Or.inl ⟨by rfl, ?yopA5⟩) hk ?ropA5
  case yopA5 => (intro w hSw; (try dsimp only at hSw); go_simp; first | done | with_reducible rfl)
  simp only [Act.put, List.setIfInBounds_toArray, List.set_cons_zero, List.set_cons_succ]
  refine wpAnyH_take (i := 5) (oi := { dst := some 27, op := Op.load 60 (Operand.tmp 26), type := 60, pos := "law.go:138", after := #[{ on := 4, ground := Ground.data }], guard := none }) (v := ?vopA6) rfl (by kernel_rfl) (by kernel_rfl) (by kernel_rfl) (fun _ _ _ h => h) (Or.inl ⟨by rfl, ?yopA6⟩) hk ?ropA6
  case yopA6 => (intro w hSw; have hcw := hSw; clear hSw; go_simp; first | done | with_reducible rfl)
  simp only [Act.put, List.setIfInBounds_toArray, List.set_cons_zero, List.set_cons_succ]
  refine wpAnyH_take (i := 6) (oi := { dst := some 28, op := Op.call { callee := Callee.builtin Builtin.len, args := #[Operand.tmp 27], argTypes := #[60] }, type := 3, pos := "law.go:138", after := #[{ on := 5, ground := Ground.data }], guard := none }) (v := ?vopA7) rfl (by kernel_rfl) (by kernel_rfl) (by kernel_rfl) (fun _ _ _ h => h) (Or.inl ⟨by rfl, ?yopA7⟩) hk ?ropA7
  case yopA7 => (intro w hSw; (try dsimp only at hSw); go_simp; first | done | with_reducible rfl)
  simp only [Act.put, List.setIfInBounds_toArray, List.set_cons_zero, List.set_cons_succ]
  refine wpAnyH_take (i := 7) (oi := { dst := some 29, op := Op.binOp BinOp.add 3 (Operand.tmp 28) (Operand.const (Value.int IntKind.i64 1)) 3, type := 3, pos := "law.go:138", after := #[{ on := 6, ground := Ground.data }], guard := none }) (v := ?vopA8) rfl (by kernel_rfl) (by kernel_rfl) (by kernel_rfl) (fun _ _ _ h => h) (Or.inl ⟨by rfl, ?yopA8⟩) hk ?ropA8
  case yopA8 => (intro w hSw; (try dsimp only at hSw); go_simp; first | done | with_reducible rfl)
  simp only [Act.put, List.setIfInBounds_toArray, List.set_cons_zero, List.set_cons_succ]
  refine wpAnyH_take (i := 8) (oi := { dst := some 30, op := Op.binOp BinOp.eql 3 (Operand.tmp 23) (Operand.tmp 29) 3, type := 4, pos := "law.go:138", after := #[{ on := 1, ground := Ground.data }, { on := 7, ground := Ground.data }], guard := none }) (v := ?vopA9) rfl (by kernel_rfl) (by kernel_rfl) (by kernel_rfl) (fun _ _ _ h => h) (Or.inl ⟨by rfl, ?yopA9⟩) hk ?ropA9
  case yopA9 => (intro w hSw; (try dsimp only at hSw); go_simp; first | done | with_reducible rfl)
  simp only [Act.put, List.setIfInBounds_toArray, List.set_cons_zero, List.set_cons_succ]
  refine wpAnyH_take (i := 9) (oi := { dst := some 31, op := Op.move (Operand.tmp 30), type := 4, pos := "law.go:138", after := #[{ on := 8, ground := Ground.data }], guard := none }) (v := ?vopA10) rfl (by kernel_rfl) (by kernel_rfl) (by kernel_rfl) (fun _ _ _ h => h) (Or.inl ⟨by rfl, ?yopA10⟩) hk ?ropA10
  case yopA10 => (intro w hSw; (try dsimp only at hSw); go_simp; first | done | with_reducible rfl)
  simp only [Act.put, List.setIfInBounds_toArray, List.set_cons_zero, List.set_cons_succ]
  refine wpAnyH_take (i := 10) (oi := { dst := some 32, op := Op.move (Operand.tmp 0), type := 59, pos := "law.go:138", after := #[{ on := 9, ground := Ground.guard }], guard := some (9, true) }) (v := undef) rfl (by kernel_rfl) (by kernel_rfl) (by kernel_rfl) (fun _ _ _ h => h) (Or.inr ⟨by rfl, rfl⟩) hk ?_
  simp only [Act.put, List.setIfInBounds_toArray, List.set_cons_zero, List.set_cons_succ]
  refine wpAnyH_take (i := 11) (oi := { dst := some 33, op := Op.nilCheck (Operand.tmp 32), type := 0, pos := "law.go:138", after := #[{ on := 10, ground := Ground.data }, { on := 9, ground := Ground.guard }], guard := some (9, true) }) (v := undef) rfl (by kernel_rfl) (by kernel_rfl) (by kernel_rfl) (fun _ _ _ h => h) (Or.inr ⟨by rfl, rfl⟩) hk ?_
  simp only [Act.put, List.setIfInBounds_toArray, List.set_cons_zero, List.set_cons_succ]
  refine wpAnyH_take (i := 12) (oi := { dst := some 34, op := Op.fieldAddr 62 (Operand.tmp 33) 4, type := 0, pos := "law.go:138", after := #[{ on := 11, ground := Ground.data }, { on := 9, ground := Ground.guard }], guard := some (9, true) }) (v := undef) rfl (by kernel_rfl) (by kernel_rfl) (by kernel_rfl) (fun _ _ _ h => h) (Or.inr ⟨by rfl, rfl⟩) hk ?_
  simp only [Act.put, List.setIfInBounds_toArray, List.set_cons_zero, List.set_cons_succ]
  refine wpAnyH_take (i := 13) (oi := { dst := some 35, op := Op.load 4 (Operand.tmp 34), type := 4, pos := "law.go:138", after := #[{ on := 12, ground := Ground.data }, { on := 9, ground := Ground.guard }], guard := some (9, true) }) (v := undef) rfl (by kernel_rfl) (by kernel_rfl) (by kernel_rfl) (fun _ _ _ h => h) (Or.inr ⟨by rfl, rfl⟩) hk ?_
  simp only [Act.put, List.setIfInBounds_toArray, List.set_cons_zero, List.set_cons_succ]
  refine wpAnyH_take (i := 14) (oi := { dst := some 36, op := Op.pick (Operand.tmp 31) (Operand.tmp 35) (Operand.const (Value.bool false)), type := 4, pos := "law.go:138", after := #[{ on := 9, ground := Ground.data }, { on := 13, ground := Ground.data }], guard := none }) (v := ?vopA11) rfl (by kernel_rfl) (by kernel_rfl) (by kernel_rfl) (fun _ _ _ h => h) (Or.inl ⟨by rfl, ?yopA11⟩) hk ?ropA11
  case yopA11 => (intro w hSw; (try dsimp only at hSw); go_simp; first | done | with_reducible rfl)
  simp only [Act.put, List.setIfInBounds_toArray, List.set_cons_zero, List.set_cons_succ]
  refine wpAnyH_take (i := 15) (oi := { dst := some 37, op := Op.move (Operand.tmp 36), type := 4, pos := "law.go:138", after := #[{ on := 14, ground := Ground.data }, { on := 9, ground := Ground.chain }], guard := none }) (v := ?vopA12) rfl (by kernel_rfl) (by kernel_rfl) (by kernel_rfl) (fun _ _ _ h => h) (Or.inl ⟨by rfl, ?yopA12⟩) hk ?ropA12
  case yopA12 => (intro w hSw; (try dsimp only at hSw); go_simp; first | done | with_reducible rfl)
  simp only [Act.put, List.setIfInBounds_toArray, List.set_cons_zero, List.set_cons_succ]
  refine wpAnyH_take (i := 16) (oi := { dst := some 38, op := Op.move (Operand.tmp 5), type := 60, pos := "law.go:138", after := #[{ on := 15, ground := Ground.guard }], guard := some (15, true) }) (v := undef) rfl (by kernel_rfl) (by kernel_rfl) (by kernel_rfl) (fun _ _ _ h => h) (Or.inr ⟨by rfl, rfl⟩) hk ?_
  simp only [Act.put, List.setIfInBounds_toArray, List.set_cons_zero, List.set_cons_succ]
  refine wpAnyH_take (i := 17) (oi := { dst := some 39, op := Op.move (Operand.tmp 5), type := 60, pos := "law.go:138", after := #[{ on := 15, ground := Ground.guard }], guard := some (15, true) }) (v := undef) rfl (by kernel_rfl) (by kernel_rfl) (by kernel_rfl) (fun _ _ _ h => h) (Or.inr ⟨by rfl, rfl⟩) hk ?_
  simp only [Act.put, List.setIfInBounds_toArray, List.set_cons_zero, List.set_cons_succ]
  refine wpAnyH_take (i := 18) (oi := { dst := some 40, op := Op.call { callee := Callee.builtin Builtin.len, args := #[Operand.tmp 39], argTypes := #[60] }, type := 3, pos := "law.go:138", after := #[{ on := 17, ground := Ground.data }, { on := 15, ground := Ground.guard }], guard := some (15, true) }) (v := undef) rfl (by kernel_rfl) (by kernel_rfl) (by kernel_rfl) (fun _ _ _ h => h) (Or.inr ⟨by rfl, rfl⟩) hk ?_
  simp only [Act.put, List.setIfInBounds_toArray, List.set_cons_zero, List.set_cons_succ]
  refine wpAnyH_take (i := 19) (oi := { dst := some 41, op := Op.binOp BinOp.sub 3 (Operand.tmp 40) (Operand.const (Value.int IntKind.i64 1)) 3, type := 3, pos := "law.go:138", after := #[{ on := 18, ground := Ground.data }, { on := 15, ground := Ground.guard }], guard := some (15, true) }) (v := undef) rfl (by kernel_rfl) (by kernel_rfl) (by kernel_rfl) (fun _ _ _ h => h) (Or.inr ⟨by rfl, rfl⟩) hk ?_
  simp only [Act.put, List.setIfInBounds_toArray, List.set_cons_zero, List.set_cons_succ]
  refine wpAnyH_take (i := 20) (oi := { dst := some 42, op := Op.indexAddr 60 (Operand.tmp 38) (Operand.tmp 41), type := 0, pos := "law.go:138", after := #[{ on := 16, ground := Ground.data }, { on := 19, ground := Ground.data }, { on := 15, ground := Ground.guard }], guard := some (15, true) }) (v := undef) rfl (by kernel_rfl) (by kernel_rfl) (by kernel_rfl) (fun _ _ _ h => h) (Or.inr ⟨by rfl, rfl⟩) hk ?_
  simp only [Act.put, List.setIfInBounds_toArray, List.set_cons_zero, List.set_cons_succ]
  refine wpAnyH_take (i := 21) (oi := { dst := some 43, op := Op.load 38 (Operand.tmp 42), type := 38, pos := "law.go:138", after := #[{ on := 20, ground := Ground.data }, { on := 15, ground := Ground.guard }], guard := some (15, true) }) (v := undef) rfl (by kernel_rfl) (by kernel_rfl) (by kernel_rfl) (fun _ _ _ h => h) (Or.inr ⟨by rfl, rfl⟩) hk ?_
  simp only [Act.put, List.setIfInBounds_toArray, List.set_cons_zero, List.set_cons_succ]
  refine wpAnyH_take (i := 22) (oi := { dst := some 44, op := Op.move (Operand.tmp 0), type := 59, pos := "law.go:138", after := #[{ on := 15, ground := Ground.guard }], guard := some (15, true) }) (v := undef) rfl (by kernel_rfl) (by kernel_rfl) (by kernel_rfl) (fun _ _ _ h => h) (Or.inr ⟨by rfl, rfl⟩) hk ?_
  simp only [Act.put, List.setIfInBounds_toArray, List.set_cons_zero, List.set_cons_succ]
  refine wpAnyH_take (i := 23) (oi := { dst := some 45, op := Op.nilCheck (Operand.tmp 44), type := 0, pos := "law.go:138", after := #[{ on := 22, ground := Ground.data }, { on := 15, ground := Ground.guard }], guard := some (15, true) }) (v := undef) rfl (by kernel_rfl) (by kernel_rfl) (by kernel_rfl) (fun _ _ _ h => h) (Or.inr ⟨by rfl, rfl⟩) hk ?_
  simp only [Act.put, List.setIfInBounds_toArray, List.set_cons_zero, List.set_cons_succ]
  refine wpAnyH_take (i := 24) (oi := { dst := some 46, op := Op.fieldAddr 62 (Operand.tmp 45) 3, type := 0, pos := "law.go:138", after := #[{ on := 23, ground := Ground.data }, { on := 15, ground := Ground.guard }], guard := some (15, true) }) (v := undef) rfl (by kernel_rfl) (by kernel_rfl) (by kernel_rfl) (fun _ _ _ h => h) (Or.inr ⟨by rfl, rfl⟩) hk ?_
  simp only [Act.put, List.setIfInBounds_toArray, List.set_cons_zero, List.set_cons_succ]
  refine wpAnyH_take (i := 25) (oi := { dst := some 47, op := Op.load 38 (Operand.tmp 46), type := 38, pos := "law.go:138", after := #[{ on := 24, ground := Ground.data }, { on := 15, ground := Ground.guard }], guard := some (15, true) }) (v := undef) rfl (by kernel_rfl) (by kernel_rfl) (by kernel_rfl) (fun _ _ _ h => h) (Or.inr ⟨by rfl, rfl⟩) hk ?_
  simp only [Act.put, List.setIfInBounds_toArray, List.set_cons_zero, List.set_cons_succ]
  refine wpAnyH_take (i := 26) (oi := { dst := some 48, op := Op.call { callee := Callee.value (Operand.func 38), args := #[Operand.tmp 43, Operand.tmp 47], argTypes := #[38, 38] }, type := 4, pos := "law.go:138", after := #[{ on := 21, ground := Ground.data }, { on := 25, ground := Ground.data }, { on := 15, ground := Ground.chain }, { on := 15, ground := Ground.guard }], guard := some (15, true) }) (v := undef) rfl (by kernel_rfl) (by kernel_rfl) (by kernel_rfl) (fun _ _ _ h => h) (Or.inr ⟨by rfl, rfl⟩) hk ?_
  simp only [Act.put, List.setIfInBounds_toArray, List.set_cons_zero, List.set_cons_succ]
  refine wpAnyH_take (i := 27) (oi := { dst := some 49, op := Op.pick (Operand.tmp 37) (Operand.tmp 48) (Operand.const (Value.bool false)), type := 4, pos := "law.go:138", after := #[{ on := 15, ground := Ground.data }, { on := 26, ground := Ground.data }], guard := none }) (v := ?vopA13) rfl (by kernel_rfl) (by kernel_rfl) (by kernel_rfl) (fun _ _ _ h => h) (Or.inl ⟨by rfl, ?yopA13⟩) hk ?ropA13
  case yopA13 => (intro w hSw; (try dsimp only at hSw); go_simp; first | done | with_reducible rfl)
  simp only [Act.put, List.setIfInBounds_toArray, List.set_cons_zero, List.set_cons_succ]
  refine wpAnyH_done (by decide +kernel) ?_ _
  clear hk
  obtain ⟨wq, hwq⟩ : ∃ wq, wq = wd := ⟨_, rfl⟩
  obtain ⟨X2, hX2⟩ : ∃ X2, X2 = X := ⟨_, rfl⟩
  have HDL2 : Bx (DL w wq X2 gd gl s' (lgs T)) := ⟨by rw [hwq, hX2]; exact HDL.out⟩
  replace HLF : Bx (Lf w.heap.size wq gx X2 gd pl (.slice av q cv) am lm cm T M doubt) := ⟨by rw [hwq, hX2]; exact HLF.out⟩
  have HTT6 : Bx (TL wq (fun k => N4 ≤ k ∧ k < N5) (.slice a5 m c5) T) := ⟨by rw [hwq]; exact HTT.out⟩
  rw [← hwq]
  clear hwq hX2 HTT HDL
  have c1 := rx1 HLF.out.row
  have f1 := rxf HLF.out.row 1
  have c4 := rx4 HLF.out.row
  have f4 := rxf HLF.out.row 4
  go_upto_region 8 with fail
  have HLZ := (HLF.out.setL (.pointer (some ⟨gl, 0, none⟩))).setB false
  have hKZ : Kept X2 wq ((wq.setCell ⟨gx, 1, none⟩ (.pointer (some ⟨gl, 0, none⟩))).setCell ⟨gx, 4, none⟩ (.bool false)) := (HLF.out.keptSet 1 _).setCell (.inl HLF.out.og) 4 _
  have HDZ : Bx (DL w ((wq.setCell ⟨gx, 1, none⟩ (.pointer (some ⟨gl, 0, none⟩))).setCell ⟨gx, 4, none⟩ (.bool false)) X2 gd gl s' (lgs T)) := ⟨HDL2.out.other hKZ HLF.out.ge (fun k hk => .inl hk)⟩
  have HTZ := HTT6.out.keep (w' := (wq.setCell ⟨gx, 1, none⟩ (.pointer (some ⟨gl, 0, none⟩))).setCell ⟨gx, 4, none⟩ (.bool false)) (own2 := fun k => N4 ≤ k ∧ k < N5) (fun k _ ho => (heap_setCell_other _ ⟨gx, 4, none⟩ k _ (by show k ≠ gx; have := HGX.out; omega)).trans (heap_setCell_other _ ⟨gx, 1, none⟩ k _ (by show k ≠ gx; have := HGX.out; omega))) hKZ.size (fun _ _ h => h)
  clear c1 f1 c4 f4 hKZ
  generalize (wq.setCell ⟨gx, 1, none⟩ (.pointer (some ⟨gl, 0, none⟩))).setCell ⟨gx, 4, none⟩ (.bool false) = wz at HLZ HDZ HTZ ⊢
  have c2 := rx2 HLZ.row
  obtain ⟨az, cz, hvz, hxz⟩ := HLZ.tl.txs
  obtain ⟨ay, cy, hvy, hxy⟩ := HTZ.txs
  have HXZ : Bx _ := ⟨hxz⟩
  have HXY : Bx _ := ⟨hxy⟩
  have HLZ' : Bx _ := ⟨HLZ⟩
  rw [hvz] at c2
  cases hvy
  clear HTZ hxz hxy HLZ hvz
  go_wp2_with fail
  refine (tsame_yes _ _ _ _ _ _ _ HXY.out HXZ.out).mono ?_
  rintro e wf ⟨rfl, qf, hqf⟩
  have hbf : Below wz.heap.size wz wf := by rw [hqf]; exact below_drewN (Below.refl _ _) qf
  have HFIN : Bx (∃ gl X2 vs2 s2, DL w wf X2 gd gl s2 (lgs T) ∧ Lf w.heap.size wf gx X2 gd (.pointer (some ⟨gl, 0, none⟩)) vs2 am lm cm T M false ∧ Rest s2 T ∧ s2.F.length = n ∧ s2.armed = false) := ⟨gl, X2, _, s', HDZ.out.step hbf, HLZ'.out.below hbf, HRS.out.1, HRS.out.2.1, HRS.out.2.2⟩
  clear hbf hqf c2 HXY HXZ HLZ' HDZ
  go_wp2
  go_ret
  exact ⟨rfl, HFIN.out⟩
set_option maxRecDepth 100000 in
set_option maxHeartbeats 2000000 in
theorem opens_more (w wr : World) (X : Nat → Prop) (gx gd n : Nat) (s : DS) (pl vs : Value) (am : Option Addr) (lm cm : Nat) (S T : List (List Int)) (M : List Int) (doubt : Bool) (hD : DD w wr X gd s) (hLf : Lf w.heap.size wr gx X gd pl vs am lm cm S M doubt) (hLeft : Left n s S M doubt T) (hTS : T = S ++ [M]) (hdb : doubt = true) :
    Calls Try.prog 31 #[.pointer (some ⟨gx, 0, none⟩)] wr fun e w' => e = .returned (.bool true) ∧ ∃ gl X2 vs2 s2, DL w w' X2 gd gl s2 (lgs T) ∧ Lf w.heap.size w' gx X2 gd (.pointer (some ⟨gl, 0, none⟩)) vs2 am lm cm T M false ∧ Rest s2 T ∧ s2.F.length = n ∧ s2.armed = false := by
  obtain ⟨hF, hOn, hoff, harm, hTO, hLy, hTT0⟩ := hLeft
  have hOl : s.O.length ≤ 900000 := by rw [hOn]; exact Nat.zero_le _
  have hwl : s.wipE (FrS 0 T).length = 0 ∧ Rest (s.wipS (FrS 0 T).length) T ∧ (s.wipS (FrS 0 T).length).F.length = n ∧ (s.wipS (FrS 0 T).length).armed = false := by
    rcases wip_lay hoff hOn hTO hLy with ⟨h1, h2, h3, h4⟩ | ⟨_, h2, _⟩
    · exact ⟨h1, h2, by rw [h3, hF], h4 harm⟩
    · rw [harm] at h2; cases h2
  have hrd : rdF s.now = some (T, (FrS 0 T).length) := by
    have e : s.now = s.F := by unfold DS.now; rw [hOn]; rfl
    rw [e]; exact rd_lay hD.ok.f hLy hTO hD.ok.n2
  have HLF0 : Bx _ := ⟨hLf⟩
  have HD0 : Bx _ := ⟨hD⟩
  have c0 := rx0 hLf.row
  have HRS : Bx (Rest (s.wipS (FrS 0 T).length) T ∧ (s.wipS (FrS 0 T).length).F.length = n ∧ (s.wipS (FrS 0 T).length).armed = false) := ⟨hwl.2⟩
  clear hLf hD
  go_enter Try.func31, Try.ntmps31
  go_wp2_with fail
  refine (dd_open w _ X gd s T HD0.out hoff hOl hrd hwl.1).mono ?_
  rintro e w4 ⟨gl, rfl, hDL4, hxk4⟩
  have HLF4 : Bx _ := ⟨HLF0.out.xk hxk4⟩
  have HDL4 : Bx _ := ⟨hDL4⟩
  clear hDL4 hxk4 hwl hrd hoff hOl harm hLy c0 HLF0 HD0 hOn hF
  generalize s.wipS (FrS 0 T).length = s' at HDL4 HRS
  go_wp2_with fail
  refine (dl_texts w _ X gd gl s' (lgs T) HDL4.out).mono ?_
  rintro e w5 ⟨v5, rfl, hT5, hb5⟩
  obtain ⟨a5, c5, hv5, hx5⟩ := hT5.txs
  rw [hv5] at hT5 ⊢
  have HX5 : Bx (Txs w5 a5 T.length c5 T) := ⟨hx5⟩
  have HDL : Bx (DL w w5.drew X gd gl s' (lgs T)) := ⟨(HDL4.out.step hb5).drewN 1⟩
  have HLF5 : Bx (Lf w.heap.size w5 gx X gd pl vs am lm cm S M doubt) := ⟨HLF4.out.below hb5⟩
  obtain ⟨av, cv, hvs, hcv⟩ := HLF5.out.tl.form
  obtain ⟨N4, HN4⟩ : ∃ N4, Bx (N4 = w4.heap.size) := ⟨_, ⟨rfl⟩⟩
  obtain ⟨N5, HN5⟩ : ∃ N5, Bx (N5 = w5.heap.size) := ⟨_, ⟨rfl⟩⟩
  have HGX : Bx (gx < N4) := ⟨by rw [HN4.out]; exact HLF4.out.lt gx HLF4.out.og⟩
  have HXL : Bx (∀ k, X k → k < N4) := ⟨by rw [HN4.out]; exact HLF4.out.lt⟩
  obtain ⟨m, HMT⟩ : ∃ m, Bx (m = T.length) := ⟨_, ⟨rfl⟩⟩
  obtain ⟨q, HSQ'⟩ : ∃ q, Bx (q = S.length) := ⟨_, ⟨rfl⟩⟩
  have e1 : (lgs T).T.length = m := HMT.out.symm
  rw [e1] at hT5 ⊢
  rw [← HN4.out, ← HN5.out] at hT5
  have HTT : Bx (TL w5.drew (fun k => N4 ≤ k ∧ k < N5) (.slice a5 m c5) T) := ⟨hT5.keep (fun _ _ _ => rfl) (Nat.le_refl _) (fun _ _ h => h)⟩
  have HLF : Bx (Lf w.heap.size w5.drew gx X gd pl (.slice av q cv) am lm cm S M doubt) := ⟨by
    have h1 := HLF5.out
    rw [hvs, ← HSQ'.out] at h1
    exact h1.below (below_drewN (Below.refl _ _) 1)⟩
  have hm4 : m ≤ 4096 := by
    have h1 := rest_next HRS.out.1
    have h2 := FrS_len_ge 0 T
    have h3 := HDL4.out.ok.n2
    rw [HMT.out]; omega
  have HGE : Bx (∀ k, X k → w.heap.size ≤ k) := ⟨HLF4.out.ge⟩
  clear hT5 hb5 HDL4 HLF4 hx5 e1 HN4 HN5
  have hmq : m = q + 1 := by rw [HMT.out, HSQ'.out, hTS, List.length_append]; rfl
  have hq4 : q ≤ 4096 := by omega
  obtain ⟨bt, ot, hbt5, _, hc5⟩ := (HX5.out.drewN 1).spot (by rw [← HMT.out]; omega)
  obtain ⟨at_, lt, ct, hct, hbtl⟩ := hc5 q (by rw [← HMT.out]; omega)
  have hlast : T.getD q [] = M := by rw [hTS, HSQ'.out, List.getD_eq_getElem?_getD, List.getElem?_append_right (Nat.le_refl _), Nat.sub_self]; rfl
  rw [hlast] at hbtl
  have c4 := rx4 HLF.out.row
  rw [hdb] at c4
  have hk : w5.drew.cell? ⟨gx, 2, none⟩ = some (.slice av q cv) ∧ w5.drew.cell? ⟨gx, 4, none⟩ = some (.bool true) ∧ w5.drew.cell? ⟨gx, 3, none⟩ = some (.slice am lm cm) ∧ w5.drew.cell? ⟨bt, ot + q, none⟩ = some (.slice at_ lt ct) ∧ Bts w5.drew at_ lt ct M ∧ Bts w5.drew am lm cm M := ⟨rx2 HLF.out.row, c4, rx3 HLF.out.row, hct, hbtl, HLF.out.mb⟩
  have g1 : ((m : Int) == (q : Int) + 1) = true := beq_iff_eq.2 (by omega)
  have hw1 : IntKind.i64.wrap ((q : Int) + 1) = (q : Int) + 1 := IntWalk.i64_in _ (by omega)
  have hw2 : IntKind.i64.wrap ((m : Int) - 1) = (q : Int) := by rw [IntWalk.i64_in _ (by omega)]; omega
  have hqm : (q : Int) < (m : Int) := by omega
  have hqm2 : q < m := by omega
  have HSQ : Bx (S.length = q) := ⟨HSQ'.out.symm⟩
  have HTQ : Bx (T = S ++ [M]) := ⟨hTS⟩
  subst hbt5
  clear HX5 HLF5 hvs HSQ' hTT0 hTS hmq hlast hbtl hct hc5 c4 hdb
  go_wp2_with fail
  refine wp_region_held_drew (S := fun W => W.cell? ⟨gx, 2, none⟩ = some (.slice av q cv) ∧ W.cell? ⟨gx, 4, none⟩ = some (.bool true) ∧ W.cell? ⟨gx, 3, none⟩ = some (.slice am lm cm) ∧ W.cell? ⟨bt, ot + q, none⟩ = some (.slice at_ lt ct) ∧ Bts W at_ lt ct M ∧ Bts W am lm cm M) (by kernel_rfl) hk (fun _ => ?_)
  generalize w5.drew = wd at hk HDL HLF HTT ⊢
  refine wpAnyH_take (i := 0) (oi := { dst := some 22, op := Op.move (Operand.tmp 5), type := 60, pos := "law.go:138", after := #[], guard := none }) (v := ?vopB1) rfl (by kernel_rfl) (by kernel_rfl) (by kernel_rfl) (fun _ _ _ h => h) (Or.inl ⟨by rfl, ?yopB1⟩) hk ?ropB1
  case yopB1 => (intro w hSw; (try dsimp only at hSw); go_simp; first | done | with_reducible rfl)
  simp only [Act.put, List.setIfInBounds_toArray, List.set_cons_zero, List.set_cons_succ]
  refine wpAnyH_take (i := 1) (oi := { dst := some 23, op := Op.call { callee := Callee.builtin Builtin.len, args := #[Operand.tmp 22], argTypes := #[60] }, type := 3, pos := "law.go:138", after := #[{ on := 0, ground := Ground.data }], guard := none }) (v := ?vopB2) rfl (by kernel_rfl) (by kernel_rfl) (by kernel_rfl) (fun _ _ _ h => h) (Or.inl ⟨by rfl, ?yopB2⟩) hk ?ropB2
  case yopB2 => (intro w hSw; (try dsimp only at hSw); go_simp; first | done | with_reducible rfl)
  simp only [Act.put, List.setIfInBounds_toArray, List.set_cons_zero, List.set_cons_succ]
  refine wpAnyH_take (i := 2) (oi := { dst := some 24, op := Op.move (Operand.tmp 0), type := 59, pos := "law.go:138", after := #[], guard := none }) (v := ?vopB3) rfl (by kernel_rfl) (by kernel_rfl) (by kernel_rfl) (fun _ _ _ h => h) (Or.inl ⟨by rfl, ?yopB3⟩) hk ?ropB3
  case yopB3 => (intro w hSw; (try dsimp only at hSw); go_simp; first | done | with_reducible rfl)
  simp only [Act.put, List.setIfInBounds_toArray, List.set_cons_zero, List.set_cons_succ]
  refine wpAnyH_take (i := 3) (oi := { dst := some 25, op := Op.nilCheck (Operand.tmp 24), type := 0, pos := "law.go:138", after := #[{ on := 2, ground := Ground.data }], guard := none }) (v := ?vopB4) rfl (by kernel_rfl) (by kernel_rfl) (by kernel_rfl) (fun _ _ _ h => h) (Or.inl ⟨by rfl, ?yopB4⟩) hk ?ropB4
  case yopB4 => (intro w hSw; (try dsimp only at hSw); go_simp; first | done | with_reducible rfl)
  simp only [Act.put, List.setIfInBounds_toArray, List.set_cons_zero, List.set_cons_succ]
  refine wpAnyH_take (i := 4) (oi := { dst := some 26, op := Op.fieldAddr 62 (Operand.tmp 25) 2, type := 0, pos := "law.go:138", after := #[{ on := 3, ground := Ground.data }], guard := none }) (v := ?vopB5) rfl (by kernel_rfl) (by kernel_rfl) (by kernel_rfl) (fun _ _ _ h => h) (Or.inl ⟨by rfl, ?yopB5⟩) hk ?ropB5
  case yopB5 => (intro w hSw; (try dsimp only at hSw); go_simp; first | done | with_reducible rfl)
  simp only [Act.put, List.setIfInBounds_toArray, List.set_cons_zero, List.set_cons_succ]
  refine wpAnyH_take (i := 5) (oi := { dst := some 27, op := Op.load 60 (Operand.tmp 26), type := 60, pos := "law.go:138", after := #[{ on := 4, ground := Ground.data }], guard := none }) (v := ?vopB6) rfl (by kernel_rfl) (by kernel_rfl) (by kernel_rfl) (fun _ _ _ h => h) (Or.inl ⟨by rfl, ?yopB6⟩) hk ?ropB6
  case yopB6 => (intro w hSw; have hcw := hSw.1; clear hSw; go_simp; first | done | with_reducible rfl)
  simp only [Act.put, List.setIfInBounds_toArray, List.set_cons_zero, List.set_cons_succ]
  refine wpAnyH_take (i := 6) (oi := { dst := some 28, op := Op.call { callee := Callee.builtin Builtin.len, args := #[Operand.tmp 27], argTypes := #[60] }, type := 3, pos := "law.go:138", after := #[{ on := 5, ground := Ground.data }], guard := none }) (v := ?vopB7) rfl (by kernel_rfl) (by kernel_rfl) (by kernel_rfl) (fun _ _ _ h => h) (Or.inl ⟨by rfl, ?yopB7⟩) hk ?ropB7
  case yopB7 => (intro w hSw; (try dsimp only at hSw); go_simp; first | done | with_reducible rfl)
  simp only [Act.put, List.setIfInBounds_toArray, List.set_cons_zero, List.set_cons_succ]
  refine wpAnyH_take (i := 7) (oi := { dst := some 29, op := Op.binOp BinOp.add 3 (Operand.tmp 28) (Operand.const (Value.int IntKind.i64 1)) 3, type := 3, pos := "law.go:138", after := #[{ on := 6, ground := Ground.data }], guard := none }) (v := ?vopB8) rfl (by kernel_rfl) (by kernel_rfl) (by kernel_rfl) (fun _ _ _ h => h) (Or.inl ⟨by rfl, ?yopB8⟩) hk ?ropB8
  case yopB8 => (intro w hSw; (try dsimp only at hSw); go_simp; first | done | with_reducible rfl)
  simp only [Act.put, List.setIfInBounds_toArray, List.set_cons_zero, List.set_cons_succ]
  refine wpAnyH_take (i := 8) (oi := { dst := some 30, op := Op.binOp BinOp.eql 3 (Operand.tmp 23) (Operand.tmp 29) 3, type := 4, pos := "law.go:138", after := #[{ on := 1, ground := Ground.data }, { on := 7, ground := Ground.data }], guard := none }) (v := ?vopB9) rfl (by kernel_rfl) (by kernel_rfl) (by kernel_rfl) (fun _ _ _ h => h) (Or.inl ⟨by rfl, ?yopB9⟩) hk ?ropB9
  case yopB9 => (intro w hSw; (try dsimp only at hSw); go_simp; first | done | with_reducible rfl)
  simp only [Act.put, List.setIfInBounds_toArray, List.set_cons_zero, List.set_cons_succ]
  refine wpAnyH_take (i := 9) (oi := { dst := some 31, op := Op.move (Operand.tmp 30), type := 4, pos := "law.go:138", after := #[{ on := 8, ground := Ground.data }], guard := none }) (v := ?vopB10) rfl (by kernel_rfl) (by kernel_rfl) (by kernel_rfl) (fun _ _ _ h => h) (Or.inl ⟨by rfl, ?yopB10⟩) hk ?ropB10
  case yopB10 => (intro w hSw; (try dsimp only at hSw); go_simp; first | done | with_reducible rfl)
  simp only [Act.put, List.setIfInBounds_toArray, List.set_cons_zero, List.set_cons_succ]
  refine wpAnyH_take (i := 10) (oi := { dst := some 32, op := Op.move (Operand.tmp 0), type := 59, pos := "law.go:138", after := #[{ on := 9, ground := Ground.guard }], guard := some (9, true) }) (v := ?vopB11) rfl (by kernel_rfl) (by kernel_rfl) (by kernel_rfl) (fun _ _ _ h => h) (Or.inl ⟨by rfl, ?yopB11⟩) hk ?ropB11
  case yopB11 => (intro w hSw; (try dsimp only at hSw); go_simp; first | done | with_reducible rfl)
  simp only [Act.put, List.setIfInBounds_toArray, List.set_cons_zero, List.set_cons_succ]
  refine wpAnyH_take (i := 11) (oi := { dst := some 33, op := Op.nilCheck (Operand.tmp 32), type := 0, pos := "law.go:138", after := #[{ on := 10, ground := Ground.data }, { on := 9, ground := Ground.guard }], guard := some (9, true) }) (v := ?vopB12) rfl (by kernel_rfl) (by kernel_rfl) (by kernel_rfl) (fun _ _ _ h => h) (Or.inl ⟨by rfl, ?yopB12⟩) hk ?ropB12
  case yopB12 => (intro w hSw; (try dsimp only at hSw); go_simp; first | done | with_reducible rfl)
  simp only [Act.put, List.setIfInBounds_toArray, List.set_cons_zero, List.set_cons_succ]
  refine wpAnyH_take (i := 12) (oi := { dst := some 34, op := Op.fieldAddr 62 (Operand.tmp 33) 4, type := 0, pos := "law.go:138", after := #[{ on := 11, ground := Ground.data }, { on := 9, ground := Ground.guard }], guard := some (9, true) }) (v := ?vopB13) rfl (by kernel_rfl) (by kernel_rfl) (by kernel_rfl) (fun _ _ _ h => h) (Or.inl ⟨by rfl, ?yopB13⟩) hk ?ropB13
  case yopB13 => (intro w hSw; (try dsimp only at hSw); go_simp; first | done | with_reducible rfl)
  simp only [Act.put, List.setIfInBounds_toArray, List.set_cons_zero, List.set_cons_succ]
  refine wpAnyH_take (i := 13) (oi := { dst := some 35, op := Op.load 4 (Operand.tmp 34), type := 4, pos := "law.go:138", after := #[{ on := 12, ground := Ground.data }, { on := 9, ground := Ground.guard }], guard := some (9, true) }) (v := ?vopB14) rfl (by kernel_rfl) (by kernel_rfl) (by kernel_rfl) (fun _ _ _ h => h) (Or.inl ⟨by rfl, ?yopB14⟩) hk ?ropB14
  case yopB14 => (intro w hSw; have hcw := hSw.2.1; clear hSw; go_simp; first | done | with_reducible rfl)
  simp only [Act.put, List.setIfInBounds_toArray, List.set_cons_zero, List.set_cons_succ]
  refine wpAnyH_take (i := 14) (oi := { dst := some 36, op := Op.pick (Operand.tmp 31) (Operand.tmp 35) (Operand.const (Value.bool false)), type := 4, pos := "law.go:138", after := #[{ on := 9, ground := Ground.data }, { on := 13, ground := Ground.data }], guard := none }) (v := ?vopB15) rfl (by kernel_rfl) (by kernel_rfl) (by kernel_rfl) (fun _ _ _ h => h) (Or.inl ⟨by rfl, ?yopB15⟩) hk ?ropB15
  case yopB15 => (intro w hSw; (try dsimp only at hSw); go_simp; first | done | with_reducible rfl)
  simp only [Act.put, List.setIfInBounds_toArray, List.set_cons_zero, List.set_cons_succ]
  refine wpAnyH_take (i := 15) (oi := { dst := some 37, op := Op.move (Operand.tmp 36), type := 4, pos := "law.go:138", after := #[{ on := 14, ground := Ground.data }, { on := 9, ground := Ground.chain }], guard := none }) (v := ?vopB16) rfl (by kernel_rfl) (by kernel_rfl) (by kernel_rfl) (fun _ _ _ h => h) (Or.inl ⟨by rfl, ?yopB16⟩) hk ?ropB16
  case yopB16 => (intro w hSw; (try dsimp only at hSw); go_simp; first | done | with_reducible rfl)
  simp only [Act.put, List.setIfInBounds_toArray, List.set_cons_zero, List.set_cons_succ]
  refine wpAnyH_take (i := 16) (oi := { dst := some 38, op := Op.move (Operand.tmp 5), type := 60, pos := "law.go:138", after := #[{ on := 15, ground := Ground.guard }], guard := some (15, true) }) (v := ?vopB17) rfl (by kernel_rfl) (by kernel_rfl) (by kernel_rfl) (fun _ _ _ h => h) (Or.inl ⟨by rfl, ?yopB17⟩) hk ?ropB17
  case yopB17 => (intro w hSw; (try dsimp only at hSw); go_simp; first | done | with_reducible rfl)
  simp only [Act.put, List.setIfInBounds_toArray, List.set_cons_zero, List.set_cons_succ]
  refine wpAnyH_take (i := 17) (oi := { dst := some 39, op := Op.move (Operand.tmp 5), type := 60, pos := "law.go:138", after := #[{ on := 15, ground := Ground.guard }], guard := some (15, true) }) (v := ?vopB18) rfl (by kernel_rfl) (by kernel_rfl) (by kernel_rfl) (fun _ _ _ h => h) (Or.inl ⟨by rfl, ?yopB18⟩) hk ?ropB18
  case yopB18 => (intro w hSw; (try dsimp only at hSw); go_simp; first | done | with_reducible rfl)
  simp only [Act.put, List.setIfInBounds_toArray, List.set_cons_zero, List.set_cons_succ]
  refine wpAnyH_take (i := 18) (oi := { dst := some 40, op := Op.call { callee := Callee.builtin Builtin.len, args := #[Operand.tmp 39], argTypes := #[60] }, type := 3, pos := "law.go:138", after := #[{ on := 17, ground := Ground.data }, { on := 15, ground := Ground.guard }], guard := some (15, true) }) (v := ?vopB19) rfl (by kernel_rfl) (by kernel_rfl) (by kernel_rfl) (fun _ _ _ h => h) (Or.inl ⟨by rfl, ?yopB19⟩) hk ?ropB19
  case yopB19 => (intro w hSw; (try dsimp only at hSw); go_simp; first | done | with_reducible rfl)
  simp only [Act.put, List.setIfInBounds_toArray, List.set_cons_zero, List.set_cons_succ]
  refine wpAnyH_take (i := 19) (oi := { dst := some 41, op := Op.binOp BinOp.sub 3 (Operand.tmp 40) (Operand.const (Value.int IntKind.i64 1)) 3, type := 3, pos := "law.go:138", after := #[{ on := 18, ground := Ground.data }, { on := 15, ground := Ground.guard }], guard := some (15, true) }) (v := ?vopB20) rfl (by kernel_rfl) (by kernel_rfl) (by kernel_rfl) (fun _ _ _ h => h) (Or.inl ⟨by rfl, ?yopB20⟩) hk ?ropB20
  case yopB20 => (intro w hSw; (try dsimp only at hSw); go_simp; first | done | with_reducible rfl)
  simp only [Act.put, List.setIfInBounds_toArray, List.set_cons_zero, List.set_cons_succ]
  refine wpAnyH_take (i := 20) (oi := { dst := some 42, op := Op.indexAddr 60 (Operand.tmp 38) (Operand.tmp 41), type := 0, pos := "law.go:138", after := #[{ on := 16, ground := Ground.data }, { on := 19, ground := Ground.data }, { on := 15, ground := Ground.guard }], guard := some (15, true) }) (v := ?vopB21) rfl (by kernel_rfl) (by kernel_rfl) (by kernel_rfl) (fun _ _ _ h => h) (Or.inl ⟨by rfl, ?yopB21⟩) hk ?ropB21
  case yopB21 => (intro w hSw; (try dsimp only at hSw); go_simp; first | done | with_reducible rfl)
  simp only [Act.put, List.setIfInBounds_toArray, List.set_cons_zero, List.set_cons_succ]
  refine wpAnyH_take (i := 21) (oi := { dst := some 43, op := Op.load 38 (Operand.tmp 42), type := 38, pos := "law.go:138", after := #[{ on := 20, ground := Ground.data }, { on := 15, ground := Ground.guard }], guard := some (15, true) }) (v := ?vopB22) rfl (by kernel_rfl) (by kernel_rfl) (by kernel_rfl) (fun _ _ _ h => h) (Or.inl ⟨by rfl, ?yopB22⟩) hk ?ropB22
  case yopB22 => (intro w hSw; have hcw := hSw.2.2.2.1; clear hSw; go_simp; first | done | with_reducible rfl)
  simp only [Act.put, List.setIfInBounds_toArray, List.set_cons_zero, List.set_cons_succ]
  refine wpAnyH_take (i := 22) (oi := { dst := some 44, op := Op.move (Operand.tmp 0), type := 59, pos := "law.go:138", after := #[{ on := 15, ground := Ground.guard }], guard := some (15, true) }) (v := ?vopB23) rfl (by kernel_rfl) (by kernel_rfl) (by kernel_rfl) (fun _ _ _ h => h) (Or.inl ⟨by rfl, ?yopB23⟩) hk ?ropB23
  case yopB23 => (intro w hSw; (try dsimp only at hSw); go_simp; first | done | with_reducible rfl)
  simp only [Act.put, List.setIfInBounds_toArray, List.set_cons_zero, List.set_cons_succ]
  refine wpAnyH_take (i := 23) (oi := { dst := some 45, op := Op.nilCheck (Operand.tmp 44), type := 0, pos := "law.go:138", after := #[{ on := 22, ground := Ground.data }, { on := 15, ground := Ground.guard }], guard := some (15, true) }) (v := ?vopB24) rfl (by kernel_rfl) (by kernel_rfl) (by kernel_rfl) (fun _ _ _ h => h) (Or.inl ⟨by rfl, ?yopB24⟩) hk ?ropB24
  case yopB24 => (intro w hSw; (try dsimp only at hSw); go_simp; first | done | with_reducible rfl)
  simp only [Act.put, List.setIfInBounds_toArray, List.set_cons_zero, List.set_cons_succ]
  refine wpAnyH_take (i := 24) (oi := { dst := some 46, op := Op.fieldAddr 62 (Operand.tmp 45) 3, type := 0, pos := "law.go:138", after := #[{ on := 23, ground := Ground.data }, { on := 15, ground := Ground.guard }], guard := some (15, true) }) (v := ?vopB25) rfl (by kernel_rfl) (by kernel_rfl) (by kernel_rfl) (fun _ _ _ h => h) (Or.inl ⟨by rfl, ?yopB25⟩) hk ?ropB25
  case yopB25 => (intro w hSw; (try dsimp only at hSw); go_simp; first | done | with_reducible rfl)
  simp only [Act.put, List.setIfInBounds_toArray, List.set_cons_zero, List.set_cons_succ]
  refine wpAnyH_take (i := 25) (oi := { dst := some 47, op := Op.load 38 (Operand.tmp 46), type := 38, pos := "law.go:138", after := #[{ on := 24, ground := Ground.data }, { on := 15, ground := Ground.guard }], guard := some (15, true) }) (v := ?vopB26) rfl (by kernel_rfl) (by kernel_rfl) (by kernel_rfl) (fun _ _ _ h => h) (Or.inl ⟨by rfl, ?yopB26⟩) hk ?ropB26
  case yopB26 => (intro w hSw; have hcw := hSw.2.2.1; clear hSw; go_simp; first | done | with_reducible rfl)
  simp only [Act.put, List.setIfInBounds_toArray, List.set_cons_zero, List.set_cons_succ]
  refine wpAnyH_ready (rs := [26]) (by decide +kernel) (by simp) ?_
  refine AllReadyH.cons (o := { dst := some 48, op := Op.call { callee := Callee.value (Operand.func 38), args := #[Operand.tmp 43, Operand.tmp 47], argTypes := #[38, 38] }, type := 4, pos := "law.go:138", after := #[{ on := 21, ground := Ground.data }, { on := 25, ground := Ground.data }, { on := 15, ground := Ground.chain }, { on := 15, ground := Ground.guard }], guard := some (15, true) }) rfl (fun K hK => ?_) AllReadyH.nil
  go_simp
  refine (same_yes at_ am lt lm ct cm M _ hk.2.2.2.2.1 hk.2.2.2.2.2).mono ?_
  rintro e1 w8 ⟨rfl, q8, hq8⟩
  have hb8 : Below wd.heap.size wd w8 := by rw [hq8]; exact below_drewN (Below.refl _ _) q8
  replace hk : w8.cell? ⟨gx, 2, none⟩ = some (.slice av q cv) ∧ w8.cell? ⟨gx, 4, none⟩ = some (.bool true) ∧ w8.cell? ⟨gx, 3, none⟩ = some (.slice am lm cm) ∧ w8.cell? ⟨bt, ot + q, none⟩ = some (.slice at_ lt ct) ∧ Bts w8 at_ lt ct M ∧ Bts w8 am lm cm M := by rw [hq8]; exact ⟨hk.1, hk.2.1, hk.2.2.1, hk.2.2.2.1, hk.2.2.2.2.1.drewN q8, hk.2.2.2.2.2.drewN q8⟩
  replace HDL : Bx (DL w w8 X gd gl s' (lgs T)) := ⟨HDL.out.step hb8⟩
  replace HLF : Bx (Lf w.heap.size w8 gx X gd pl (.slice av q cv) am lm cm S M doubt) := ⟨HLF.out.below hb8⟩
  replace HTT : Bx (TL w8 (fun k => N4 ≤ k ∧ k < N5) (.slice (some ⟨bt, ot, none⟩) m c5) T) := ⟨HTT.out.below hb8⟩
  clear hb8 hq8
  generalize w8 = wd at hk HDL HLF HTT ⊢
  refine hK.out _ _ hk (fun _ => ?_)
  clear hK K
  try simp only [Act.put, List.setIfInBounds_toArray, List.set_cons_zero, List.set_cons_succ]
  refine wpAnyH_take (i := 27) (oi := { dst := some 49, op := Op.pick (Operand.tmp 37) (Operand.tmp 48) (Operand.const (Value.bool false)), type := 4, pos := "law.go:138", after := #[{ on := 15, ground := Ground.data }, { on := 26, ground := Ground.data }], guard := none }) (v := ?vopB27) rfl (by kernel_rfl) (by kernel_rfl) (by kernel_rfl) (fun _ _ _ h => h) (Or.inl ⟨by rfl, ?yopB27⟩) hk ?ropB27
  case yopB27 => (intro w hSw; (try dsimp only at hSw); go_simp; first | done | with_reducible rfl)
  simp only [Act.put, List.setIfInBounds_toArray, List.set_cons_zero, List.set_cons_succ]
  refine wpAnyH_done (by decide +kernel) ?_ _
  clear hk
  have HK : Bx (Kept X wd wd.drew) := ⟨(Kept.refl _ _).drewN 1⟩
  have HTK : Bx (∀ W, Kept X wd W → TL W (fun k => N4 ≤ k ∧ k < N5) (.slice (some ⟨bt, ot, none⟩) m c5) T) := ⟨fun W hK => HTT.out.kept hK (fun k hk hX => by have := HXL.out k hX; omega)⟩
  clear hv5
  have HBD : Bx (w.heap.size ≤ wd.heap.size) := ⟨HDL.out.low.size⟩
  replace HLF : Bx (Lf w.heap.size wd.drew gx X gd pl (.slice av q cv) am lm cm S M doubt) := ⟨HLF.out.below (below_drewN (Below.refl _ _) 1)⟩
  replace HTT : Bx (TL wd.drew (fun k => N4 ≤ k ∧ k < N5) (.slice (some ⟨bt, ot, none⟩) m c5) T) := ⟨HTT.out.below (below_drewN (Below.refl _ _) 1)⟩
  obtain ⟨i0, hi0, hz0, hz1, hz2⟩ := info_parts Try.info22
  have hk : True := trivial
  obtain ⟨a5, ha5⟩ : ∃ a5, a5 = some (⟨bt, ot, none⟩ : Addr) := ⟨_, rfl⟩
  rw [← ha5] at HTT HTK ⊢
  clear ha5
  go_wp2_with fail
  refine wp_region_held_drew (S := fun _ => True) (by kernel_rfl) hk (fun _ => ?_)
  generalize wd.drew = wk at HLF HTT HK ⊢
  refine wpAnyH_take (i := 0) (oi := { dst := some 50, op := Op.move (Operand.tmp 0), type := 59, pos := "law.go:139", after := #[], guard := none }) (v := ?vopC1) rfl (by kernel_rfl) (by kernel_rfl) (by kernel_rfl) (fun _ _ _ h => h) (Or.inl ⟨by rfl, ?yopC1⟩) hk ?ropC1
  case yopC1 => (intro w hSw; (try dsimp only at hSw); go_simp; first | done | with_reducible rfl)
  simp only [Act.put, List.setIfInBounds_toArray, List.set_cons_zero, List.set_cons_succ]
  refine wpAnyH_take (i := 1) (oi := { dst := some 51, op := Op.move (Operand.tmp 0), type := 59, pos := "law.go:139", after := #[], guard := none }) (v := ?vopC2) rfl (by kernel_rfl) (by kernel_rfl) (by kernel_rfl) (fun _ _ _ h => h) (Or.inl ⟨by rfl, ?yopC2⟩) hk ?ropC2
  case yopC2 => (intro w hSw; (try dsimp only at hSw); go_simp; first | done | with_reducible rfl)
  simp only [Act.put, List.setIfInBounds_toArray, List.set_cons_zero, List.set_cons_succ]
  refine wpAnyH_take (i := 2) (oi := { dst := some 52, op := Op.nilCheck (Operand.tmp 51), type := 0, pos := "law.go:139", after := #[{ on := 1, ground := Ground.data }], guard := none }) (v := ?vopC3) rfl (by kernel_rfl) (by kernel_rfl) (by kernel_rfl) (fun _ _ _ h => h) (Or.inl ⟨by rfl, ?yopC3⟩) hk ?ropC3
  case yopC3 => (intro w hSw; (try dsimp only at hSw); go_simp; first | done | with_reducible rfl)
  simp only [Act.put, List.setIfInBounds_toArray, List.set_cons_zero, List.set_cons_succ]
  refine wpAnyH_take (i := 3) (oi := { dst := some 53, op := Op.fieldAddr 62 (Operand.tmp 52) 2, type := 0, pos := "law.go:139", after := #[{ on := 2, ground := Ground.data }], guard := none }) (v := ?vopC4) rfl (by kernel_rfl) (by kernel_rfl) (by kernel_rfl) (fun _ _ _ h => h) (Or.inl ⟨by rfl, ?yopC4⟩) hk ?ropC4
  case yopC4 => (intro w hSw; (try dsimp only at hSw); go_simp; first | done | with_reducible rfl)
  simp only [Act.put, List.setIfInBounds_toArray, List.set_cons_zero, List.set_cons_succ]
  refine wpAnyH_take (i := 5) (oi := { dst := some 55, op := Op.move (Operand.tmp 0), type := 59, pos := "law.go:139", after := #[], guard := none }) (v := ?vopC5) rfl (by kernel_rfl) (by kernel_rfl) (by kernel_rfl) (fun _ _ _ h => h) (Or.inl ⟨by rfl, ?yopC5⟩) hk ?ropC5
  case yopC5 => (intro w hSw; (try dsimp only at hSw); go_simp; first | done | with_reducible rfl)
  simp only [Act.put, List.setIfInBounds_toArray, List.set_cons_zero, List.set_cons_succ]
  refine wpAnyH_take (i := 6) (oi := { dst := some 56, op := Op.nilCheck (Operand.tmp 55), type := 0, pos := "law.go:139", after := #[{ on := 5, ground := Ground.data }], guard := none }) (v := ?vopC6) rfl (by kernel_rfl) (by kernel_rfl) (by kernel_rfl) (fun _ _ _ h => h) (Or.inl ⟨by rfl, ?yopC6⟩) hk ?ropC6
  case yopC6 => (intro w hSw; (try dsimp only at hSw); go_simp; first | done | with_reducible rfl)
  simp only [Act.put, List.setIfInBounds_toArray, List.set_cons_zero, List.set_cons_succ]
  refine wpAnyH_take (i := 7) (oi := { dst := some 57, op := Op.fieldAddr 62 (Operand.tmp 56) 3, type := 0, pos := "law.go:139", after := #[{ on := 6, ground := Ground.data }], guard := none }) (v := ?vopC7) rfl (by kernel_rfl) (by kernel_rfl) (by kernel_rfl) (fun _ _ _ h => h) (Or.inl ⟨by rfl, ?yopC7⟩) hk ?ropC7
  case yopC7 => (intro w hSw; (try dsimp only at hSw); go_simp; first | done | with_reducible rfl)
  simp only [Act.put, List.setIfInBounds_toArray, List.set_cons_zero, List.set_cons_succ]
  refine wpAnyH_ready (rs := [4, 8]) (by decide +kernel) (by simp) ?_
  refine (AllReadyH.cons (o := { dst := some 54, op := Op.load 60 (Operand.tmp 53), type := 60, pos := "law.go:139", after := #[{ on := 3, ground := Ground.data }], guard := none }) rfl (fun K hK => ?_) (AllReadyH.cons (o := { dst := some 58, op := Op.load 38 (Operand.tmp 57), type := 38, pos := "law.go:139", after := #[{ on := 7, ground := Ground.data }], guard := none }) rfl (fun K hK => ?_) AllReadyH.nil))
  · rw [if_pos (by rfl)]
    have c2 := rx2 HLF.out.row
    go_simp
    clear c2
    refine hK.out _ _ hk (fun _ => ?_)
    clear hK K
    try simp only [Act.put, List.setIfInBounds_toArray, List.set_cons_zero, List.set_cons_succ]
    refine wpAnyH_ready (rs := [8]) (by decide +kernel) (by simp) ?_
    refine AllReadyH.cons (o := { dst := some 58, op := Op.load 38 (Operand.tmp 57), type := 38, pos := "law.go:139", after := #[{ on := 7, ground := Ground.data }], guard := none }) rfl (fun K hK => ?_) AllReadyH.nil
    rw [if_pos (by rfl)]
    have c3 := rx3 HLF.out.row
    go_simp
    clear c3
    refine hK.out _ _ hk (fun _ => ?_)
    clear hK K
    try simp only [Act.put, List.setIfInBounds_toArray, List.set_cons_zero, List.set_cons_succ]
    refine wpAnyH_ready (rs := [9]) (by decide +kernel) (by simp) ?_
    refine AllReadyH.cons (o := { dst := some 59, op := Op.buildSlice 60 1 #[(0, Operand.tmp 58)], type := 60, pos := "law.go:139", after := #[{ on := 8, ground := Ground.data }], guard := none }) rfl (fun K hK => ?_) AllReadyH.nil
    go_simp
    have hbA : Below wk.heap.size wk (wk.alloc (.cells #[.slice am lm cm] 38)) := (Below.refl _ _).alloc (Nat.le_refl _) _
    have hnew := World.news_of_block (heap_alloc_new wk (.cells #[.slice am lm cm] 38))
    replace HLF : Bx (Lf w.heap.size (wk.alloc (.cells #[.slice am lm cm] 38)) gx X gd pl (.slice av q cv) am lm cm S M doubt) := ⟨HLF.out.below hbA⟩
    replace HTT : Bx (TL (wk.alloc (.cells #[.slice am lm cm] 38)) (fun k => N4 ≤ k ∧ k < N5) (.slice a5 m c5) T) := ⟨HTT.out.below hbA⟩
    replace HK : Bx (Kept X wd (wk.alloc (.cells #[.slice am lm cm] 38))) := ⟨HK.out.below hbA⟩
    clear hbA
    generalize wk.heap.size = G at hnew ⊢
    generalize wk.alloc (.cells #[.slice am lm cm] 38) = wk at HLF HTT HK hnew ⊢
    refine hK.out _ _ hk (fun _ => ?_)
    clear hK K
    try simp only [Act.put, List.setIfInBounds_toArray, List.set_cons_zero, List.set_cons_succ]
    refine wpAnyH_ready (rs := [10]) (by decide +kernel) (by simp) ?_
    refine AllReadyH.cons (o := { dst := some 60, op := Op.call { callee := Callee.builtin Builtin.append, args := #[Operand.tmp 54, Operand.tmp 59], argTypes := #[60, 60] }, type := 60, pos := "law.go:139", after := #[{ on := 4, ground := Ground.data }, { on := 9, ground := Ground.data }], guard := none }) rfl (fun K hK => ?_) AllReadyH.nil
    obtain ⟨xs, hxo, HTA⟩ := HLF.out.tl.open
    rw [HSQ.out] at hxo
    refine step_append_lies _ rfl (.tmp 54) (.tmp 59) 60 rfl 0 38 i0 (.slice none 0 0) 1 24 Try.underlying60 hi0 hz0 hz1 hz2 rfl (by decide) (.slice av q cv) q xs rfl hxo ⟨G, 0, none⟩ 1 1 [.slice am lm cm] rfl rfl hnew (by simp [Value.oneCell']) (by decide) (by unfold maxLen; omega) (by omega) (Nat.zero_le _) _ rfl ?_
    intro g4 cap4 w6 hown4 hgr4 hl4 hlt4
    obtain ⟨c2, f2, HX⟩ := Lf.snoc (wl := wd) (l := M) HLF.out HTA.out HLF.out.mb (fun hp p e => ⟨(HLF.out.mo hp p e).1.2, (HLF.out.mo hp p e).2⟩) (fun hp p e => .inl (HLF.out.mo hp p e).1.1) HBD.out HK.out (by rw [HSQ.out]; exact hown4) hgr4 hl4
    rw [HSQ.out] at HX
    have HTT6 : Bx (TL (w6.setCell ⟨gx, 2, none⟩ (.slice (some ⟨g4, 0, none⟩) (q + 1) cap4)) (fun k => N4 ≤ k ∧ k < N5) (.slice a5 m c5) T) := ⟨HTK.out _ (by obtain ⟨_, _, hK9, _⟩ := HX.out; exact hK9)⟩
    clear hown4 hgr4 hl4 hlt4 hxo HTA HLF HK HTT hnew
    refine hK.out _ _ hk (fun _ => ?_)
    clear hK K
    try simp only [Act.put, List.setIfInBounds_toArray, List.set_cons_zero, List.set_cons_succ]
    refine wpAnyH_take (i := 11) (oi := { dst := some 61, op := Op.nilCheck (Operand.tmp 50), type := 0, pos := "law.go:139", after := #[{ on := 0, ground := Ground.data }, { on := 0, ground := Ground.phase }, { on := 1, ground := Ground.phase }, { on := 2, ground := Ground.phase }, { on := 3, ground := Ground.phase }, { on := 4, ground := Ground.phase }, { on := 5, ground := Ground.phase }, { on := 6, ground := Ground.phase }, { on := 7, ground := Ground.phase }, { on := 8, ground := Ground.phase }, { on := 9, ground := Ground.phase }, { on := 10, ground := Ground.phase }], guard := none }) (v := ?vopC10) rfl (by kernel_rfl) (by kernel_rfl) (by kernel_rfl) (fun _ _ _ h => h) (Or.inl ⟨by rfl, ?yopC10⟩) hk ?ropC10
    case yopC10 => (intro w hSw; (try dsimp only at hSw); go_simp; first | done | with_reducible rfl)
    simp only [Act.put, List.setIfInBounds_toArray, List.set_cons_zero, List.set_cons_succ]
    refine wpAnyH_take (i := 12) (oi := { dst := some 62, op := Op.fieldAddr 62 (Operand.tmp 61) 2, type := 0, pos := "law.go:139", after := #[{ on := 11, ground := Ground.data }, { on := 0, ground := Ground.phase }, { on := 1, ground := Ground.phase }, { on := 2, ground := Ground.phase }, { on := 3, ground := Ground.phase }, { on := 4, ground := Ground.phase }, { on := 5, ground := Ground.phase }, { on := 6, ground := Ground.phase }, { on := 7, ground := Ground.phase }, { on := 8, ground := Ground.phase }, { on := 9, ground := Ground.phase }, { on := 10, ground := Ground.phase }], guard := none }) (v := ?vopC11) rfl (by kernel_rfl) (by kernel_rfl) (by kernel_rfl) (fun _ _ _ h => h) (Or.inl ⟨by rfl, ?yopC11⟩) hk ?ropC11
    case yopC11 => (intro w hSw; (try dsimp only at hSw); go_simp; first | done | with_reducible rfl)
    simp only [Act.put, List.setIfInBounds_toArray, List.set_cons_zero, List.set_cons_succ]
    refine wpAnyH_ready (rs := [13]) (by decide +kernel) (by simp) ?_
    refine AllReadyH.cons (o := { dst := none, op := Op.store 60 (Operand.tmp 62) (Operand.tmp 60), type := 0, pos := "law.go:139", after := #[{ on := 12, ground := Ground.data }, { on := 10, ground := Ground.data }, { on := 10, ground := Ground.chain }, { on := 0, ground := Ground.phase }, { on := 1, ground := Ground.phase }, { on := 2, ground := Ground.phase }, { on := 3, ground := Ground.phase }, { on := 4, ground := Ground.phase }, { on := 5, ground := Ground.phase }, { on := 6, ground := Ground.phase }, { on := 7, ground := Ground.phase }, { on := 8, ground := Ground.phase }, { on := 9, ground := Ground.phase }, { on := 10, ground := Ground.phase }], guard := none }) rfl (fun K hK => ?_) AllReadyH.nil
    rw [if_pos (by rfl)]
    go_simp
    clear c2 f2
    refine hK.out _ _ hk (fun _ => ?_)
    clear hK K
    try simp only [Act.put, List.setIfInBounds_toArray, List.set_cons_zero, List.set_cons_succ]
    refine wpAnyH_done (by decide +kernel) ?_ _
    generalize w6.setCell ⟨gx, 2, none⟩ (.slice (some ⟨g4, 0, none⟩) (q + 1) cap4) = wq at HX HTT6 ⊢
    obtain ⟨X2, hLF2, hK2, hsub2, hnew2⟩ := HX.out
    have HDL2 : Bx (DL w wq X2 gd gl s' (lgs T)) := ⟨HDL.out.other hK2 HGE.out hnew2⟩
    rw [← HTQ.out] at hLF2
    have HLF : Bx (Lf w.heap.size wq gx X2 gd pl (.slice (some ⟨g4, 0, none⟩) (q + 1) cap4) am lm cm T M doubt) := ⟨hLF2⟩
    clear HX hLF2 hK2 hsub2 hnew2
    have c1 := rx1 HLF.out.row
    have f1 := rxf HLF.out.row 1
    have c4 := rx4 HLF.out.row
    have f4 := rxf HLF.out.row 4
    go_upto_region 8 with fail
    have HLZ := (HLF.out.setL (.pointer (some ⟨gl, 0, none⟩))).setB false
    have hKZ : Kept X2 wq ((wq.setCell ⟨gx, 1, none⟩ (.pointer (some ⟨gl, 0, none⟩))).setCell ⟨gx, 4, none⟩ (.bool false)) := (HLF.out.keptSet 1 _).setCell (.inl HLF.out.og) 4 _
    have HDZ : Bx (DL w ((wq.setCell ⟨gx, 1, none⟩ (.pointer (some ⟨gl, 0, none⟩))).setCell ⟨gx, 4, none⟩ (.bool false)) X2 gd gl s' (lgs T)) := ⟨HDL2.out.other hKZ HLF.out.ge (fun k hk => .inl hk)⟩
    have HTZ := HTT6.out.keep (w' := (wq.setCell ⟨gx, 1, none⟩ (.pointer (some ⟨gl, 0, none⟩))).setCell ⟨gx, 4, none⟩ (.bool false)) (own2 := fun k => N4 ≤ k ∧ k < N5) (fun k _ ho => (heap_setCell_other _ ⟨gx, 4, none⟩ k _ (by show k ≠ gx; have := HGX.out; omega)).trans (heap_setCell_other _ ⟨gx, 1, none⟩ k _ (by show k ≠ gx; have := HGX.out; omega))) hKZ.size (fun _ _ h => h)
    clear c1 f1 c4 f4 hKZ
    generalize (wq.setCell ⟨gx, 1, none⟩ (.pointer (some ⟨gl, 0, none⟩))).setCell ⟨gx, 4, none⟩ (.bool false) = wz at HLZ HDZ HTZ ⊢
    have c2 := rx2 HLZ.row
    obtain ⟨az, cz, hvz, hxz⟩ := HLZ.tl.txs
    obtain ⟨ay, cy, hvy, hxy⟩ := HTZ.txs
    have HXZ : Bx _ := ⟨hxz⟩
    have HXY : Bx _ := ⟨hxy⟩
    have HLZ' : Bx _ := ⟨HLZ⟩
    rw [hvz] at c2
    cases hvy
    clear HTZ hxz hxy HLZ hvz
    go_wp2_with fail
    refine (tsame_yes _ _ _ _ _ _ _ HXY.out HXZ.out).mono ?_
    rintro e wf ⟨rfl, qf, hqf⟩
    have hbf : Below wz.heap.size wz wf := by rw [hqf]; exact below_drewN (Below.refl _ _) qf
    have HFIN : Bx (∃ gl X2 vs2 s2, DL w wf X2 gd gl s2 (lgs T) ∧ Lf w.heap.size wf gx X2 gd (.pointer (some ⟨gl, 0, none⟩)) vs2 am lm cm T M false ∧ Rest s2 T ∧ s2.F.length = n ∧ s2.armed = false) := ⟨gl, X2, _, s', HDZ.out.step hbf, HLZ'.out.below hbf, HRS.out.1, HRS.out.2.1, HRS.out.2.2⟩
    clear hbf hqf c2 HXY HXZ HLZ' HDZ
    go_wp2
    go_ret
    exact ⟨rfl, HFIN.out⟩
  · rw [if_pos (by rfl)]
    have c3 := rx3 HLF.out.row
    go_simp
    clear c3
    refine hK.out _ _ hk (fun _ => ?_)
    clear hK K
    try simp only [Act.put, List.setIfInBounds_toArray, List.set_cons_zero, List.set_cons_succ]
    refine wpAnyH_ready (rs := [4, 9]) (by decide +kernel) (by simp) ?_
    refine (AllReadyH.cons (o := { dst := some 54, op := Op.load 60 (Operand.tmp 53), type := 60, pos := "law.go:139", after := #[{ on := 3, ground := Ground.data }], guard := none }) rfl (fun K hK => ?_) (AllReadyH.cons (o := { dst := some 59, op := Op.buildSlice 60 1 #[(0, Operand.tmp 58)], type := 60, pos := "law.go:139", after := #[{ on := 8, ground := Ground.data }], guard := none }) rfl (fun K hK => ?_) AllReadyH.nil))
    · rw [if_pos (by rfl)]
      have c2 := rx2 HLF.out.row
      go_simp
      clear c2
      refine hK.out _ _ hk (fun _ => ?_)
      clear hK K
      try simp only [Act.put, List.setIfInBounds_toArray, List.set_cons_zero, List.set_cons_succ]
      refine wpAnyH_ready (rs := [9]) (by decide +kernel) (by simp) ?_
      refine AllReadyH.cons (o := { dst := some 59, op := Op.buildSlice 60 1 #[(0, Operand.tmp 58)], type := 60, pos := "law.go:139", after := #[{ on := 8, ground := Ground.data }], guard := none }) rfl (fun K hK => ?_) AllReadyH.nil
      go_simp
      have hbA : Below wk.heap.size wk (wk.alloc (.cells #[.slice am lm cm] 38)) := (Below.refl _ _).alloc (Nat.le_refl _) _
      have hnew := World.news_of_block (heap_alloc_new wk (.cells #[.slice am lm cm] 38))
      replace HLF : Bx (Lf w.heap.size (wk.alloc (.cells #[.slice am lm cm] 38)) gx X gd pl (.slice av q cv) am lm cm S M doubt) := ⟨HLF.out.below hbA⟩
      replace HTT : Bx (TL (wk.alloc (.cells #[.slice am lm cm] 38)) (fun k => N4 ≤ k ∧ k < N5) (.slice a5 m c5) T) := ⟨HTT.out.below hbA⟩
      replace HK : Bx (Kept X wd (wk.alloc (.cells #[.slice am lm cm] 38))) := ⟨HK.out.below hbA⟩
      clear hbA
      generalize wk.heap.size = G at hnew ⊢
      generalize wk.alloc (.cells #[.slice am lm cm] 38) = wk at HLF HTT HK hnew ⊢
      refine hK.out _ _ hk (fun _ => ?_)
      clear hK K
      try simp only [Act.put, List.setIfInBounds_toArray, List.set_cons_zero, List.set_cons_succ]
      refine wpAnyH_ready (rs := [10]) (by decide +kernel) (by simp) ?_
      refine AllReadyH.cons (o := { dst := some 60, op := Op.call { callee := Callee.builtin Builtin.append, args := #[Operand.tmp 54, Operand.tmp 59], argTypes := #[60, 60] }, type := 60, pos := "law.go:139", after := #[{ on := 4, ground := Ground.data }, { on := 9, ground := Ground.data }], guard := none }) rfl (fun K hK => ?_) AllReadyH.nil
      obtain ⟨xs, hxo, HTA⟩ := HLF.out.tl.open
      rw [HSQ.out] at hxo
      refine step_append_lies _ rfl (.tmp 54) (.tmp 59) 60 rfl 0 38 i0 (.slice none 0 0) 1 24 Try.underlying60 hi0 hz0 hz1 hz2 rfl (by decide) (.slice av q cv) q xs rfl hxo ⟨G, 0, none⟩ 1 1 [.slice am lm cm] rfl rfl hnew (by simp [Value.oneCell']) (by decide) (by unfold maxLen; omega) (by omega) (Nat.zero_le _) _ rfl ?_
      intro g4 cap4 w6 hown4 hgr4 hl4 hlt4
      obtain ⟨c2, f2, HX⟩ := Lf.snoc (wl := wd) (l := M) HLF.out HTA.out HLF.out.mb (fun hp p e => ⟨(HLF.out.mo hp p e).1.2, (HLF.out.mo hp p e).2⟩) (fun hp p e => .inl (HLF.out.mo hp p e).1.1) HBD.out HK.out (by rw [HSQ.out]; exact hown4) hgr4 hl4
      rw [HSQ.out] at HX
      have HTT6 : Bx (TL (w6.setCell ⟨gx, 2, none⟩ (.slice (some ⟨g4, 0, none⟩) (q + 1) cap4)) (fun k => N4 ≤ k ∧ k < N5) (.slice a5 m c5) T) := ⟨HTK.out _ (by obtain ⟨_, _, hK9, _⟩ := HX.out; exact hK9)⟩
      clear hown4 hgr4 hl4 hlt4 hxo HTA HLF HK HTT hnew
      refine hK.out _ _ hk (fun _ => ?_)
      clear hK K
      try simp only [Act.put, List.setIfInBounds_toArray, List.set_cons_zero, List.set_cons_succ]
      refine wpAnyH_take (i := 11) (oi := { dst := some 61, op := Op.nilCheck (Operand.tmp 50), type := 0, pos := "law.go:139", after := #[{ on := 0, ground := Ground.data }, { on := 0, ground := Ground.phase }, { on := 1, ground := Ground.phase }, { on := 2, ground := Ground.phase }, { on := 3, ground := Ground.phase }, { on := 4, ground := Ground.phase }, { on := 5, ground := Ground.phase }, { on := 6, ground := Ground.phase }, { on := 7, ground := Ground.phase }, { on := 8, ground := Ground.phase }, { on := 9, ground := Ground.phase }, { on := 10, ground := Ground.phase }], guard := none }) (v := ?vopC15) rfl (by kernel_rfl) (by kernel_rfl) (by kernel_rfl) (fun _ _ _ h => h) (Or.inl ⟨by rfl, ?yopC15⟩) hk ?ropC15
      case yopC15 => (intro w hSw; (try dsimp only at hSw); go_simp; first | done | with_reducible rfl)
      simp only [Act.put, List.setIfInBounds_toArray, List.set_cons_zero, List.set_cons_succ]
      refine wpAnyH_take (i := 12) (oi := { dst := some 62, op := Op.fieldAddr 62 (Operand.tmp 61) 2, type := 0, pos := "law.go:139", after := #[{ on := 11, ground := Ground.data }, { on := 0, ground := Ground.phase }, { on := 1, ground := Ground.phase }, { on := 2, ground := Ground.phase }, { on := 3, ground := Ground.phase }, { on := 4, ground := Ground.phase }, { on := 5, ground := Ground.phase }, { on := 6, ground := Ground.phase }, { on := 7, ground := Ground.phase }, { on := 8, ground := Ground.phase }, { on := 9, ground := Ground.phase }, { on := 10, ground := Ground.phase }], guard := none }) (v := ?vopC16) rfl (by kernel_rfl) (by kernel_rfl) (by kernel_rfl) (fun _ _ _ h => h) (Or.inl ⟨by rfl, ?yopC16⟩) hk ?ropC16
      case yopC16 => (intro w hSw; (try dsimp only at hSw); go_simp; first | done | with_reducible rfl)
      simp only [Act.put, List.setIfInBounds_toArray, List.set_cons_zero, List.set_cons_succ]
      refine wpAnyH_ready (rs := [13]) (by decide +kernel) (by simp) ?_
      refine AllReadyH.cons (o := { dst := none, op := Op.store 60 (Operand.tmp 62) (Operand.tmp 60), type := 0, pos := "law.go:139", after := #[{ on := 12, ground := Ground.data }, { on := 10, ground := Ground.data }, { on := 10, ground := Ground.chain }, { on := 0, ground := Ground.phase }, { on := 1, ground := Ground.phase }, { on := 2, ground := Ground.phase }, { on := 3, ground := Ground.phase }, { on := 4, ground := Ground.phase }, { on := 5, ground := Ground.phase }, { on := 6, ground := Ground.phase }, { on := 7, ground := Ground.phase }, { on := 8, ground := Ground.phase }, { on := 9, ground := Ground.phase }, { on := 10, ground := Ground.phase }], guard := none }) rfl (fun K hK => ?_) AllReadyH.nil
      rw [if_pos (by rfl)]
      go_simp
      clear c2 f2
      refine hK.out _ _ hk (fun _ => ?_)
      clear hK K
      try simp only [Act.put, List.setIfInBounds_toArray, List.set_cons_zero, List.set_cons_succ]
      refine wpAnyH_done (by decide +kernel) ?_ _
      generalize w6.setCell ⟨gx, 2, none⟩ (.slice (some ⟨g4, 0, none⟩) (q + 1) cap4) = wq at HX HTT6 ⊢
      obtain ⟨X2, hLF2, hK2, hsub2, hnew2⟩ := HX.out
      have HDL2 : Bx (DL w wq X2 gd gl s' (lgs T)) := ⟨HDL.out.other hK2 HGE.out hnew2⟩
      rw [← HTQ.out] at hLF2
      have HLF : Bx (Lf w.heap.size wq gx X2 gd pl (.slice (some ⟨g4, 0, none⟩) (q + 1) cap4) am lm cm T M doubt) := ⟨hLF2⟩
      clear HX hLF2 hK2 hsub2 hnew2
      have c1 := rx1 HLF.out.row
      have f1 := rxf HLF.out.row 1
      have c4 := rx4 HLF.out.row
      have f4 := rxf HLF.out.row 4
      go_upto_region 8 with fail
      have HLZ := (HLF.out.setL (.pointer (some ⟨gl, 0, none⟩))).setB false
      have hKZ : Kept X2 wq ((wq.setCell ⟨gx, 1, none⟩ (.pointer (some ⟨gl, 0, none⟩))).setCell ⟨gx, 4, none⟩ (.bool false)) := (HLF.out.keptSet 1 _).setCell (.inl HLF.out.og) 4 _
      have HDZ : Bx (DL w ((wq.setCell ⟨gx, 1, none⟩ (.pointer (some ⟨gl, 0, none⟩))).setCell ⟨gx, 4, none⟩ (.bool false)) X2 gd gl s' (lgs T)) := ⟨HDL2.out.other hKZ HLF.out.ge (fun k hk => .inl hk)⟩
      have HTZ := HTT6.out.keep (w' := (wq.setCell ⟨gx, 1, none⟩ (.pointer (some ⟨gl, 0, none⟩))).setCell ⟨gx, 4, none⟩ (.bool false)) (own2 := fun k => N4 ≤ k ∧ k < N5) (fun k _ ho => (heap_setCell_other _ ⟨gx, 4, none⟩ k _ (by show k ≠ gx; have := HGX.out; omega)).trans (heap_setCell_other _ ⟨gx, 1, none⟩ k _ (by show k ≠ gx; have := HGX.out; omega))) hKZ.size (fun _ _ h => h)
      clear c1 f1 c4 f4 hKZ
      generalize (wq.setCell ⟨gx, 1, none⟩ (.pointer (some ⟨gl, 0, none⟩))).setCell ⟨gx, 4, none⟩ (.bool false) = wz at HLZ HDZ HTZ ⊢
      have c2 := rx2 HLZ.row
      obtain ⟨az, cz, hvz, hxz⟩ := HLZ.tl.txs
      obtain ⟨ay, cy, hvy, hxy⟩ := HTZ.txs
      have HXZ : Bx _ := ⟨hxz⟩
      have HXY : Bx _ := ⟨hxy⟩
      have HLZ' : Bx _ := ⟨HLZ⟩
      rw [hvz] at c2
      cases hvy
      clear HTZ hxz hxy HLZ hvz
      go_wp2_with fail
      refine (tsame_yes _ _ _ _ _ _ _ HXY.out HXZ.out).mono ?_
      rintro e wf ⟨rfl, qf, hqf⟩
      have hbf : Below wz.heap.size wz wf := by rw [hqf]; exact below_drewN (Below.refl _ _) qf
      have HFIN : Bx (∃ gl X2 vs2 s2, DL w wf X2 gd gl s2 (lgs T) ∧ Lf w.heap.size wf gx X2 gd (.pointer (some ⟨gl, 0, none⟩)) vs2 am lm cm T M false ∧ Rest s2 T ∧ s2.F.length = n ∧ s2.armed = false) := ⟨gl, X2, _, s', HDZ.out.step hbf, HLZ'.out.below hbf, HRS.out.1, HRS.out.2.1, HRS.out.2.2⟩
      clear hbf hqf c2 HXY HXZ HLZ' HDZ
      go_wp2
      go_ret
      exact ⟨rfl, HFIN.out⟩
    · go_simp
      have hbA : Below wk.heap.size wk (wk.alloc (.cells #[.slice am lm cm] 38)) := (Below.refl _ _).alloc (Nat.le_refl _) _
      have hnew := World.news_of_block (heap_alloc_new wk (.cells #[.slice am lm cm] 38))
      replace HLF : Bx (Lf w.heap.size (wk.alloc (.cells #[.slice am lm cm] 38)) gx X gd pl (.slice av q cv) am lm cm S M doubt) := ⟨HLF.out.below hbA⟩
      replace HTT : Bx (TL (wk.alloc (.cells #[.slice am lm cm] 38)) (fun k => N4 ≤ k ∧ k < N5) (.slice a5 m c5) T) := ⟨HTT.out.below hbA⟩
      replace HK : Bx (Kept X wd (wk.alloc (.cells #[.slice am lm cm] 38))) := ⟨HK.out.below hbA⟩
      clear hbA
      generalize wk.heap.size = G at hnew ⊢
      generalize wk.alloc (.cells #[.slice am lm cm] 38) = wk at HLF HTT HK hnew ⊢
      refine hK.out _ _ hk (fun _ => ?_)
      clear hK K
      try simp only [Act.put, List.setIfInBounds_toArray, List.set_cons_zero, List.set_cons_succ]
      refine wpAnyH_ready (rs := [4]) (by decide +kernel) (by simp) ?_
      refine AllReadyH.cons (o := { dst := some 54, op := Op.load 60 (Operand.tmp 53), type := 60, pos := "law.go:139", after := #[{ on := 3, ground := Ground.data }], guard := none }) rfl (fun K hK => ?_) AllReadyH.nil
      rw [if_pos (by rfl)]
      have c2 := rx2 HLF.out.row
      go_simp
      clear c2
      refine hK.out _ _ hk (fun _ => ?_)
      clear hK K
      try simp only [Act.put, List.setIfInBounds_toArray, List.set_cons_zero, List.set_cons_succ]
      refine wpAnyH_ready (rs := [10]) (by decide +kernel) (by simp) ?_
      refine AllReadyH.cons (o := { dst := some 60, op := Op.call { callee := Callee.builtin Builtin.append, args := #[Operand.tmp 54, Operand.tmp 59], argTypes := #[60, 60] }, type := 60, pos := "law.go:139", after := #[{ on := 4, ground := Ground.data }, { on := 9, ground := Ground.data }], guard := none }) rfl (fun K hK => ?_) AllReadyH.nil
      obtain ⟨xs, hxo, HTA⟩ := HLF.out.tl.open
      rw [HSQ.out] at hxo
      refine step_append_lies _ rfl (.tmp 54) (.tmp 59) 60 rfl 0 38 i0 (.slice none 0 0) 1 24 Try.underlying60 hi0 hz0 hz1 hz2 rfl (by decide) (.slice av q cv) q xs rfl hxo ⟨G, 0, none⟩ 1 1 [.slice am lm cm] rfl rfl hnew (by simp [Value.oneCell']) (by decide) (by unfold maxLen; omega) (by omega) (Nat.zero_le _) _ rfl ?_
      intro g4 cap4 w6 hown4 hgr4 hl4 hlt4
      obtain ⟨c2, f2, HX⟩ := Lf.snoc (wl := wd) (l := M) HLF.out HTA.out HLF.out.mb (fun hp p e => ⟨(HLF.out.mo hp p e).1.2, (HLF.out.mo hp p e).2⟩) (fun hp p e => .inl (HLF.out.mo hp p e).1.1) HBD.out HK.out (by rw [HSQ.out]; exact hown4) hgr4 hl4
      rw [HSQ.out] at HX
      have HTT6 : Bx (TL (w6.setCell ⟨gx, 2, none⟩ (.slice (some ⟨g4, 0, none⟩) (q + 1) cap4)) (fun k => N4 ≤ k ∧ k < N5) (.slice a5 m c5) T) := ⟨HTK.out _ (by obtain ⟨_, _, hK9, _⟩ := HX.out; exact hK9)⟩
      clear hown4 hgr4 hl4 hlt4 hxo HTA HLF HK HTT hnew
      refine hK.out _ _ hk (fun _ => ?_)
      clear hK K
      try simp only [Act.put, List.setIfInBounds_toArray, List.set_cons_zero, List.set_cons_succ]
      refine wpAnyH_take (i := 11) (oi := { dst := some 61, op := Op.nilCheck (Operand.tmp 50), type := 0, pos := "law.go:139", after := #[{ on := 0, ground := Ground.data }, { on := 0, ground := Ground.phase }, { on := 1, ground := Ground.phase }, { on := 2, ground := Ground.phase }, { on := 3, ground := Ground.phase }, { on := 4, ground := Ground.phase }, { on := 5, ground := Ground.phase }, { on := 6, ground := Ground.phase }, { on := 7, ground := Ground.phase }, { on := 8, ground := Ground.phase }, { on := 9, ground := Ground.phase }, { on := 10, ground := Ground.phase }], guard := none }) (v := ?vopC19) rfl (by kernel_rfl) (by kernel_rfl) (by kernel_rfl) (fun _ _ _ h => h) (Or.inl ⟨by rfl, ?yopC19⟩) hk ?ropC19
      case yopC19 => (intro w hSw; (try dsimp only at hSw); go_simp; first | done | with_reducible rfl)
      simp only [Act.put, List.setIfInBounds_toArray, List.set_cons_zero, List.set_cons_succ]
      refine wpAnyH_take (i := 12) (oi := { dst := some 62, op := Op.fieldAddr 62 (Operand.tmp 61) 2, type := 0, pos := "law.go:139", after := #[{ on := 11, ground := Ground.data }, { on := 0, ground := Ground.phase }, { on := 1, ground := Ground.phase }, { on := 2, ground := Ground.phase }, { on := 3, ground := Ground.phase }, { on := 4, ground := Ground.phase }, { on := 5, ground := Ground.phase }, { on := 6, ground := Ground.phase }, { on := 7, ground := Ground.phase }, { on := 8, ground := Ground.phase }, { on := 9, ground := Ground.phase }, { on := 10, ground := Ground.phase }], guard := none }) (v := ?vopC20) rfl (by kernel_rfl) (by kernel_rfl) (by kernel_rfl) (fun _ _ _ h => h) (Or.inl ⟨by rfl, ?yopC20⟩) hk ?ropC20
      case yopC20 => (intro w hSw; (try dsimp only at hSw); go_simp; first | done | with_reducible rfl)
      simp only [Act.put, List.setIfInBounds_toArray, List.set_cons_zero, List.set_cons_succ]
      refine wpAnyH_ready (rs := [13]) (by decide +kernel) (by simp) ?_
      refine AllReadyH.cons (o := { dst := none, op := Op.store 60 (Operand.tmp 62) (Operand.tmp 60), type := 0, pos := "law.go:139", after := #[{ on := 12, ground := Ground.data }, { on := 10, ground := Ground.data }, { on := 10, ground := Ground.chain }, { on := 0, ground := Ground.phase }, { on := 1, ground := Ground.phase }, { on := 2, ground := Ground.phase }, { on := 3, ground := Ground.phase }, { on := 4, ground := Ground.phase }, { on := 5, ground := Ground.phase }, { on := 6, ground := Ground.phase }, { on := 7, ground := Ground.phase }, { on := 8, ground := Ground.phase }, { on := 9, ground := Ground.phase }, { on := 10, ground := Ground.phase }], guard := none }) rfl (fun K hK => ?_) AllReadyH.nil
      rw [if_pos (by rfl)]
      go_simp
      clear c2 f2
      refine hK.out _ _ hk (fun _ => ?_)
      clear hK K
      try simp only [Act.put, List.setIfInBounds_toArray, List.set_cons_zero, List.set_cons_succ]
      refine wpAnyH_done (by decide +kernel) ?_ _
      generalize w6.setCell ⟨gx, 2, none⟩ (.slice (some ⟨g4, 0, none⟩) (q + 1) cap4) = wq at HX HTT6 ⊢
      obtain ⟨X2, hLF2, hK2, hsub2, hnew2⟩ := HX.out
      have HDL2 : Bx (DL w wq X2 gd gl s' (lgs T)) := ⟨HDL.out.other hK2 HGE.out hnew2⟩
      rw [← HTQ.out] at hLF2
      have HLF : Bx (Lf w.heap.size wq gx X2 gd pl (.slice (some ⟨g4, 0, none⟩) (q + 1) cap4) am lm cm T M doubt) := ⟨hLF2⟩
      clear HX hLF2 hK2 hsub2 hnew2
      have c1 := rx1 HLF.out.row
      have f1 := rxf HLF.out.row 1
      have c4 := rx4 HLF.out.row
      have f4 := rxf HLF.out.row 4
      go_upto_region 8 with fail
      have HLZ := (HLF.out.setL (.pointer (some ⟨gl, 0, none⟩))).setB false
      have hKZ : Kept X2 wq ((wq.setCell ⟨gx, 1, none⟩ (.pointer (some ⟨gl, 0, none⟩))).setCell ⟨gx, 4, none⟩ (.bool false)) := (HLF.out.keptSet 1 _).setCell (.inl HLF.out.og) 4 _
      have HDZ : Bx (DL w ((wq.setCell ⟨gx, 1, none⟩ (.pointer (some ⟨gl, 0, none⟩))).setCell ⟨gx, 4, none⟩ (.bool false)) X2 gd gl s' (lgs T)) := ⟨HDL2.out.other hKZ HLF.out.ge (fun k hk => .inl hk)⟩
      have HTZ := HTT6.out.keep (w' := (wq.setCell ⟨gx, 1, none⟩ (.pointer (some ⟨gl, 0, none⟩))).setCell ⟨gx, 4, none⟩ (.bool false)) (own2 := fun k => N4 ≤ k ∧ k < N5) (fun k _ ho => (heap_setCell_other _ ⟨gx, 4, none⟩ k _ (by show k ≠ gx; have := HGX.out; omega)).trans (heap_setCell_other _ ⟨gx, 1, none⟩ k _ (by show k ≠ gx; have := HGX.out; omega))) hKZ.size (fun _ _ h => h)
      clear c1 f1 c4 f4 hKZ
      generalize (wq.setCell ⟨gx, 1, none⟩ (.pointer (some ⟨gl, 0, none⟩))).setCell ⟨gx, 4, none⟩ (.bool false) = wz at HLZ HDZ HTZ ⊢
      have c2 := rx2 HLZ.row
      obtain ⟨az, cz, hvz, hxz⟩ := HLZ.tl.txs
      obtain ⟨ay, cy, hvy, hxy⟩ := HTZ.txs
      have HXZ : Bx _ := ⟨hxz⟩
      have HXY : Bx _ := ⟨hxy⟩
      have HLZ' : Bx _ := ⟨HLZ⟩
      rw [hvz] at c2
      cases hvy
      clear HTZ hxz hxy HLZ hvz
      go_wp2_with fail
      refine (tsame_yes _ _ _ _ _ _ _ HXY.out HXZ.out).mono ?_
      rintro e wf ⟨rfl, qf, hqf⟩
      have hbf : Below wz.heap.size wz wf := by rw [hqf]; exact below_drewN (Below.refl _ _) qf
      have HFIN : Bx (∃ gl X2 vs2 s2, DL w wf X2 gd gl s2 (lgs T) ∧ Lf w.heap.size wf gx X2 gd (.pointer (some ⟨gl, 0, none⟩)) vs2 am lm cm T M false ∧ Rest s2 T ∧ s2.F.length = n ∧ s2.armed = false) := ⟨gl, X2, _, s', HDZ.out.step hbf, HLZ'.out.below hbf, HRS.out.1, HRS.out.2.1, HRS.out.2.2⟩
      clear hbf hqf c2 HXY HXZ HLZ' HDZ
      go_wp2
      go_ret
      exact ⟨rfl, HFIN.out⟩
set_option maxRecDepth 100000 in
theorem opens_any (w wr : World) (X : Nat → Prop) (gx gd n : Nat) (s : DS) (pl vs : Value) (am : Option Addr) (lm cm : Nat) (S T : List (List Int)) (M : List Int) (doubt : Bool) (hD : DD w wr X gd s) (hLf : Lf w.heap.size wr gx X gd pl vs am lm cm S M doubt) (hLeft : Left n s S M doubt T) :
    Calls Try.prog 31 #[.pointer (some ⟨gx, 0, none⟩)] wr fun e w' => e = .returned (.bool true) ∧ ∃ gl X2 vs2 s2, DL w w' X2 gd gl s2 (lgs T) ∧ Lf w.heap.size w' gx X2 gd (.pointer (some ⟨gl, 0, none⟩)) vs2 am lm cm T M false ∧ Rest s2 T ∧ s2.F.length = n ∧ s2.armed = false := by
  have hL := hLeft
  obtain ⟨_, _, _, _, _, _, h7⟩ := hL
  rcases h7 with h7 | ⟨h7, h8⟩
  · exact opens_same w wr X gx gd n s pl vs am lm cm S T M doubt hD hLf hLeft h7
  · exact opens_more w wr X gx gd n s pl vs am lm cm S T M doubt hD hLf hLeft h8 h7
end Go.Proofs.Ytigaciflbgbolaa
