/- For every two digests, every three numbers and every list of digests the law MerkleGrows returns true and the arguments read as they did (P6.4): which growths of up to 100 digests are taken, whoever made them. The package's table is as the program's text lays it (the card ties it). -/
import Derived.Test.YtaphbenkkicbhaaDoorDoor
import Derived.Test.YtaphbenkkicbhaaDoorGrowCheck
import Derived.Test.YtaphbenkkicbhaaDoorRefGrowC
import Derived.Test.YtaphbenkkicbhaaDoorDgsIn
import Derived.WalkKit
import Derived.ShutString
import Derived.ChangeOld
import Derived.Below
namespace Go.Proofs.YtaphbenkkicbhaaDoor.merkleGrows
open Go.ChangeShapes Go.WideShapes Go.ChangeAt Go.RowKit
open Go.ChangeMaps (open_string shut_string)
set_option linter.unusedVariables false

theorem laidOut : laidOutB Tryd.prog = true := by kernel_rfl

/-- what stays while the law goes on -/
structure MGk (N : Nat) (y z : List Int) (a1 a2 : Option Addr) (m c1 c2 : Nat) (P : List (List Int)) (w wr : World) : Prop where
  low : Below N w wr
  size : N + 2 ≤ wr.heap.size
  fst : wr.heap[N]? = some (.cells (bv y).toArray 24 (0, 0))
  snd : wr.heap[N + 1]? = some (.cells (bv z).toArray 24 (0, 0))
  came : Dgs wr a1 m c1 P
  mine : Dgs wr a2 m c2 P
  tab : Tab wr
theorem MGk.drewN {N : Nat} {y z : List Int} {a1 a2 : Option Addr} {m c1 c2 : Nat} {P : List (List Int)} {w wr : World} (h : MGk N y z a1 a2 m c1 c2 P w wr) (n : Nat) : MGk N y z a1 a2 m c1 c2 P w (wr.drewN n) := ⟨below_drewN h.low n, h.size, h.fst, h.snd, h.came.drewN n, h.mine.drewN n, h.tab.drewN n⟩
theorem MGk.step {N : Nat} {y z : List Int} {a1 a2 : Option Addr} {m c1 c2 : Nat} {P : List (List Int)} {w wr w1 : World} (h : MGk N y z a1 a2 m c1 c2 P w wr) (hb : Below wr.heap.size wr w1) : MGk N y z a1 a2 m c1 c2 P w w1 := by
  have hs := h.size
  exact ⟨h.low.trans (hb.mono (by omega)), Nat.le_trans h.size hb.size, by rw [hb.block _ (by omega)]; exact h.fst, by rw [hb.block _ (by omega)]; exact h.snd, h.came.below hb, h.mine.below hb, h.tab.below hb⟩

set_option maxRecDepth 100000 in
set_option maxHeartbeats 1000000 in
theorem walk (first : List Int) (x1 : Int) (second : List Int) (x3 : Int) (a4 : Option Addr) (len4 cap4 : Nat) (L : List (List Int)) (x5 : Int) (w : World) (hfirst : Dg first) (hx1 : -9223372036854775808 ≤ x1 ∧ x1 ≤ 9223372036854775807) (hsecond : Dg second) (hx3 : -9223372036854775808 ≤ x3 ∧ x3 ≤ 9223372036854775807) (hL : Dgs w a4 len4 cap4 L) (hx5 : -9223372036854775808 ≤ x5 ∧ x5 ≤ 9223372036854775807) (htab : Tab w) :
    Calls Tryd.prog 8 #[.agg (bv first).toArray, .int .i64 x1, .agg (bv second).toArray, .int .i64 x3, .slice a4 len4 cap4, .int .i64 x5] w fun e w' => e = .returned (.bool true) ∧ Below w.heap.size w w' := by
  have hb0 : Below w.heap.size w ((w.alloc (.cells (bv first).toArray 24)).alloc (.cells (bv second).toArray 24)) := ((Below.refl _ _).alloc (Nat.le_refl _) _).alloc (by simp) _
  have hf0 : ((w.alloc (.cells (bv first).toArray 24)).alloc (.cells (bv second).toArray 24)).heap[w.heap.size]? = some (.cells (bv first).toArray 24 (0, 0)) := by rw [heap_alloc_old _ _ (by simp), heap_alloc_new]
  have hg0 : ((w.alloc (.cells (bv first).toArray 24)).alloc (.cells (bv second).toArray 24)).heap[w.heap.size + 1]? = some (.cells (bv second).toArray 24 (0, 0)) := by rw [show w.heap.size + 1 = (w.alloc (.cells (bv first).toArray 24)).heap.size from by simp, heap_alloc_new]
  have hs0 : ((w.alloc (.cells (bv first).toArray 24)).alloc (.cells (bv second).toArray 24)).heap.size = w.heap.size + 2 := by simp
  go_enter Tryd.func8, Tryd.ntmps8
  go_wp2_with fail
  generalize (w.alloc (.cells (bv first).toArray 24)).alloc (.cells (bv second).toArray 24) = w0 at hb0 hf0 hg0 hs0 ⊢
  have h0 := hL.below hb0
  have hT0 := htab.below hb0
  refine (few_any a4 len4 cap4 100 L _ h0 (by decide)).mono ?_
  rintro e w1 ⟨a1, m, c1, rfl, hm, h1, hb1⟩
  generalize L.take 100 = P at h1
  clear h0 hL
  go_wp2_with fail
  refine (few_any a1 m c1 100 P _ h1 (by decide)).mono ?_
  rintro e w2 ⟨a2, m2, c2, rfl, hm2, h2, hb2⟩
  have HML : Hid (P.take 100 = P) := List.take_of_length_le (by rw [h1.len_eq]; exact hm)
  rw [HML.out] at h2
  obtain rfl : m2 = m := h2.len_eq.symm.trans h1.len_eq
  have hb12 := bstep hb1 hb2
  have hk0 : MGk w.heap.size first second a1 a2 m2 c1 c2 P w w2 := ⟨hb0.trans (hb12.mono (by omega)), by have := hb12.size; omega, by rw [hb12.block _ (by omega)]; exact hf0, by rw [hb12.block _ (by omega)]; exact hg0, h1.below hb2, h2, hT0.below hb12⟩
  clear h1 h2 HML hb1 hb2 hb12 hT0 hf0 hg0 hs0 hb0
  have HC1 : Bx (∀ W, MGk w.heap.size first second a1 a2 m2 c1 c2 P w W → Calls Tryd.prog 31 #[.agg (bv first).toArray, .int .i64 x1, .agg (bv second).toArray, .int .i64 x3, .slice a2 m2 c2, .int .i64 x5] W fun e w' => e = .returned (.bool (chkG first x1 second x3 P x5)) ∧ Below W.heap.size W w') := ⟨fun W h => checkgrowth_any first x1 second x3 a2 m2 c2 P x5 W hfirst hsecond hx3.2 h.mine h.tab⟩
  have HC2 : Bx (∀ W, MGk w.heap.size first second a1 a2 m2 c1 c2 P w W → Calls Tryd.prog 32 #[.agg (bv first).toArray, .int .i64 x1, .agg (bv second).toArray, .int .i64 x3, .slice a1 m2 c1, .int .i64 x5] W fun e w' => e = .returned (.bool (chkG first x1 second x3 P x5)) ∧ Below W.heap.size W w') := ⟨fun W h => refcheckgrowth_any first x1 second x3 a1 m2 c1 P x5 W hfirst hsecond hx3.2 h.came⟩
  have hdy : (Tryd.prog.info? 24).map (·.size) = some (bv first).length := by rw [bv_length, hfirst.1]; exact dig_info
  have hdz : (Tryd.prog.info? 24).map (·.size) = some (bv second).length := by rw [bv_length, hsecond.1]; exact dig_info
  generalize chkG first x1 second x3 P x5 = cb at HC1 HC2
  obtain ⟨N, hN⟩ : ∃ N, N = w.heap.size := ⟨_, rfl⟩
  rw [← hN] at hk0 HC1 HC2 ⊢
  have HN : Hid (N = w.heap.size) := hN
  obtain ⟨m, hmm⟩ : ∃ m, m = m2 := ⟨_, rfl⟩
  subst hmm
  clear hN
  go_wp2_with fail
  have hk := hk0.drewN 1
  clear hk0 hfirst hsecond
  have hcb : (cb == cb) = true := by simp
  refine wp_region_held_drew (S := fun W => MGk N first second a1 a2 m c1 c2 P w W) (by kernel_rfl) hk (fun _ => ?_)
  refine wpAnyH_take (i := 0) (oi := { dst := some 18, op := Op.load 24 (Operand.tmp 6), type := 24, pos := "law.go:74", after := #[], guard := none }) (v := .agg (bv first).toArray) rfl (by kernel_rfl) (by kernel_rfl) (by kernel_rfl) (fun _ _ _ h => h) (yieldsIf_load_mid (by rfl) 24 (.tmp 6) rfl N 0 rfl (bv first) _ (fun w h => range_row h.fst) Tryd.underlying24 rfl hdy) hk ?_
  simp only [Act.put, List.setIfInBounds_toArray, List.set_cons_zero, List.set_cons_succ]
  refine wpAnyH_take (i := 1) (oi := { dst := some 19, op := Op.move (Operand.tmp 1), type := 3, pos := "law.go:74", after := #[], guard := none }) (v := ?vgrows1) rfl (by kernel_rfl) (by kernel_rfl) (by kernel_rfl) (fun _ _ _ h => h) (Or.inl ⟨by rfl, ?ygrows1⟩) hk ?rgrows1
  case ygrows1 => (intro w hSw; (try dsimp only at hSw); go_simp; first | done | with_reducible rfl)
  simp only [Act.put, List.setIfInBounds_toArray, List.set_cons_zero, List.set_cons_succ]
  refine wpAnyH_take (i := 2) (oi := { dst := some 20, op := Op.load 24 (Operand.tmp 8), type := 24, pos := "law.go:74", after := #[], guard := none }) (v := .agg (bv second).toArray) rfl (by kernel_rfl) (by kernel_rfl) (by kernel_rfl) (fun _ _ _ h => h) (yieldsIf_load_mid (by rfl) 24 (.tmp 8) rfl (N + 1) 0 rfl (bv second) _ (fun w h => range_row h.snd) Tryd.underlying24 rfl hdz) hk ?_
  simp only [Act.put, List.setIfInBounds_toArray, List.set_cons_zero, List.set_cons_succ]
  refine wpAnyH_take (i := 3) (oi := { dst := some 21, op := Op.move (Operand.tmp 3), type := 3, pos := "law.go:74", after := #[], guard := none }) (v := ?vgrows2) rfl (by kernel_rfl) (by kernel_rfl) (by kernel_rfl) (fun _ _ _ h => h) (Or.inl ⟨by rfl, ?ygrows2⟩) hk ?rgrows2
  case ygrows2 => (intro w hSw; (try dsimp only at hSw); go_simp; first | done | with_reducible rfl)
  simp only [Act.put, List.setIfInBounds_toArray, List.set_cons_zero, List.set_cons_succ]
  refine wpAnyH_take (i := 4) (oi := { dst := some 22, op := Op.move (Operand.tmp 13), type := 34, pos := "law.go:74", after := #[], guard := none }) (v := ?vgrows3) rfl (by kernel_rfl) (by kernel_rfl) (by kernel_rfl) (fun _ _ _ h => h) (Or.inl ⟨by rfl, ?ygrows3⟩) hk ?rgrows3
  case ygrows3 => (intro w hSw; (try dsimp only at hSw); go_simp; first | done | with_reducible rfl)
  simp only [Act.put, List.setIfInBounds_toArray, List.set_cons_zero, List.set_cons_succ]
  refine wpAnyH_take (i := 5) (oi := { dst := some 23, op := Op.move (Operand.tmp 5), type := 3, pos := "law.go:74", after := #[], guard := none }) (v := ?vgrows4) rfl (by kernel_rfl) (by kernel_rfl) (by kernel_rfl) (fun _ _ _ h => h) (Or.inl ⟨by rfl, ?ygrows4⟩) hk ?rgrows4
  case ygrows4 => (intro w hSw; (try dsimp only at hSw); go_simp; first | done | with_reducible rfl)
  simp only [Act.put, List.setIfInBounds_toArray, List.set_cons_zero, List.set_cons_succ]
  refine wpAnyH_take (i := 7) (oi := { dst := some 25, op := Op.load 24 (Operand.tmp 6), type := 24, pos := "law.go:74", after := #[], guard := none }) (v := .agg (bv first).toArray) rfl (by kernel_rfl) (by kernel_rfl) (by kernel_rfl) (fun _ _ _ h => h) (yieldsIf_load_mid (by rfl) 24 (.tmp 6) rfl N 0 rfl (bv first) _ (fun w h => range_row h.fst) Tryd.underlying24 rfl hdy) hk ?_
  simp only [Act.put, List.setIfInBounds_toArray, List.set_cons_zero, List.set_cons_succ]
  refine wpAnyH_take (i := 8) (oi := { dst := some 26, op := Op.move (Operand.tmp 1), type := 3, pos := "law.go:74", after := #[], guard := none }) (v := ?vgrows5) rfl (by kernel_rfl) (by kernel_rfl) (by kernel_rfl) (fun _ _ _ h => h) (Or.inl ⟨by rfl, ?ygrows5⟩) hk ?rgrows5
  case ygrows5 => (intro w hSw; (try dsimp only at hSw); go_simp; first | done | with_reducible rfl)
  simp only [Act.put, List.setIfInBounds_toArray, List.set_cons_zero, List.set_cons_succ]
  refine wpAnyH_take (i := 9) (oi := { dst := some 27, op := Op.load 24 (Operand.tmp 8), type := 24, pos := "law.go:74", after := #[], guard := none }) (v := .agg (bv second).toArray) rfl (by kernel_rfl) (by kernel_rfl) (by kernel_rfl) (fun _ _ _ h => h) (yieldsIf_load_mid (by rfl) 24 (.tmp 8) rfl (N + 1) 0 rfl (bv second) _ (fun w h => range_row h.snd) Tryd.underlying24 rfl hdz) hk ?_
  simp only [Act.put, List.setIfInBounds_toArray, List.set_cons_zero, List.set_cons_succ]
  refine wpAnyH_take (i := 10) (oi := { dst := some 28, op := Op.move (Operand.tmp 3), type := 3, pos := "law.go:74", after := #[], guard := none }) (v := ?vgrows6) rfl (by kernel_rfl) (by kernel_rfl) (by kernel_rfl) (fun _ _ _ h => h) (Or.inl ⟨by rfl, ?ygrows6⟩) hk ?rgrows6
  case ygrows6 => (intro w hSw; (try dsimp only at hSw); go_simp; first | done | with_reducible rfl)
  simp only [Act.put, List.setIfInBounds_toArray, List.set_cons_zero, List.set_cons_succ]
  refine wpAnyH_take (i := 11) (oi := { dst := some 29, op := Op.move (Operand.tmp 4), type := 34, pos := "law.go:74", after := #[], guard := none }) (v := ?vgrows7) rfl (by kernel_rfl) (by kernel_rfl) (by kernel_rfl) (fun _ _ _ h => h) (Or.inl ⟨by rfl, ?ygrows7⟩) hk ?rgrows7
  case ygrows7 => (intro w hSw; (try dsimp only at hSw); go_simp; first | done | with_reducible rfl)
  simp only [Act.put, List.setIfInBounds_toArray, List.set_cons_zero, List.set_cons_succ]
  refine wpAnyH_take (i := 12) (oi := { dst := some 30, op := Op.move (Operand.tmp 5), type := 3, pos := "law.go:74", after := #[], guard := none }) (v := ?vgrows8) rfl (by kernel_rfl) (by kernel_rfl) (by kernel_rfl) (fun _ _ _ h => h) (Or.inl ⟨by rfl, ?ygrows8⟩) hk ?rgrows8
  case ygrows8 => (intro w hSw; (try dsimp only at hSw); go_simp; first | done | with_reducible rfl)
  simp only [Act.put, List.setIfInBounds_toArray, List.set_cons_zero, List.set_cons_succ]
  refine wpAnyH_ready (rs := [6]) (by decide +kernel) (by simp) ?_
  refine AllReadyH.cons (o := { dst := some 24, op := Op.call { callee := Callee.value (Operand.func 31), args := #[Operand.tmp 18, Operand.tmp 19, Operand.tmp 20, Operand.tmp 21, Operand.tmp 22, Operand.tmp 23], argTypes := #[24, 3, 24, 3, 34, 3] }, type := 4, pos := "law.go:74", after := #[{ on := 0, ground := Ground.data }, { on := 1, ground := Ground.data }, { on := 2, ground := Ground.data }, { on := 3, ground := Ground.data }, { on := 4, ground := Ground.data }, { on := 5, ground := Ground.data }], guard := none }) rfl (fun K hK => ?_) AllReadyH.nil
  go_simp
  refine (HC1.out _ hk).mono ?_
  rintro e1 w6 ⟨rfl, hb1⟩
  replace hk := hk.step hb1
  clear hb1
  refine hK.out _ _ hk (fun _ => ?_)
  clear hK K
  try simp only [Act.put, List.setIfInBounds_toArray, List.set_cons_zero, List.set_cons_succ]
  refine wpAnyH_ready (rs := [13]) (by decide +kernel) (by simp) ?_
  refine AllReadyH.cons (o := { dst := some 31, op := Op.call { callee := Callee.value (Operand.func 32), args := #[Operand.tmp 25, Operand.tmp 26, Operand.tmp 27, Operand.tmp 28, Operand.tmp 29, Operand.tmp 30], argTypes := #[24, 3, 24, 3, 34, 3] }, type := 4, pos := "law.go:74", after := #[{ on := 7, ground := Ground.data }, { on := 8, ground := Ground.data }, { on := 9, ground := Ground.data }, { on := 10, ground := Ground.data }, { on := 11, ground := Ground.data }, { on := 12, ground := Ground.data }, { on := 6, ground := Ground.chain }], guard := none }) rfl (fun K hK => ?_) AllReadyH.nil
  go_simp
  refine (HC2.out _ hk).mono ?_
  rintro e1 w13 ⟨rfl, hb1⟩
  replace hk := hk.step hb1
  clear hb1
  refine hK.out _ _ hk (fun _ => ?_)
  clear hK K
  try simp only [Act.put, List.setIfInBounds_toArray, List.set_cons_zero, List.set_cons_succ]
  refine wpAnyH_take (i := 14) (oi := { dst := some 32, op := Op.binOp BinOp.eql 4 (Operand.tmp 24) (Operand.tmp 31) 4, type := 4, pos := "law.go:74", after := #[{ on := 6, ground := Ground.data }, { on := 13, ground := Ground.data }], guard := none }) (v := ?vgrows9) rfl (by kernel_rfl) (by kernel_rfl) (by kernel_rfl) (fun _ _ _ h => h) (Or.inl ⟨by rfl, ?ygrows9⟩) hk ?rgrows9
  case ygrows9 => (intro w hSw; (try dsimp only at hSw); go_simp; first | done | with_reducible rfl)
  simp only [Act.put, List.setIfInBounds_toArray, List.set_cons_zero, List.set_cons_succ]
  refine wpAnyH_take (i := 15) (oi := { dst := some 33, op := Op.move (Operand.tmp 32), type := 4, pos := "law.go:74", after := #[{ on := 14, ground := Ground.data }, { on := 13, ground := Ground.chain }], guard := none }) (v := ?vgrows10) rfl (by kernel_rfl) (by kernel_rfl) (by kernel_rfl) (fun _ _ _ h => h) (Or.inl ⟨by rfl, ?ygrows10⟩) hk ?rgrows10
  case ygrows10 => (intro w hSw; (try dsimp only at hSw); go_simp; first | done | with_reducible rfl)
  simp only [Act.put, List.setIfInBounds_toArray, List.set_cons_zero, List.set_cons_succ]
  refine wpAnyH_take (i := 16) (oi := { dst := some 34, op := Op.move (Operand.tmp 13), type := 34, pos := "law.go:74", after := #[{ on := 15, ground := Ground.guard }], guard := some (15, true) }) (v := ?vgrows11) rfl (by kernel_rfl) (by kernel_rfl) (by kernel_rfl) (fun _ _ _ h => h) (Or.inl ⟨by rfl, ?ygrows11⟩) hk ?rgrows11
  case ygrows11 => (intro w hSw; (try dsimp only at hSw); go_simp; first | done | with_reducible rfl)
  simp only [Act.put, List.setIfInBounds_toArray, List.set_cons_zero, List.set_cons_succ]
  refine wpAnyH_take (i := 17) (oi := { dst := some 35, op := Op.move (Operand.tmp 4), type := 34, pos := "law.go:74", after := #[{ on := 15, ground := Ground.guard }], guard := some (15, true) }) (v := ?vgrows12) rfl (by kernel_rfl) (by kernel_rfl) (by kernel_rfl) (fun _ _ _ h => h) (Or.inl ⟨by rfl, ?ygrows12⟩) hk ?rgrows12
  case ygrows12 => (intro w hSw; (try dsimp only at hSw); go_simp; first | done | with_reducible rfl)
  simp only [Act.put, List.setIfInBounds_toArray, List.set_cons_zero, List.set_cons_succ]
  refine wpAnyH_ready (rs := [18]) (by decide +kernel) (by simp) ?_
  refine AllReadyH.cons (o := { dst := some 36, op := Op.call { callee := Callee.value (Operand.func 24), args := #[Operand.tmp 34, Operand.tmp 35], argTypes := #[34, 34] }, type := 4, pos := "law.go:74", after := #[{ on := 16, ground := Ground.data }, { on := 17, ground := Ground.data }, { on := 15, ground := Ground.chain }, { on := 15, ground := Ground.guard }], guard := some (15, true) }) rfl (fun K hK => ?_) AllReadyH.nil
  go_simp
  refine (dsame_yes a2 a1 m c2 c1 P _ hk.mine hk.came).mono ?_
  rintro e1 w18 ⟨rfl, q, rfl⟩
  replace hk := hk.drewN q
  generalize w13.drewN q = w18 at hk ⊢
  refine hK.out _ _ hk (fun _ => ?_)
  clear hK K
  try simp only [Act.put, List.setIfInBounds_toArray, List.set_cons_zero, List.set_cons_succ]
  refine wpAnyH_take (i := 19) (oi := { dst := some 37, op := Op.pick (Operand.tmp 33) (Operand.tmp 36) (Operand.const (Value.bool false)), type := 4, pos := "law.go:74", after := #[{ on := 15, ground := Ground.data }, { on := 18, ground := Ground.data }], guard := none }) (v := ?vgrows13) rfl (by kernel_rfl) (by kernel_rfl) (by kernel_rfl) (fun _ _ _ h => h) (Or.inl ⟨by rfl, ?ygrows13⟩) hk ?rgrows13
  case ygrows13 => (intro w hSw; (try dsimp only at hSw); go_simp; first | done | with_reducible rfl)
  simp only [Act.put, List.setIfInBounds_toArray, List.set_cons_zero, List.set_cons_succ]
  refine wpAnyH_take (i := 20) (oi := { dst := some 38, op := Op.move (Operand.tmp 37), type := 4, pos := "law.go:74", after := #[{ on := 19, ground := Ground.data }, { on := 18, ground := Ground.chain }], guard := none }) (v := ?vgrows14) rfl (by kernel_rfl) (by kernel_rfl) (by kernel_rfl) (fun _ _ _ h => h) (Or.inl ⟨by rfl, ?ygrows14⟩) hk ?rgrows14
  case ygrows14 => (intro w hSw; (try dsimp only at hSw); go_simp; first | done | with_reducible rfl)
  simp only [Act.put, List.setIfInBounds_toArray, List.set_cons_zero, List.set_cons_succ]
  refine wpAnyH_ready (rs := [21]) (by decide +kernel) (by simp) ?_
  refine AllReadyH.cons (o := { dst := some 39, op := Op.call { callee := Callee.value (Operand.func 20), args := #[], argTypes := #[] }, type := 4, pos := "law.go:74", after := #[{ on := 20, ground := Ground.chain }, { on := 20, ground := Ground.guard }], guard := some (20, true) }) rfl (fun K hK => ?_) AllReadyH.nil
  go_simp
  refine (lives_any _ hk.tab).mono ?_
  rintro e1 w21 ⟨rfl, hb1⟩
  replace hk := hk.step hb1
  clear hb1
  refine hK.out _ _ hk (fun _ => ?_)
  clear hK K
  try simp only [Act.put, List.setIfInBounds_toArray, List.set_cons_zero, List.set_cons_succ]
  refine wpAnyH_take (i := 22) (oi := { dst := some 40, op := Op.pick (Operand.tmp 38) (Operand.tmp 39) (Operand.const (Value.bool false)), type := 4, pos := "law.go:74", after := #[{ on := 20, ground := Ground.data }, { on := 21, ground := Ground.data }], guard := none }) (v := ?vgrows15) rfl (by kernel_rfl) (by kernel_rfl) (by kernel_rfl) (fun _ _ _ h => h) (Or.inl ⟨by rfl, ?ygrows15⟩) hk ?rgrows15
  case ygrows15 => (intro w hSw; (try dsimp only at hSw); go_simp; first | done | with_reducible rfl)
  simp only [Act.put, List.setIfInBounds_toArray, List.set_cons_zero, List.set_cons_succ]
  refine wpAnyH_take (i := 23) (oi := { dst := some 12, op := Op.assign (Operand.tmp 40), type := 4, pos := "law.go:74", after := #[{ on := 22, ground := Ground.data }, { on := 21, ground := Ground.chain }, { on := 0, ground := Ground.phase }, { on := 1, ground := Ground.phase }, { on := 2, ground := Ground.phase }, { on := 3, ground := Ground.phase }, { on := 4, ground := Ground.phase }, { on := 5, ground := Ground.phase }, { on := 6, ground := Ground.phase }, { on := 7, ground := Ground.phase }, { on := 8, ground := Ground.phase }, { on := 9, ground := Ground.phase }, { on := 10, ground := Ground.phase }, { on := 11, ground := Ground.phase }, { on := 12, ground := Ground.phase }, { on := 13, ground := Ground.phase }, { on := 14, ground := Ground.phase }, { on := 15, ground := Ground.phase }, { on := 16, ground := Ground.phase }, { on := 17, ground := Ground.phase }, { on := 18, ground := Ground.phase }, { on := 19, ground := Ground.phase }, { on := 20, ground := Ground.phase }, { on := 21, ground := Ground.phase }, { on := 22, ground := Ground.phase }], guard := none }) (v := ?vgrows16) rfl (by kernel_rfl) (by kernel_rfl) (by kernel_rfl) (fun _ _ _ h => h) (Or.inl ⟨by rfl, ?ygrows16⟩) hk ?rgrows16
  case ygrows16 => (intro w hSw; (try dsimp only at hSw); go_simp; first | done | with_reducible rfl)
  simp only [Act.put, List.setIfInBounds_toArray, List.set_cons_zero, List.set_cons_succ]
  refine wpAnyH_done (by decide +kernel) ?_ _
  have hlow : Below w.heap.size w w21 := by rw [← HN.out]; exact hk.low
  clear hk hdy hdz
  go_wp2
  go_ret
  exact ⟨rfl, hlow⟩

set_option maxRecDepth 100000 in
/-- what the walk gives, for every argument and every world that holds the table -/
theorem contract (H : Type) (enc : TypeId × Value → H) (W : World) (base : Nat) (args : Array Value) (ds gs : List (DataW H)) (before : List MemPlace)
    (hval0 : ∀ (j : Nat) t v, Tryd.f8.params[j]? = some t → args[j]? = some v → Value.okWide Tryd.prog W .any base t v)
    (hW : DataW.Whole enc Tryd.prog Tryd.f8.params.toList Rows.merkleGrowsSpec.vars false W args.toList ds gs before) (hL : laidMetH Tryd.prog Rows.merkleGrowsRow.laid W) :
    Calls Tryd.prog 8 args W fun e W' => ∃ v, e = .returned v ∧ Rows.merkleGrowsSpec.post enc Tryd.prog Tryd.f8 false true false false W args v W' := by
  have htab := tab_of_laid hL
  have hval : ∀ (j : Nat) t v, Tryd.f8.params[j]? = some t → args[j]? = some v → Value.okWide Tryd.prog W .any base t v := hval0
  have hW' := hW
  obtain ⟨p, q, hA0, hV, rfl, hfz, hnd⟩ := hW
  have hA : DataW.TrodAll enc Tryd.prog W 0 (fun _ => true) true Tryd.f8.params.toList args.toList ds p := hA0
  rw [Tryd.params8] at hA hval
  obtain ⟨v0, vs0, d0, ds0, p0, q0, hargs, rfl, rfl, h0, r0⟩ := trodAll_cons hA
  obtain ⟨v1, vs1, d1, ds1, p1, q1, rfl, rfl, rfl, h1, r1⟩ := trodAll_cons r0
  obtain ⟨v2, vs2, d2, ds2, p2, q2, rfl, rfl, rfl, h2, r2⟩ := trodAll_cons r1
  obtain ⟨v3, vs3, d3, ds3, p3, q3, rfl, rfl, rfl, h3, r3⟩ := trodAll_cons r2
  obtain ⟨v4, vs4, d4, ds4, p4, q4, rfl, rfl, rfl, h4, r4⟩ := trodAll_cons r3
  obtain ⟨v5, vs5, d5, ds5, p5, q5, rfl, rfl, rfl, h5, r5⟩ := trodAll_cons r4
  obtain ⟨rfl, rfl, rfl⟩ := trodAll_nil r5
  obtain rfl : args = #[v0, v1, v2, v3, v4, v5] := by cases args; simp_all
  obtain ⟨rfl, rfl⟩ := trodVars_none hV
  obtain ⟨a4, len4, cap4, rfl⟩ := okWide_slice Tryd.underlying34 (hval 4 34 v4 rfl rfl)
  have k0 := h0
  have lt0 : ∀ x ∈ p0, x.block < W.heap.size := by obtain ⟨m, hm⟩ := k0; exact DataW.trod_lt m _ _ _ hm
  have k1 := h1
  have lt1 : ∀ x ∈ p1, x.block < W.heap.size := by obtain ⟨m, hm⟩ := k1; exact DataW.trod_lt m _ _ _ hm
  have k2 := h2
  have lt2 : ∀ x ∈ p2, x.block < W.heap.size := by obtain ⟨m, hm⟩ := k2; exact DataW.trod_lt m _ _ _ hm
  have k3 := h3
  have lt3 : ∀ x ∈ p3, x.block < W.heap.size := by obtain ⟨m, hm⟩ := k3; exact DataW.trod_lt m _ _ _ hm
  have k4 := h4
  have lt4 : ∀ x ∈ p4, x.block < W.heap.size := by obtain ⟨m, hm⟩ := k4; exact DataW.trod_lt m _ _ _ hm
  have k5 := h5
  have lt5 : ∀ x ∈ p5, x.block < W.heap.size := by obtain ⟨m, hm⟩ := k5; exact DataW.trod_lt m _ _ _ hm
  obtain ⟨first, rfl, hfirst⟩ := open_dig (hval 0 24 v0 rfl rfl) h0
  obtain ⟨x1, rfl, hx1⟩ := open_i64 (hval 1 3 v1 rfl rfl) h1
  obtain ⟨second, rfl, hsecond⟩ := open_dig (hval 2 24 v2 rfl rfl) h2
  obtain ⟨x3, rfl, hx3⟩ := open_i64 (hval 3 3 v3 rfl rfl) h3
  obtain ⟨L, hL⟩ := open_dgs h4
  obtain ⟨x5, rfl, hx5⟩ := open_i64 (hval 5 3 v5 rfl rfl) h5
  clear hA0 hval0
  refine (walk first x1 second x3 a4 len4 cap4 L x5 W hfirst hx1 hsecond hx3 hL hx5 htab).mono fun e W' ⟨he, bel⟩ => ?_
  subst he
  exact ⟨_, rfl, _, _, _, [], _, [], hW', trodAll_mk1 (shut_bool Tryd.underlying4 _), (trodAll_cons_mk (Below.trod laidOut (by kernel_rfl) (of_decide_eq_true (by kernel_rfl)) k0 bel lt0) (trodAll_cons_mk (Below.trod laidOut (by kernel_rfl) (of_decide_eq_true (by kernel_rfl)) k1 bel lt1) (trodAll_cons_mk (Below.trod laidOut (by kernel_rfl) (of_decide_eq_true (by kernel_rfl)) k2 bel lt2) (trodAll_cons_mk (Below.trod laidOut (by kernel_rfl) (of_decide_eq_true (by kernel_rfl)) k3 bel lt3) (trodAll_cons_mk (Below.trod laidOut (by kernel_rfl) (of_decide_eq_true (by kernel_rfl)) k4 bel lt4) (trodAll_cons_mk (Below.trod laidOut (by kernel_rfl) (of_decide_eq_true (by kernel_rfl)) k5 bel lt5) trodAll_mk0)))))), rfl, bel.frame _, fun h => by cases h⟩

set_option maxRecDepth 100000 in
theorem laid_met (os : Os) : laidMet Tryd.prog Rows.merkleGrowsRow.laid (({ World.holding Tryd.prog os ⟨#[], #[], []⟩ with heap := (World.holding Tryd.prog os ⟨#[], #[], []⟩).heap.setIfInBounds 0 (.cells (uv keyL).toArray 86) } : World).forCall (fun _ _ => 0) ⟨#[], #[.agg (bv (List.replicate 32 0)).toArray, .int .i64 0, .agg (bv (List.replicate 32 0)).toArray, .int .i64 0, .slice none 0 0, .int .i64 0], []⟩).memory :=
  laidMet_of_run' 8 (by kernel_rfl) (by kernel_rfl)
set_option maxRecDepth 100000 in
theorem reads (os : Os) {H : Type} (enc : TypeId × Value → H) : ∃ places, DataW.whole enc Tryd.prog (({ World.holding Tryd.prog os ⟨#[], #[], []⟩ with heap := (World.holding Tryd.prog os ⟨#[], #[], []⟩).heap.setIfInBounds 0 (.cells (uv keyL).toArray 86) } : World).forCall (fun _ _ => 0) ⟨#[], #[.agg (bv (List.replicate 32 0)).toArray, .int .i64 0, .agg (bv (List.replicate 32 0)).toArray, .int .i64 0, .slice none 0 0, .int .i64 0], []⟩).memory Tryd.f8.params.toList Rows.merkleGrowsSpec.vars false (#[.agg (bv (List.replicate 32 0)).toArray, .int .i64 0, .agg (bv (List.replicate 32 0)).toArray, .int .i64 0, .slice none 0 0, .int .i64 0] : Array Value).toList 8 = some ([.agg (List.replicate 32 (.lit (.int .u8 0))), .lit (.int .i64 0), .agg (List.replicate 32 (.lit (.int .u8 0))), .lit (.int .i64 0), .nil, .lit (.int .i64 0)], [], places) :=
  ⟨[], by kernel_rfl⟩
set_option maxRecDepth 100000 in
theorem lifted (os : Os) (started : os.Started) (H : Type) (enc : TypeId × Value → H) (F : Stop.Interp) :
    ReturnsInHanded {} Tryd.checked os 8 .any ((OpenSpec.ofChange Rows.merkleGrowsSpec).preRow enc Tryd.prog Tryd.f8 Rows.merkleGrowsRow.domain false Rows.merkleGrowsRow.laid) (((OpenSpec.ofChange Rows.merkleGrowsSpec).at F).post enc Tryd.prog Tryd.f8 false true false false) := by
  obtain ⟨places, hx⟩ := reads os enc
  refine returnsInHanded_of_row (C := Tryd.checked) (s := OpenSpec.ofChange Rows.merkleGrowsSpec) own started (by kernel_rfl) Tryd.func8
    (witness_row_at (enc := enc) (C := Tryd.checked) false ({ World.holding Tryd.prog os ⟨#[], #[], []⟩ with heap := (World.holding Tryd.prog os ⟨#[], #[], []⟩).heap.setIfInBounds 0 (.cells (uv keyL).toArray 86) } : World) #[.agg (bv (List.replicate 32 0)).toArray, .int .i64 0, .agg (bv (List.replicate 32 0)).toArray, .int .i64 0, .slice none 0 0, .int .i64 0] rfl (by kernel_rfl) (by kernel_rfl) (by kernel_rfl)
      (OpenSpec.preRow_of_cond 8 hx (by kernel_rfl) (fun k hk => by cases hk) (by kernel_rfl) (laid_met os))) ?_
  intro W base args ds gs before hval hW _ _ _ hL _ _
  exact contract H enc W base args ds gs before hval hW hL
theorem said : Rows.MerkleGrowsSaid :=
  OpenClaim.holds_of_cond 8 Tryd.f8 rfl rfl rfl rfl rfl rfl rfl ⟨rfl, rfl, rfl, rfl, rfl⟩ rfl rfl rfl rfl rfl (by kernel_rfl) Tryd.func8 (by kernel_rfl)
    (of_decide_eq_true (by kernel_rfl)) (by unfold Func.isWrapper; first | (rw [if_pos (by decide +kernel)]; kernel_rfl) | (rw [if_neg (by decide +kernel)]; exact ⟨rfl, rfl⟩))
    (fun os started H enc _ F => by rw [OpenClaim.pre_eq_preRow]; exact lifted os started H enc F)
theorem plain (f : FuncId) (fn : Func) (hf : Tryd.pinned.checked.prog.funcNamed "inquest/inquestlaw06.MerkleGrows" = some f) (hfn : Tryd.pinned.checked.prog.funcs[f]? = some fn) :
    false = Tryd.pinned.checked.prog.looks [] ∧ ∀ (j : Nat) t, fn.params[j]? = some t → Tryd.pinned.checked.prog.wantsStandIn t = false := by
  obtain rfl : f = 8 := Option.some.inj ((show Tryd.prog.funcNamed "inquest/inquestlaw06.MerkleGrows" = some 8 by kernel_rfl).symm.trans hf) |>.symm
  obtain rfl : fn = Tryd.f8 := (Option.some.inj (Tryd.func8.symm.trans hfn)).symm
  refine ⟨by kernel_rfl, fun j t ht => ?_⟩
  rw [Tryd.params8] at ht
  have hall : ([24, 3, 24, 3, 34, 3].all fun u => !Tryd.prog.wantsStandIn u) = true := by kernel_rfl
  have hm : t ∈ [24, 3, 24, 3, 34, 3] := by simpa using Array.mem_of_getElem? ht
  exact (show Tryd.prog.wantsStandIn t = false by simpa using List.all_eq_true.1 hall t hm)
/-- the tied card -/
theorem card : Rows.MerkleGrowsCardSaid :=
  Claim7.holds_tied_plain_at .later [] _ _ _ _ said (fun _ h => by cases h) (by kernel_rfl) (fun _ h => by cases h) merkleGrows_row_tie rfl ⟨rfl, rfl⟩ (by kernel_rfl) rfl plain (by kernel_rfl)
end Go.Proofs.YtaphbenkkicbhaaDoor.merkleGrows
namespace Go.Proofs.YtaphbenkkicbhaaDoor
theorem merkleGrows_holds : Rows.MerkleGrowsCardSaid := merkleGrows.card
#print axioms merkleGrows_holds
end Go.Proofs.YtaphbenkkicbhaaDoor
